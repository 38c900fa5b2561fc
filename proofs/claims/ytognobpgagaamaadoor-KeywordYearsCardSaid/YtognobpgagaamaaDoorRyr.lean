import Derived.Test.YtognobpgagaamaaDoorRmo
import Derived.Test.YtognobpgagaamaaDoorYrs
import Derived.Test.YtognobpgagaamaaDoorRpi
namespace Go.Proofs.YtognobpgagaamaaDoor
open Go.RowKit Go.Mem Go.Kwd Go.Esc

theorem rParse_any (l : Kwd.Bs) (w : World) (hl : l.length ≤ 999980) (p q : Int) (h : parsed l = (p, q)) : Calls Tryd.prog 32 #[strV l] w fun e w' => e = .returned (.tuple #[.int .i64 p, .int .i64 q]) ∧ w = w' := by
  have := rParseInt_any ⟨l.toArray⟩ w (by rw [str_size]; exact hl)
  rw [show (⟨l.toArray⟩ : ByteArray).data.toList = l from rfl, h] at this
  exact this
theorem rFrom_any (l : Kwd.Bs) (w : World) (hl : l.length ≤ 999980) (y : Int × Int) (hy : yearD (parsed l) = y) :
    Calls Tryd.prog 17 #[strV l] w fun e w' => e = .returned (.tuple #[.int .i64 y.1, .int .i64 y.2]) ∧ w = w' := by
  obtain ⟨p, q, hp⟩ : ∃ p q, parsed l = (p, q) := ⟨_, _, rfl⟩
  have HP := Lib.hid (rParse_any l w hl p q hp)
  rw [hp] at hy
  clear hp
  by_cases hq : q = 0
  · subst hq
    by_cases h1 : 1 ≤ p
    · by_cases h2 : p ≤ 9999
      · have hy : y = (p, 0) := by rw [← hy, yearD, if_pos ⟨rfl, h1, h2⟩]
        subst hy
        go_enter Tryd.func17, Tryd.ntmps17
        go_wp2_with fail
        refine HP.out.mono ?_
        rintro e w2 ⟨rfl, rfl⟩
        go_wp2_with fail
        go_ret2
        exact ⟨rfl, rfl⟩
      · have hy : y = (0, 8) := by rw [← hy, yearD, if_neg (fun h => h2 h.2.2)]
        subst hy
        go_enter Tryd.func17, Tryd.ntmps17
        go_wp2_with fail
        refine HP.out.mono ?_
        rintro e w2 ⟨rfl, rfl⟩
        go_wp2_with fail
        go_ret2
        exact ⟨rfl, rfl⟩
    · have hy : y = (0, 8) := by rw [← hy, yearD, if_neg (fun h => h1 h.2.1)]
      subst hy
      go_enter Tryd.func17, Tryd.ntmps17
      go_wp2_with fail
      refine HP.out.mono ?_
      rintro e w2 ⟨rfl, rfl⟩
      go_wp2_with fail
      go_ret2
      exact ⟨rfl, rfl⟩
  · have hy : y = (0, 8) := by rw [← hy, yearD, if_neg (fun h => hq h.1)]
    subst hy
    have hq' : (q != 0) = true := by simpa using hq
    clear hq
    go_enter Tryd.func17, Tryd.ntmps17
    go_wp2_with fail
    refine HP.out.mono ?_
    rintro e w2 ⟨rfl, rfl⟩
    go_wp2_with fail
    go_ret2
    exact ⟨rfl, rfl⟩
theorem rTo_any (l : Kwd.Bs) (fr : Int) (w : World) (hl : l.length ≤ 999980) (y : Int × Int) (hy : lastD (endD l) (yearD (parsed l)) fr = y) :
    Calls Tryd.prog 19 #[strV l, .int .i64 fr] w fun e w' => e = .returned (.tuple #[.int .i64 y.1, .int .i64 y.2]) ∧ Fr w w' (fun _ => False) := by
  obtain ⟨z, hz⟩ : ∃ z, endD l = z := ⟨_, rfl⟩
  have HF := Lib.hid (rfind_any l _ 3 3 ends _ (rd_new w 9 (0, 0) (ends.map strV)) (by omega) (by omega) (by decide) z hz)
  have hz3 := end_le l
  rw [hz] at hy hz3
  obtain ⟨p, q, hp⟩ : ∃ p q, yearD (parsed l) = (p, q) := ⟨_, _, rfl⟩
  have HR := Lib.hid (fun (W : World) => (show Calls Tryd.prog 17 #[strV l] W fun e w' => e = .returned (.tuple #[.int .i64 p, .int .i64 q]) ∧ W = w' from rFrom_any l W hl (p, q) hp))
  rw [hp] at hy
  clear hz hp
  have hcase : z = 1 ∨ z = 2 ∨ z = 0 ∨ z = 3 := by omega
  clear hz3
  rcases hcase with rfl | rfl | hcase
  · have hy : y = (fr, 0) := by rw [← hy]; rfl
    subst hy
    go_enter Tryd.func19, Tryd.ntmps19
    go_wp2_with fail
    refine HF.out.mono ?_
    rintro e w2 ⟨rfl, hf⟩
    have HF2 := Lib.hid (fr_alloc _ hf)
    clear hf
    go_wp2_with fail
    go_ret2
    exact ⟨rfl, HF2.out⟩
  · have hy : y = (10000, 0) := by rw [← hy]; rfl
    subst hy
    go_enter Tryd.func19, Tryd.ntmps19
    go_wp2_with fail
    refine HF.out.mono ?_
    rintro e w2 ⟨rfl, hf⟩
    have HF2 := Lib.hid (fr_alloc _ hf)
    clear hf
    go_wp2_with fail
    go_ret2
    exact ⟨rfl, HF2.out⟩
  · have hy : (if q = 0 ∧ fr ≤ p then (p, q) else (0, 8)) = y := by rcases hcase with rfl | rfl <;> exact hy
    have z1 : ((z : Int) == 1) = false := beq_eq_false_iff_ne.2 (by omega)
    have z2 : ((z : Int) == 2) = false := beq_eq_false_iff_ne.2 (by omega)
    clear hcase
    by_cases hq : q = 0
    · subst hq
      by_cases hfp : fr ≤ p
      · rw [if_pos ⟨rfl, hfp⟩] at hy
        subst hy
        go_enter Tryd.func19, Tryd.ntmps19
        go_wp2_with fail
        refine HF.out.mono ?_
        rintro e w2 ⟨rfl, hf⟩
        have HF2 := Lib.hid (fr_alloc _ hf)
        clear hf
        go_wp2_with fail
        refine (HR.out _).mono ?_
        rintro e w3 ⟨rfl, rfl⟩
        go_wp2_with fail
        go_ret2
        exact ⟨rfl, HF2.out⟩
      · rw [if_neg (fun h => hfp h.2)] at hy
        subst hy
        go_enter Tryd.func19, Tryd.ntmps19
        go_wp2_with fail
        refine HF.out.mono ?_
        rintro e w2 ⟨rfl, hf⟩
        have HF2 := Lib.hid (fr_alloc _ hf)
        clear hf
        go_wp2_with fail
        refine (HR.out _).mono ?_
        rintro e w3 ⟨rfl, rfl⟩
        go_wp2_with fail
        go_ret2
        exact ⟨rfl, HF2.out⟩
    · rw [if_neg (fun h => hq h.1)] at hy
      subst hy
      have hq' : (q != 0) = true := by simpa using hq
      clear hq
      go_enter Tryd.func19, Tryd.ntmps19
      go_wp2_with fail
      refine HF.out.mono ?_
      rintro e w2 ⟨rfl, hf⟩
      have HF2 := Lib.hid (fr_alloc _ hf)
      clear hf
      go_wp2_with fail
      refine (HR.out _).mono ?_
      rintro e w3 ⟨rfl, rfl⟩
      go_wp2_with fail
      go_ret2
      exact ⟨rfl, HF2.out⟩
theorem rShowTo_any (fr tt : Int) (w : World) (s : Kwd.Bs) (k : Int) (hs : showToD fr tt = (s, k)) :
    Calls Tryd.prog 21 #[.int .i64 fr, .int .i64 tt] w fun e w' => e = .returned (.tuple #[strV s, .int .i64 k]) ∧ Fr w w' (fun _ => False) := by
  unfold showToD at hs
  have HNN := Lib.hid (fun h => rInt_any tt w h)
  by_cases h1 : 1 ≤ fr
  · by_cases h2 : fr ≤ 9999
    · rw [if_neg (by simp; omega)] at hs
      by_cases h3 : tt = 10000
      · rw [if_pos h3] at hs
        obtain ⟨rfl, rfl⟩ := Prod.mk.inj hs
        subst h3
        have h5 : ((10000 : Int) == fr) = false := beq_eq_false_iff_ne.2 (by omega)
        clear hs HNN
        go_enter Tryd.func21, Tryd.ntmps21
        go_wp2_with fail
        go_ret2
        exact ⟨rfl, Fr.refl _ _⟩
      · rw [if_neg h3] at hs
        have e3 : (tt != 10000) = true := by simpa using h3
        have e4 : (tt == 10000) = false := by simpa using h3
        by_cases h4 : tt < fr
        · rw [if_pos (.inr h4)] at hs
          obtain ⟨rfl, rfl⟩ := Prod.mk.inj hs
          clear hs h3 HNN
          go_enter Tryd.func21, Tryd.ntmps21
          go_wp2_with fail
          go_ret2
          exact ⟨rfl, Fr.refl _ _⟩
        · by_cases h6 : tt ≤ 9999
          · rw [if_neg (by omega)] at hs
            by_cases h5 : tt = fr
            · rw [if_pos h5] at hs
              obtain ⟨rfl, rfl⟩ := Prod.mk.inj hs
              subst h5
              clear hs h3 HNN
              go_enter Tryd.func21, Tryd.ntmps21
              go_wp2_with fail
              go_ret2
              exact ⟨rfl, Fr.refl _ _⟩
            · rw [if_neg h5] at hs
              obtain ⟨rfl, rfl⟩ := Prod.mk.inj hs
              have e5 : (tt == fr) = false := by simpa using h5
              have HN := Lib.hid (HNN.out (by unfold Go.Esc.inRange; omega))
              generalize Go.Lib.itoa tt = t at *
              clear hs h5 h3 HNN
              go_enter Tryd.func21, Tryd.ntmps21
              go_wp2_with fail
              refine HN.out.mono ?_
              rintro e w2 ⟨rfl, hf⟩
              have HF := Lib.hid hf
              clear hf
              go_wp2_with fail
              go_ret2
              exact ⟨rfl, HF.out⟩
          · rw [if_pos (.inl (by omega))] at hs
            obtain ⟨rfl, rfl⟩ := Prod.mk.inj hs
            clear hs h3 HNN
            go_enter Tryd.func21, Tryd.ntmps21
            go_wp2_with fail
            go_ret2
            exact ⟨rfl, Fr.refl _ _⟩
    · rw [if_pos (by omega)] at hs
      obtain ⟨rfl, rfl⟩ := Prod.mk.inj hs
      clear hs HNN
      go_enter Tryd.func21, Tryd.ntmps21
      go_wp2_with fail
      go_ret2
      exact ⟨rfl, Fr.refl _ _⟩
  · rw [if_pos (by omega)] at hs
    obtain ⟨rfl, rfl⟩ := Prod.mk.inj hs
    clear hs HNN
    go_enter Tryd.func21, Tryd.ntmps21
    go_wp2_with fail
    go_ret2
    exact ⟨rfl, Fr.refl _ _⟩
end Go.Proofs.YtognobpgagaamaaDoor
