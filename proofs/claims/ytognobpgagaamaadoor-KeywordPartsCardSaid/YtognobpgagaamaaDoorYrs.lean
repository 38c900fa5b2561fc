import Derived.Test.YtognobpgagaamaaDoorMon
import Derived.Test.YtognobpgagaamaaDoorInt
namespace Go.Proofs.YtognobpgagaamaaDoor
open Go.RowKit Go.Mem Go.Kwd Go.Esc

theorem isYear_any (n : Int) (w : World) : Calls Tryd.prog 31 #[.int .i64 n] w fun e w' => e = .returned (.bool (decide (1 ≤ n ∧ n ≤ 9999))) ∧ w = w' := by
  obtain ⟨x, hx⟩ : ∃ x, decide (1 ≤ n ∧ n ≤ 9999) = x := ⟨_, rfl⟩
  rw [hx]
  have HX := Lib.hid hx
  clear hx
  by_cases h1 : 1 ≤ n
  all_goals by_cases h2 : n ≤ 9999
  all_goals
    go_enter Tryd.func31, Tryd.ntmps31
    go_wp2_with fail
    all_goals
      go_ret
      exact ⟨by rw [← HX.out]; simp [h1, h2], rfl⟩
theorem From_any (l : Kwd.Bs) (w : World) (hl : l.length ≤ 999990) (hw : WOk w) (y : Int × Int) (hy : yearD (parsed l) = y) :
    Calls Tryd.prog 16 #[strV l] w fun e w' => e = .returned (.tuple #[.int .i64 y.1, .int .i64 y.2]) ∧ Fr w w' (fun _ => False) := by
  have HP := Lib.hid (ParseInt_any l w hl hw)
  obtain ⟨p, q, hp⟩ : ∃ p q, parsed l = (p, q) := ⟨_, _, rfl⟩
  rw [hp] at hy HP
  have HP := Lib.hid (show Calls Tryd.prog 30 #[strV l] w fun e w' => e = .returned (.tuple #[.int .i64 p, .int .i64 q]) ∧ Fr w w' (fun _ => False) from HP.out)
  have HI := Lib.hid (fun W => isYear_any p W)
  clear hp hw
  by_cases hq : q = 0
  · subst hq
    cases hr : decide (1 ≤ p ∧ p ≤ 9999) with
    | true =>
      have hr' := of_decide_eq_true hr
      rw [hr] at HI
      have hy : y = (p, 0) := by rw [← hy, yearD, if_pos ⟨rfl, hr'⟩]
      subst hy
      obtain ⟨b1, b2⟩ := hr'
      clear hr
      go_enter Tryd.func16, Tryd.ntmps16
      go_wp2_with fail
      refine HP.out.mono ?_
      rintro e w2 ⟨rfl, hf⟩
      have HF := Lib.hid hf
      clear hf
      go_wp2_with fail
      refine (HI.out _).mono ?_
      rintro e w3 ⟨rfl, rfl⟩
      go_wp2_with fail
      go_ret2
      exact ⟨rfl, HF.out⟩
    | false =>
      have hr' := of_decide_eq_false hr
      rw [hr] at HI
      have hy : y = (0, 8) := by rw [← hy, yearD, if_neg (fun h => hr' h.2)]
      subst hy
      clear hr hr'
      go_enter Tryd.func16, Tryd.ntmps16
      go_wp2_with fail
      refine HP.out.mono ?_
      rintro e w2 ⟨rfl, hf⟩
      have HF := Lib.hid hf
      clear hf
      go_wp2_with fail
      refine (HI.out _).mono ?_
      rintro e w3 ⟨rfl, rfl⟩
      go_wp2_with fail
      go_ret2
      exact ⟨rfl, HF.out⟩
  · have hy : y = (0, 8) := by rw [← hy, yearD, if_neg (fun h => hq h.1)]
    subst hy
    have hq' : (q != 0) = true := by simpa using hq
    clear hq
    go_enter Tryd.func16, Tryd.ntmps16
    go_wp2_with fail
    refine HP.out.mono ?_
    rintro e w2 ⟨rfl, hf⟩
    have HF := Lib.hid hf
    clear hf
    go_wp2_with fail
    go_ret2
    exact ⟨rfl, HF.out⟩
theorem end_le (l : Kwd.Bs) : endD l ≤ 3 := by
  have := find_le (small l) ends 0 0 0 (by omega)
  simpa [endD, findD, ends] using this
theorem To_any (l : Kwd.Bs) (fr : Int) (w : World) (hl : l.length ≤ 999990) (hw : WOk w) (y : Int × Int) (hy : lastD (endD l) (yearD (parsed l)) fr = y) :
    Calls Tryd.prog 18 #[strV l, .int .i64 fr] w fun e w' => e = .returned (.tuple #[.int .i64 y.1, .int .i64 y.2]) ∧ Fr w w' (fun _ => False) := by
  obtain ⟨z, hz⟩ : ∃ z, endD l = z := ⟨_, rfl⟩
  have HF := Lib.hid (find_any l _ 3 3 ends _ (rd_new w 9 (0, 0) (ends.map strV)) (by omega) (by omega) (by decide) z (by rw [find_ends]; exact hz))
  have hz3 := end_le l
  rw [hz] at hy hz3
  obtain ⟨p, q, hp⟩ : ∃ p q, yearD (parsed l) = (p, q) := ⟨_, _, rfl⟩
  have HR := Lib.hid (fun (W : World) (f : Fr w W (fun _ => False)) => (show Calls Tryd.prog 16 #[strV l] W fun e w' => e = .returned (.tuple #[.int .i64 p, .int .i64 q]) ∧ Fr W w' (fun _ => False) from From_any l W hl (hw.fr f) (p, q) hp))
  rw [hp] at hy
  clear hz hp hw
  have hcase : z = 1 ∨ z = 2 ∨ z = 0 ∨ z = 3 := by omega
  clear hz3
  rcases hcase with rfl | rfl | hcase
  · have hy : y = (fr, 0) := by rw [← hy]; rfl
    subst hy
    go_enter Tryd.func18, Tryd.ntmps18
    go_wp2_with fail
    refine HF.out.mono ?_
    rintro e w2 ⟨rfl, hf⟩
    have HF2 := Lib.hid (fr_alloc _ hf)
    clear hf
    go_wp2_with fail
    go_ret2
    exact ⟨rfl, HF2.out⟩
  · have hy : y = (10000, 0) := by rw [← hy]; rfl
    subst hy
    go_enter Tryd.func18, Tryd.ntmps18
    go_wp2_with fail
    refine HF.out.mono ?_
    rintro e w2 ⟨rfl, hf⟩
    have HF2 := Lib.hid (fr_alloc _ hf)
    clear hf
    go_wp2_with fail
    go_ret2
    exact ⟨rfl, HF2.out⟩
  · have hy : (if q = 0 ∧ fr ≤ p then (p, q) else (0, 8)) = y := by rcases hcase with rfl | rfl <;> exact hy
    have z1 : ((z : Int) == 1) = false := beq_eq_false_iff_ne.2 (by omega)
    have z2 : ((z : Int) == 2) = false := beq_eq_false_iff_ne.2 (by omega)
    clear hcase
    by_cases hq : q = 0
    · subst hq
      by_cases hfp : fr ≤ p
      · rw [if_pos ⟨rfl, hfp⟩] at hy
        subst hy
        go_enter Tryd.func18, Tryd.ntmps18
        go_wp2_with fail
        refine HF.out.mono ?_
        rintro e w2 ⟨rfl, hf⟩
        have HF2 := Lib.hid (fr_alloc _ hf)
        clear hf
        go_wp2_with fail
        refine (HR.out _ HF2.out).mono ?_
        rintro e w3 ⟨rfl, hf⟩
        have HF3 := Lib.hid (ff HF2.out hf)
        clear hf
        go_wp2_with fail
        go_ret2
        exact ⟨rfl, HF3.out⟩
      · rw [if_neg (fun h => hfp h.2)] at hy
        subst hy
        go_enter Tryd.func18, Tryd.ntmps18
        go_wp2_with fail
        refine HF.out.mono ?_
        rintro e w2 ⟨rfl, hf⟩
        have HF2 := Lib.hid (fr_alloc _ hf)
        clear hf
        go_wp2_with fail
        refine (HR.out _ HF2.out).mono ?_
        rintro e w3 ⟨rfl, hf⟩
        have HF3 := Lib.hid (ff HF2.out hf)
        clear hf
        go_wp2_with fail
        go_ret2
        exact ⟨rfl, HF3.out⟩
    · rw [if_neg (fun h => hq h.1)] at hy
      subst hy
      have hq' : (q != 0) = true := by simpa using hq
      clear hq
      go_enter Tryd.func18, Tryd.ntmps18
      go_wp2_with fail
      refine HF.out.mono ?_
      rintro e w2 ⟨rfl, hf⟩
      have HF2 := Lib.hid (fr_alloc _ hf)
      clear hf
      go_wp2_with fail
      refine (HR.out _ HF2.out).mono ?_
      rintro e w3 ⟨rfl, hf⟩
      have HF3 := Lib.hid (ff HF2.out hf)
      clear hf
      go_wp2_with fail
      go_ret2
      exact ⟨rfl, HF3.out⟩
theorem ShowTo_any (fr tt : Int) (w : World) (hw : WOk w) (s : Kwd.Bs) (k : Int) (hs : showToD fr tt = (s, k)) :
    Calls Tryd.prog 20 #[.int .i64 fr, .int .i64 tt] w fun e w' => e = .returned (.tuple #[strV s, .int .i64 k]) ∧ Fr w w' (fun _ => False) := by
  have HA := Lib.hid (fun W => isYear_any fr W)
  have HB := Lib.hid (fun W => isYear_any tt W)
  unfold showToD at hs
  by_cases h1 : 1 ≤ fr ∧ fr ≤ 9999
  · rw [if_neg (by simpa using h1)] at hs
    rw [decide_eq_true h1] at HA
    by_cases h2 : tt = 10000
    · rw [if_pos h2] at hs
      obtain ⟨rfl, rfl⟩ := Prod.mk.inj hs
      subst h2
      clear hw hs h1
      go_enter Tryd.func20, Tryd.ntmps20
      go_wp2_with fail
      refine (HA.out _).mono ?_
      rintro e w2 ⟨rfl, rfl⟩
      go_wp2_with fail
      go_ret2
      exact ⟨rfl, Fr.refl _ _⟩
    · rw [if_neg h2] at hs
      have e2 : (tt == 10000) = false := by simpa using h2
      by_cases h3 : 1 ≤ tt ∧ tt ≤ 9999
      · rw [decide_eq_true h3] at HB
        by_cases h4 : tt < fr
        · rw [if_pos (.inr h4)] at hs
          obtain ⟨rfl, rfl⟩ := Prod.mk.inj hs
          clear hw hs h1 h2 h3
          go_enter Tryd.func20, Tryd.ntmps20
          go_wp2_with fail
          refine (HA.out _).mono ?_
          rintro e w2 ⟨rfl, rfl⟩
          go_wp2_with fail
          refine (HB.out _).mono ?_
          rintro e w2 ⟨rfl, rfl⟩
          go_wp2_with fail
          go_ret2
          exact ⟨rfl, Fr.refl _ _⟩
        · rw [if_neg (by rintro (h | h); exact h h3; exact h4 h)] at hs
          by_cases h5 : tt = fr
          · rw [if_pos h5] at hs
            obtain ⟨rfl, rfl⟩ := Prod.mk.inj hs
            subst h5
            clear hw hs h1 h2 h3
            go_enter Tryd.func20, Tryd.ntmps20
            go_wp2_with fail
            refine (HA.out _).mono ?_
            rintro e w2 ⟨rfl, rfl⟩
            go_wp2_with fail
            refine (HB.out _).mono ?_
            rintro e w2 ⟨rfl, rfl⟩
            go_wp2_with fail
            go_ret2
            exact ⟨rfl, Fr.refl _ _⟩
          · rw [if_neg h5] at hs
            obtain ⟨rfl, rfl⟩ := Prod.mk.inj hs
            have e5 : (tt == fr) = false := by simpa using h5
            have HN := Lib.hid (Int_any tt w (by unfold Go.Esc.inRange; omega) hw)
            generalize Go.Lib.itoa tt = t at *
            clear hw hs h1 h2 h3 h5
            go_enter Tryd.func20, Tryd.ntmps20
            go_wp2_with fail
            refine (HA.out _).mono ?_
            rintro e w2 ⟨rfl, rfl⟩
            go_wp2_with fail
            refine (HB.out _).mono ?_
            rintro e w2 ⟨rfl, rfl⟩
            go_wp2_with fail
            refine HN.out.mono ?_
            rintro e w2 ⟨rfl, hf⟩
            have HF := Lib.hid hf
            clear hf
            go_wp2_with fail
            go_ret2
            exact ⟨rfl, HF.out⟩
      · rw [decide_eq_false h3] at HB
        rw [if_pos (.inl h3)] at hs
        obtain ⟨rfl, rfl⟩ := Prod.mk.inj hs
        clear hw hs h1 h2 h3
        go_enter Tryd.func20, Tryd.ntmps20
        go_wp2_with fail
        refine (HA.out _).mono ?_
        rintro e w2 ⟨rfl, rfl⟩
        go_wp2_with fail
        refine (HB.out _).mono ?_
        rintro e w2 ⟨rfl, rfl⟩
        go_wp2_with fail
        go_ret2
        exact ⟨rfl, Fr.refl _ _⟩
  · rw [if_pos h1] at hs
    rw [decide_eq_false h1] at HA
    obtain ⟨rfl, rfl⟩ := Prod.mk.inj hs
    clear hw hs h1
    go_enter Tryd.func20, Tryd.ntmps20
    go_wp2_with fail
    refine (HA.out _).mono ?_
    rintro e w2 ⟨rfl, rfl⟩
    go_wp2_with fail
    go_ret2
    exact ⟨rfl, Fr.refl _ _⟩
end Go.Proofs.YtognobpgagaamaaDoor
