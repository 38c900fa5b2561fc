import Derived.Test.YtghcfmoagkimaaaDoorYb12
import Derived.Test.YtghcfmoagkimaaaDoorYb13
import Derived.Lib.MinMax
import Derived.Test.YtghcfmoagkimaaaDoorYb09
namespace Go.Proofs.YtghcfmoagkimaaaDoor
open Go.RowKit Go.Mem Go.Lin Go.Fmx

theorem f16side_any (f : Bs) (dst : Bool) (i : Nat) (hf : f.length ≤ 1000) (h : findD f [47] = some i) (w : World) (hw : MOk w) : Calls Tryd.prog 20 #[strV f, .bool dst] w fun e w' => e = .returned (strV (if dst = true then f.drop (i + 1) else f.take i)) ∧ Fr w w' (fun _ => False) := by
  have HC := Lib.hid (cut16_any f [47] i (by omega) (by decide) h w hw)
  clear hf h hw
  cases dst with
  | true =>
    rw [if_pos rfl]
    go_enter Tryd.func20, Tryd.ntmps20
    go_wp2_with fail
    refine HC.out.mono ?_
    rintro e w1 ⟨rfl, f1⟩
    have F1 := Lib.hid f1
    clear f1
    go_wp2_with fail
    go_ret
    exact ⟨rfl, F1.out⟩
  | false =>
    rw [if_neg (by decide)]
    go_enter Tryd.func20, Tryd.ntmps20
    go_wp2_with fail
    refine HC.out.mono ?_
    rintro e w1 ⟨rfl, f1⟩
    have F1 := Lib.hid f1
    clear f1
    go_wp2_with fail
    go_ret
    exact ⟨rfl, F1.out⟩
theorem f16fill_any (f letter : Bs) (off : Int) (dst : Bool) (ho : -180000 ≤ off ∧ off ≤ 180000) (hf : f.length ≤ 1000) (hl : letter.length ≤ 1000) (w : World) (hw : MOk w) : Calls Tryd.prog 11 #[strV f, strV letter, intV off, .bool dst] w fun e w' => e = .returned (strV (abbrT f letter off dst)) ∧ Fr w w' (fun _ => False) := by
  have HM := Lib.hid (fun W (g : Fr w W (fun _ => False)) => hw.fr g)
  have HS := contains16_any f [37, 115] (by omega) (by decide) w hw
  have HZ := contains16_any f [37, 122] (by omega) (by decide) w hw
  have HD := contains16_any f [47] (by omega) (by decide) w hw
  have HG := Lib.hid (f16digits_any off ho.1 ho.2 w)
  have n3 := digD_len off
  cases hs : findD f [37, 115] with
  | some i =>
    rw [hs] at HS
    have HR := replace16_any f [37, 115] letter i hf hl (by decide) hs w hw
    have eT : f.take i ++ letter ++ f.drop (i + ([37, 115] : Bs).length) = abbrT f letter off dst := (abbrT_s hs).symm
    rw [eT] at HR
    clear eT
    generalize abbrT f letter off dst = T at *
    have HR := Lib.hid HR
    have HS := Lib.hid HS
    clear HZ HD HG hs ho hf hl hw n3
    go_enter Tryd.func11, Tryd.ntmps11
    go_wp2_with fail
    refine HS.out.mono ?_
    rintro e w1 ⟨rfl, rfl⟩
    go_wp2_with fail
    refine HR.out.mono ?_
    rintro e w2 ⟨rfl, f2⟩
    have F2 := Lib.hid f2
    clear f2
    go_wp2_with fail
    go_ret
    exact ⟨rfl, F2.out⟩
  | none =>
    rw [hs] at HS
    have HS := Lib.hid HS
    cases hz : findD f [37, 122] with
    | some i =>
      rw [hz] at HZ
      have HR := fun W (g : Fr w W (fun _ => False)) => replace16_any f [37, 122] (digD off) i hf (by omega) (by decide) hz W (hw.fr g)
      have eT : f.take i ++ digD off ++ f.drop (i + ([37, 122] : Bs).length) = abbrT f letter off dst := (abbrT_z hs hz).symm
      simp only [eT] at HR
      clear eT
      generalize abbrT f letter off dst = T at *
      have HR := Lib.hid HR
      have HZ := Lib.hid HZ
      clear HD hs hz ho hf hl hw n3
      go_enter Tryd.func11, Tryd.ntmps11
      go_wp2_with fail
      refine HS.out.mono ?_
      rintro e w1 ⟨rfl, rfl⟩
      go_wp2_with fail
      refine HZ.out.mono ?_
      rintro e w2 ⟨rfl, rfl⟩
      go_wp2_with fail
      refine HG.out.mono ?_
      rintro e w3 ⟨rfl, f3⟩
      have F3 := Lib.hid f3
      clear f3
      go_wp2_with fail
      refine (HR.out _ F3.out).mono ?_
      rintro e w4 ⟨rfl, f4⟩
      have F4 := Lib.hid (ff4 F3.out f4)
      clear f4
      go_wp2_with fail
      go_ret
      exact ⟨rfl, F4.out⟩
    | none =>
      rw [hz] at HZ
      have HZ := Lib.hid HZ
      cases hd : findD f [47] with
      | some i =>
        have hT : abbrT f letter off dst = if dst = true then f.drop (i + 1) else f.take i := by
          cases dst with
          | true => rw [abbrT_d hs hz hd, if_pos rfl]
          | false => rw [abbrT_w hs hz hd, if_neg (by decide)]
        rw [hT]
        rw [hd] at HD
        have HR := Lib.hid (f16side_any f dst i hf hd w hw)
        have HD := Lib.hid HD
        obtain ⟨T, hT2⟩ : ∃ T, (if dst = true then f.drop (i + 1) else f.take i) = T := ⟨_, rfl⟩
        rw [hT2] at HR ⊢
        clear HG hs hz hd ho hf hl hw n3 hT hT2
        go_enter Tryd.func11, Tryd.ntmps11
        go_wp2_with fail
        refine HS.out.mono ?_
        rintro e w1 ⟨rfl, rfl⟩
        go_wp2_with fail
        refine HZ.out.mono ?_
        rintro e w2 ⟨rfl, rfl⟩
        go_wp2_with fail
        refine HD.out.mono ?_
        rintro e w3 ⟨rfl, rfl⟩
        go_wp2_with fail
        refine HR.out.mono ?_
        rintro e w4 ⟨rfl, f4⟩
        have F4 := Lib.hid f4
        clear f4
        go_wp2_with fail
        go_ret
        exact ⟨rfl, F4.out⟩
      | none =>
        rw [abbrT_n hs hz hd]
        rw [hd] at HD
        have HD := Lib.hid HD
        clear HG hs hz hd ho hf hl hw n3
        go_enter Tryd.func11, Tryd.ntmps11
        go_wp2_with fail
        refine HS.out.mono ?_
        rintro e w1 ⟨rfl, rfl⟩
        go_wp2_with fail
        refine HZ.out.mono ?_
        rintro e w2 ⟨rfl, rfl⟩
        go_wp2_with fail
        refine HD.out.mono ?_
        rintro e w3 ⟨rfl, rfl⟩
        go_wp2_with fail
        go_ret
        exact ⟨rfl, Fr.refl _ _⟩
theorem abbrT_len (f letter : Bs) (off : Int) (dst : Bool) (hf : f.length ≤ 1000) (hl : letter.length ≤ 1000) : (abbrT f letter off dst).length ≤ 3000 := by
  have := digD_len off
  unfold abbrT
  cases findD f [37, 115] with
  | some i => simp; omega
  | none =>
    cases findD f [37, 122] with
    | some i => simp; omega
    | none =>
      cases findD f [47] with
      | some i => dsimp only; split <;> simp <;> omega
      | none => dsimp only; omega
theorem f16Abbr_any (f letter : Bs) (off : Int) (dst : Bool) (w : World) (hw : MOk w) (hf : f.length ≤ 1000) (hl : letter.length ≤ 1000) : Calls Tryd.prog 8 #[strV f, strV letter, intV off, .bool dst] w fun e w' => e = .returned (.tuple #[strV (abbrD f letter off dst).1, intV (abbrD f letter off dst).2]) ∧ Fr w w' (fun _ => False) := by
  by_cases ho : off < -180000 ∨ 180000 < off
  · have HA := Lib.hid (abbr_arg (f := f) (letter := letter) (dst := dst) ho)
    clear hw
    rcases ho with ho | ho
    · go_enter Tryd.func8, Tryd.ntmps8
      go_wp2_with fail
      go_ret2
      exact ⟨by rw [HA.out]; rfl, Fr.refl _ _⟩
    · have ho2 : -180000 ≤ off := by omega
      go_enter Tryd.func8, Tryd.ntmps8
      go_wp2_with fail
      go_ret2
      exact ⟨by rw [HA.out]; rfl, Fr.refl _ _⟩
  · have HY := abbr_yes (f := f) (letter := letter) (dst := dst) ho
    have HN := abbr_no (f := f) (letter := letter) (dst := dst) ho
    have o1 : -180000 ≤ off := by omega
    have o2 : off ≤ 180000 := by omega
    have HF := Lib.hid (f16fill_any f letter off dst ⟨o1, o2⟩ hf hl w hw)
    have hT := abbrT_len f letter off dst hf hl
    have HP := Lib.hid (fun w => f16PlainW (abbrT f letter off dst) w (by omega))
    clear ho hw hf hl hT
    generalize abbrT f letter off dst = T at *
    cases hp : plainB T with
    | true =>
      rw [HY hp]
      rw [hp] at HP
      clear HY HN hp
      go_enter Tryd.func8, Tryd.ntmps8
      go_wp2_with fail
      refine HF.out.mono ?_
      rintro e w1 ⟨rfl, f1⟩
      have F1 := Lib.hid f1
      clear f1
      go_wp2_with fail
      refine (HP.out _).mono ?_
      rintro e w2 ⟨rfl, rfl⟩
      go_wp2_with fail
      go_ret2
      exact ⟨rfl, F1.out⟩
    | false =>
      rw [HN hp]
      rw [hp] at HP
      clear HY HN hp
      go_enter Tryd.func8, Tryd.ntmps8
      go_wp2_with fail
      refine HF.out.mono ?_
      rintro e w1 ⟨rfl, f1⟩
      have F1 := Lib.hid f1
      clear f1
      go_wp2_with fail
      refine (HP.out _).mono ?_
      rintro e w2 ⟨rfl, rfl⟩
      go_wp2_with fail
      go_ret2
      exact ⟨rfl, F1.out⟩
end Go.Proofs.YtghcfmoagkimaaaDoor
namespace Go.Proofs.YtghcfmoagkimaaaDoor
open Go.RowKit Go.Mem Go.Lin Go.Fmx

theorem f16bounded_any (n : Int) (w : World) : Calls Tryd.prog 13 #[intV n] w fun e w' => e = .returned (intV (max (-180001) (min n 180001))) ∧ w' = w := by
  go_enter Tryd.func13, Tryd.ntmps13
  go_wp2_with fail
  go_ret
  exact ⟨rfl, rfl⟩
/-- beyond what an abbreviation can be asked for -/
def Beyond (n : Int) : Prop := n < -180000 ∨ 180000 < n
theorem f16together_any (a b : Int) (ha : -1000000 ≤ a ∧ a ≤ 1000000) (hb : -1000000 ≤ b ∧ b ≤ 1000000) : ∃ r, (r = a + b ∨ Beyond r ∧ Beyond (a + b)) ∧ ∀ w : World, Calls Tryd.prog 9 #[intV a, intV b] w fun e w' => e = .returned (intV r) ∧ w' = w := by
  obtain ⟨a1, a2⟩ := ha
  obtain ⟨b1, b2⟩ := hb
  by_cases hs : (a < 0) = (b < 0)
  · obtain ⟨x, hx⟩ : ∃ x, max (-180001) (min a 180001) = x := ⟨_, rfl⟩
    obtain ⟨y, hy⟩ : ∃ y, max (-180001) (min b 180001) = y := ⟨_, rfl⟩
    have HX := f16bounded_any a
    have HY := f16bounded_any b
    rw [hx] at HX
    rw [hy] at HY
    have HX := Lib.hid HX
    have HY := Lib.hid HY
    have x1 : -180001 ≤ x ∧ x ≤ 180001 := by omega
    have y1 : -180001 ≤ y ∧ y ≤ 180001 := by omega
    refine ⟨x + y, ?_, ?_⟩
    · have hs2 : a < 0 ↔ b < 0 := by rw [hs]
      unfold Beyond
      omega
    · obtain ⟨x1, x2⟩ := x1
      obtain ⟨y1, y2⟩ := y1
      have t1 : (decide (a < 0) == decide (b < 0)) = true := by
        rw [beq_iff_eq]
        exact decide_eq_decide.2 (by rw [hs])
      clear hx hy hs
      intro w
      go_enter Tryd.func9, Tryd.ntmps9
      go_wp2_with fail
      refine (HX.out _).mono ?_
      rintro e w1 ⟨rfl, rfl⟩
      go_wp2_with fail
      refine (HY.out _).mono ?_
      rintro e w1 ⟨rfl, rfl⟩
      go_wp2_with fail
      go_ret
      exact ⟨rfl, rfl⟩
  · refine ⟨a + b, .inl rfl, ?_⟩
    have t1 : (decide (a < 0) == decide (b < 0)) = false := by
      rw [beq_eq_false_iff_ne]
      exact fun h => hs (propext (decide_eq_decide.1 h))
    clear hs
    intro w
    go_enter Tryd.func9, Tryd.ntmps9
    go_wp2_with fail
    go_ret
    exact ⟨rfl, rfl⟩
theorem abbr_beyond {f l : Bs} {r s : Int} {d : Bool} (h : r = s ∨ Beyond r ∧ Beyond s) : abbrD f l r d = abbrD f l s d := by
  rcases h with rfl | ⟨h1, h2⟩
  · rfl
  · rw [abbr_arg h1, abbr_arg h2]
theorem abbr_ok {f l : Bs} {r : Int} {d : Bool} {a : Bs} (h : abbrD f l r d = (a, 0)) : ¬ Beyond r := by
  intro hb
  rw [abbr_arg hb] at h
  cases h
end Go.Proofs.YtghcfmoagkimaaaDoor
namespace Go.Proofs.YtghcfmoagkimaaaDoor
open Go.RowKit Go.Mem Go.Lin Go.Fmx

set_option maxHeartbeats 6400000 in
set_option maxRecDepth 100000 in
theorem r16Abbr_any (f letter : Bs) (off : Int) (dst : Bool) (w : World) (hf : f.length ≤ 1000) (hl : letter.length ≤ 1000) : Calls Tryd.prog 10 #[strV f, strV letter, intV off, .bool dst] w fun e w' => e = .returned (.tuple #[strV (abbrD f letter off dst).1, intV (abbrD f letter off dst).2]) ∧ Fr w w' (fun _ => False) := by
  by_cases ho : off < -180000 ∨ 180000 < off
  · have HA := Lib.hid (abbr_arg (f := f) (letter := letter) (dst := dst) ho)
    rcases ho with ho | ho
    · go_enter Tryd.func10, Tryd.ntmps10
      go_wp2_with fail
      go_ret2
      exact ⟨by rw [HA.out]; rfl, Fr.refl _ _⟩
    · have ho2 : -180000 ≤ off := by omega
      go_enter Tryd.func10, Tryd.ntmps10
      go_wp2_with fail
      go_ret2
      exact ⟨by rw [HA.out]; rfl, Fr.refl _ _⟩
  · have HY := Lib.hid (abbr_yes (f := f) (letter := letter) (dst := dst) ho)
    have HN := Lib.hid (abbr_no (f := f) (letter := letter) (dst := dst) ho)
    have o1 : -180000 ≤ off := by omega
    have o2 : off ≤ 180000 := by omega
    have Hs := r16find_any f [37, 115]
    have Hz := r16find_any f [37, 122]
    have Hd := r16find_any f [47]
    clear ho
    cases hs : findD f [37, 115] with
    | some i =>
      have hi := (find_here hs).1.1
      have hi : i + 2 ≤ f.length := hi
      have n1 : (f.take i).length ≤ 1000 := by simp; omega
      have n2 : (f.drop (i + 2)).length ≤ 1000 := by simp; omega
      have S1 := fun w => sl_hi (P := Tryd.prog) w 9 Tryd.underlying9 f (f.take i) (i : Int) i rfl (by omega) rfl
      have S2 := fun w => sl_lo (P := Tryd.prog) w 9 Tryd.underlying9 f (f.drop (i + 2)) ((i : Int) + 2) (i + 2) (by omega) hi rfl
      have HT := abbrT_s (letter := letter) (off := off) (dst := dst) hs
      have i0 : (0 : Int) ≤ (i : Int) := by omega
      have i9 : (i : Int) ≤ 1000 := by omega
      have Fs := Lib.hid (fun w => (by have h := Hs w (by omega) ⟨by decide, by decide⟩; rw [hs] at h; exact h : Calls Tryd.prog 14 #[strV f, strV [37, 115]] w fun e w' => e = .returned (intV (i)) ∧ w' = w))
      rw [HT] at HY HN
      generalize f.take i = X at *
      generalize f.drop (i + 2) = Y at *
      have a1 := fun w => S6.run_add_str (P := Tryd.prog) w X letter (by omega)
      have a2 := fun w => S6.run_add_str (P := Tryd.prog) w (X ++ letter) Y (by simp; omega)
      have HP := r16Plain_any (X ++ letter ++ Y)
      obtain ⟨T, hT⟩ : ∃ T, X ++ letter ++ Y = T := ⟨_, rfl⟩
      have hTl : T.length ≤ 1000000 := by rw [← hT]; simp; omega
      rw [hT] at HY HN HP a2
      have HP := Lib.hid (fun w => HP w hTl)
      clear hs hi HT Hs Hz Hd hTl hT
      cases hb : plainB T with
      | true =>
        have HA := Lib.hid (HY.out hb)
        rw [hb] at HP
        clear HY HN hb
        go_enter Tryd.func10, Tryd.ntmps10
        go_wp2_with fail
        refine (Fs.out _).mono ?_
        rintro e w1 ⟨rfl, rfl⟩
        go_wp2_with fail
        go_quiet (fail)
        go_wp2_with fail
        refine (HP.out _).mono ?_
        rintro e w9 ⟨rfl, rfl⟩
        go_wp2_with fail
        go_ret2
        exact ⟨by rw [HA.out]; rfl, Fr.drewN _ _ _⟩
      | false =>
        have HA := Lib.hid (HN.out hb)
        rw [hb] at HP
        clear HY HN hb
        go_enter Tryd.func10, Tryd.ntmps10
        go_wp2_with fail
        refine (Fs.out _).mono ?_
        rintro e w1 ⟨rfl, rfl⟩
        go_wp2_with fail
        go_quiet (fail)
        go_wp2_with fail
        refine (HP.out _).mono ?_
        rintro e w9 ⟨rfl, rfl⟩
        go_wp2_with fail
        go_ret2
        exact ⟨by rw [HA.out]; rfl, Fr.drewN _ _ _⟩
    | none =>
      cases hz : findD f [37, 122] with
      | some i =>
        have hi := (find_here hz).1.1
        have hi : i + 2 ≤ f.length := hi
        have n1 : (f.take i).length ≤ 1000 := by simp; omega
        have n2 : (f.drop (i + 2)).length ≤ 1000 := by simp; omega
        have S1 := fun w => sl_hi (P := Tryd.prog) w 9 Tryd.underlying9 f (f.take i) (i : Int) i rfl (by omega) rfl
        have S2 := fun w => sl_lo (P := Tryd.prog) w 9 Tryd.underlying9 f (f.drop (i + 2)) ((i : Int) + 2) (i + 2) (by omega) hi rfl
        have hwi : IntKind.i64.wrap ((i : Int) + 2) = (i : Int) + 2 := by rw [IntKind.wrap_i64]; omega
        have n3 := digD_len off
        have HDg := Lib.hid (fun w => r16dig_any off o1 o2 w)
        have HT := abbrT_z (letter := letter) (off := off) (dst := dst) hs hz
        have i0 : (0 : Int) ≤ (i : Int) := by omega
        have i9 : (i : Int) ≤ 1000 := by omega
        have Fs := Lib.hid (fun w => (by have h := Hs w (by omega) ⟨by decide, by decide⟩; rw [hs] at h; exact h : Calls Tryd.prog 14 #[strV f, strV [37, 115]] w fun e w' => e = .returned (intV (-1)) ∧ w' = w))
        have Fz := Lib.hid (fun w => (by have h := Hz w (by omega) ⟨by decide, by decide⟩; rw [hz] at h; exact h : Calls Tryd.prog 14 #[strV f, strV [37, 122]] w fun e w' => e = .returned (intV (i)) ∧ w' = w))
        rw [HT] at HY HN
        generalize f.take i = X at *
        generalize f.drop (i + 2) = Y at *
        generalize digD off = D at *
        have a1 := fun w => S6.run_add_str (P := Tryd.prog) w X D (by omega)
        have a2 := fun w => S6.run_add_str (P := Tryd.prog) w (X ++ D) Y (by simp; omega)
        have HP := r16Plain_any (X ++ D ++ Y)
        obtain ⟨T, hT⟩ : ∃ T, X ++ D ++ Y = T := ⟨_, rfl⟩
        have hTl : T.length ≤ 1000000 := by rw [← hT]; simp; omega
        rw [hT] at HY HN HP a2
        have HP := Lib.hid (fun w => HP w hTl)
        clear hs hz hi HT Hs Hz Hd hTl hT
        cases hb : plainB T with
        | true =>
          have HA := Lib.hid (HY.out hb)
          rw [hb] at HP
          clear HY HN hb
          go_enter Tryd.func10, Tryd.ntmps10
          go_wp2_with fail
          refine (Fs.out _).mono ?_
          rintro e w1 ⟨rfl, rfl⟩
          go_wp2_with fail
          refine (Fz.out _).mono ?_
          rintro e w2 ⟨rfl, rfl⟩
          go_wp2_with fail
          refine wp_region_held_drew (S := fun w' => Fr w2 w' (fun _ => False)) (by kernel_rfl) (Fr.drew w2 _) (fun hHeld => ?_)
          refine wpAnyH_take (i := 0) (v := ?_) rfl (by kernel_rfl) (by kernel_rfl) (by kernel_rfl) (fun _ _ _ h => h) (Or.inl ⟨by rfl, ?_⟩) (by assumption) ?_
          rotate_left
          · intro w' hSw
            go_simp
            try with_reducible rfl
          try simp only [Act.put, List.setIfInBounds_toArray, List.set_cons_zero, List.set_cons_succ, List.getElem_toArray, List.getElem_cons_zero]
          refine wpAnyH_take (i := 1) (v := ?_) rfl (by kernel_rfl) (by kernel_rfl) (by kernel_rfl) (fun _ _ _ h => h) (Or.inl ⟨by rfl, ?_⟩) (by assumption) ?_
          rotate_left
          · intro w' hSw
            go_simp
            try with_reducible rfl
          try simp only [Act.put, List.setIfInBounds_toArray, List.set_cons_zero, List.set_cons_succ, List.getElem_toArray, List.getElem_cons_succ, List.getElem_cons_zero]
          refine wpAnyH_take (i := 2) (v := ?_) rfl (by kernel_rfl) (by kernel_rfl) (by kernel_rfl) (fun _ _ _ h => h) (Or.inl ⟨by rfl, ?_⟩) (by assumption) ?_
          rotate_left
          · intro w' hSw
            go_simp
            try with_reducible rfl
          try simp only [Act.put, List.setIfInBounds_toArray, List.set_cons_zero, List.set_cons_succ, List.getElem_toArray, List.getElem_cons_succ, List.getElem_cons_zero]
          refine wpAnyH_take (i := 3) (v := ?_) rfl (by kernel_rfl) (by kernel_rfl) (by kernel_rfl) (fun _ _ _ h => h) (Or.inl ⟨by rfl, ?_⟩) (by assumption) ?_
          rotate_left
          · intro w' hSw
            go_simp
            try with_reducible rfl
          try simp only [Act.put, List.setIfInBounds_toArray, List.set_cons_zero, List.set_cons_succ, List.getElem_toArray, List.getElem_cons_succ, List.getElem_cons_zero]
          refine wpAnyH_take (i := 6) (v := ?_) rfl (by kernel_rfl) (by kernel_rfl) (by kernel_rfl) (fun _ _ _ h => h) (Or.inl ⟨by rfl, ?_⟩) (by assumption) ?_
          rotate_left
          · intro w' hSw
            go_simp
            try with_reducible rfl
          try simp only [Act.put, List.setIfInBounds_toArray, List.set_cons_zero, List.set_cons_succ, List.getElem_toArray, List.getElem_cons_succ, List.getElem_cons_zero]
          refine wpAnyH_take (i := 7) (v := ?_) rfl (by kernel_rfl) (by kernel_rfl) (by kernel_rfl) (fun _ _ _ h => h) (Or.inl ⟨by rfl, ?_⟩) (by assumption) ?_
          rotate_left
          · intro w' hSw
            go_simp
            try with_reducible rfl
          try simp only [Act.put, List.setIfInBounds_toArray, List.set_cons_zero, List.set_cons_succ, List.getElem_toArray, List.getElem_cons_succ, List.getElem_cons_zero]
          refine wpAnyH_take (i := 8) (v := ?_) rfl (by kernel_rfl) (by kernel_rfl) (by kernel_rfl) (fun _ _ _ h => h) (Or.inl ⟨by rfl, ?_⟩) (by assumption) ?_
          rotate_left
          · intro w' hSw
            go_simp
            try with_reducible rfl
          try simp only [Act.put, List.setIfInBounds_toArray, List.set_cons_zero, List.set_cons_succ, List.getElem_toArray, List.getElem_cons_succ, List.getElem_cons_zero]
          refine wpAnyH_take (i := 9) (v := ?_) rfl (by kernel_rfl) (by kernel_rfl) (by kernel_rfl) (fun _ _ _ h => h) (Or.inl ⟨by rfl, ?_⟩) (by assumption) ?_
          rotate_left
          · intro w' hSw
            go_simp
            try with_reducible rfl
          try simp only [Act.put, List.setIfInBounds_toArray, List.set_cons_zero, List.set_cons_succ, List.getElem_toArray, List.getElem_cons_succ, List.getElem_cons_zero]
          refine wpAnyH_ready (rs := [4]) (by kernel_rfl) (by simp) ?_
          refine AllReadyH.cons rfl (fun K hK => ?_) AllReadyH.nil
          go_simp
          refine (HDg.out _).mono ?_
          rintro e w4 ⟨rfl, hf4⟩
          refine hK.out _ _ (ff4 hHeld hf4) (fun hHeld2 => ?_)
          clear hK K hHeld hf4
          rename_i hHeld2
          have hHeld := hHeld2
          clear hHeld2
          try simp only [Act.put, List.setIfInBounds_toArray, List.set_cons_zero, List.set_cons_succ, List.getElem_toArray, List.getElem_cons_succ, List.getElem_cons_zero]
          refine wpAnyH_take (i := 5) (v := ?_) rfl (by kernel_rfl) (by kernel_rfl) (by kernel_rfl) (fun _ _ _ h => h) (Or.inl ⟨by rfl, ?_⟩) (by assumption) ?_
          rotate_left
          · intro w' hSw
            go_simp
            try with_reducible rfl
          try simp only [Act.put, List.setIfInBounds_toArray, List.set_cons_zero, List.set_cons_succ, List.getElem_toArray, List.getElem_cons_succ, List.getElem_cons_zero]
          refine wpAnyH_take (i := 10) (v := ?_) rfl (by kernel_rfl) (by kernel_rfl) (by kernel_rfl) (fun _ _ _ h => h) (Or.inl ⟨by rfl, ?_⟩) (by assumption) ?_
          rotate_left
          · intro w' hSw
            go_simp
            try with_reducible rfl
          try simp only [Act.put, List.setIfInBounds_toArray, List.set_cons_zero, List.set_cons_succ, List.getElem_toArray, List.getElem_cons_succ, List.getElem_cons_zero]
          refine wpAnyH_take (i := 11) (v := ?_) rfl (by kernel_rfl) (by kernel_rfl) (by kernel_rfl) (fun _ _ _ h => h) (Or.inl ⟨by rfl, ?_⟩) (by assumption) ?_
          rotate_left
          · intro w' hSw
            go_simp
            try with_reducible rfl
          try simp only [Act.put, List.setIfInBounds_toArray, List.set_cons_zero, List.set_cons_succ, List.getElem_toArray, List.getElem_cons_succ, List.getElem_cons_zero]
          refine wpAnyH_done (by kernel_rfl) ?_ _
          go_wp2_with fail
          refine (HP.out _).mono ?_
          rintro e w9 ⟨rfl, rfl⟩
          go_wp2_with fail
          go_ret2
          exact ⟨by rw [HA.out]; rfl, hHeld⟩
        | false =>
          have HA := Lib.hid (HN.out hb)
          rw [hb] at HP
          clear HY HN hb
          go_enter Tryd.func10, Tryd.ntmps10
          go_wp2_with fail
          refine (Fs.out _).mono ?_
          rintro e w1 ⟨rfl, rfl⟩
          go_wp2_with fail
          refine (Fz.out _).mono ?_
          rintro e w2 ⟨rfl, rfl⟩
          go_wp2_with fail
          refine wp_region_held_drew (S := fun w' => Fr w2 w' (fun _ => False)) (by kernel_rfl) (Fr.drew w2 _) (fun hHeld => ?_)
          refine wpAnyH_take (i := 0) (v := ?_) rfl (by kernel_rfl) (by kernel_rfl) (by kernel_rfl) (fun _ _ _ h => h) (Or.inl ⟨by rfl, ?_⟩) (by assumption) ?_
          rotate_left
          · intro w' hSw
            go_simp
            try with_reducible rfl
          try simp only [Act.put, List.setIfInBounds_toArray, List.set_cons_zero, List.set_cons_succ, List.getElem_toArray, List.getElem_cons_zero]
          refine wpAnyH_take (i := 1) (v := ?_) rfl (by kernel_rfl) (by kernel_rfl) (by kernel_rfl) (fun _ _ _ h => h) (Or.inl ⟨by rfl, ?_⟩) (by assumption) ?_
          rotate_left
          · intro w' hSw
            go_simp
            try with_reducible rfl
          try simp only [Act.put, List.setIfInBounds_toArray, List.set_cons_zero, List.set_cons_succ, List.getElem_toArray, List.getElem_cons_succ, List.getElem_cons_zero]
          refine wpAnyH_take (i := 2) (v := ?_) rfl (by kernel_rfl) (by kernel_rfl) (by kernel_rfl) (fun _ _ _ h => h) (Or.inl ⟨by rfl, ?_⟩) (by assumption) ?_
          rotate_left
          · intro w' hSw
            go_simp
            try with_reducible rfl
          try simp only [Act.put, List.setIfInBounds_toArray, List.set_cons_zero, List.set_cons_succ, List.getElem_toArray, List.getElem_cons_succ, List.getElem_cons_zero]
          refine wpAnyH_take (i := 3) (v := ?_) rfl (by kernel_rfl) (by kernel_rfl) (by kernel_rfl) (fun _ _ _ h => h) (Or.inl ⟨by rfl, ?_⟩) (by assumption) ?_
          rotate_left
          · intro w' hSw
            go_simp
            try with_reducible rfl
          try simp only [Act.put, List.setIfInBounds_toArray, List.set_cons_zero, List.set_cons_succ, List.getElem_toArray, List.getElem_cons_succ, List.getElem_cons_zero]
          refine wpAnyH_take (i := 6) (v := ?_) rfl (by kernel_rfl) (by kernel_rfl) (by kernel_rfl) (fun _ _ _ h => h) (Or.inl ⟨by rfl, ?_⟩) (by assumption) ?_
          rotate_left
          · intro w' hSw
            go_simp
            try with_reducible rfl
          try simp only [Act.put, List.setIfInBounds_toArray, List.set_cons_zero, List.set_cons_succ, List.getElem_toArray, List.getElem_cons_succ, List.getElem_cons_zero]
          refine wpAnyH_take (i := 7) (v := ?_) rfl (by kernel_rfl) (by kernel_rfl) (by kernel_rfl) (fun _ _ _ h => h) (Or.inl ⟨by rfl, ?_⟩) (by assumption) ?_
          rotate_left
          · intro w' hSw
            go_simp
            try with_reducible rfl
          try simp only [Act.put, List.setIfInBounds_toArray, List.set_cons_zero, List.set_cons_succ, List.getElem_toArray, List.getElem_cons_succ, List.getElem_cons_zero]
          refine wpAnyH_take (i := 8) (v := ?_) rfl (by kernel_rfl) (by kernel_rfl) (by kernel_rfl) (fun _ _ _ h => h) (Or.inl ⟨by rfl, ?_⟩) (by assumption) ?_
          rotate_left
          · intro w' hSw
            go_simp
            try with_reducible rfl
          try simp only [Act.put, List.setIfInBounds_toArray, List.set_cons_zero, List.set_cons_succ, List.getElem_toArray, List.getElem_cons_succ, List.getElem_cons_zero]
          refine wpAnyH_take (i := 9) (v := ?_) rfl (by kernel_rfl) (by kernel_rfl) (by kernel_rfl) (fun _ _ _ h => h) (Or.inl ⟨by rfl, ?_⟩) (by assumption) ?_
          rotate_left
          · intro w' hSw
            go_simp
            try with_reducible rfl
          try simp only [Act.put, List.setIfInBounds_toArray, List.set_cons_zero, List.set_cons_succ, List.getElem_toArray, List.getElem_cons_succ, List.getElem_cons_zero]
          refine wpAnyH_ready (rs := [4]) (by kernel_rfl) (by simp) ?_
          refine AllReadyH.cons rfl (fun K hK => ?_) AllReadyH.nil
          go_simp
          refine (HDg.out _).mono ?_
          rintro e w4 ⟨rfl, hf4⟩
          refine hK.out _ _ (ff4 hHeld hf4) (fun hHeld2 => ?_)
          clear hK K hHeld hf4
          rename_i hHeld2
          have hHeld := hHeld2
          clear hHeld2
          try simp only [Act.put, List.setIfInBounds_toArray, List.set_cons_zero, List.set_cons_succ, List.getElem_toArray, List.getElem_cons_succ, List.getElem_cons_zero]
          refine wpAnyH_take (i := 5) (v := ?_) rfl (by kernel_rfl) (by kernel_rfl) (by kernel_rfl) (fun _ _ _ h => h) (Or.inl ⟨by rfl, ?_⟩) (by assumption) ?_
          rotate_left
          · intro w' hSw
            go_simp
            try with_reducible rfl
          try simp only [Act.put, List.setIfInBounds_toArray, List.set_cons_zero, List.set_cons_succ, List.getElem_toArray, List.getElem_cons_succ, List.getElem_cons_zero]
          refine wpAnyH_take (i := 10) (v := ?_) rfl (by kernel_rfl) (by kernel_rfl) (by kernel_rfl) (fun _ _ _ h => h) (Or.inl ⟨by rfl, ?_⟩) (by assumption) ?_
          rotate_left
          · intro w' hSw
            go_simp
            try with_reducible rfl
          try simp only [Act.put, List.setIfInBounds_toArray, List.set_cons_zero, List.set_cons_succ, List.getElem_toArray, List.getElem_cons_succ, List.getElem_cons_zero]
          refine wpAnyH_take (i := 11) (v := ?_) rfl (by kernel_rfl) (by kernel_rfl) (by kernel_rfl) (fun _ _ _ h => h) (Or.inl ⟨by rfl, ?_⟩) (by assumption) ?_
          rotate_left
          · intro w' hSw
            go_simp
            try with_reducible rfl
          try simp only [Act.put, List.setIfInBounds_toArray, List.set_cons_zero, List.set_cons_succ, List.getElem_toArray, List.getElem_cons_succ, List.getElem_cons_zero]
          refine wpAnyH_done (by kernel_rfl) ?_ _
          go_wp2_with fail
          refine (HP.out _).mono ?_
          rintro e w9 ⟨rfl, rfl⟩
          go_wp2_with fail
          go_ret2
          exact ⟨by rw [HA.out]; rfl, hHeld⟩
      | none =>
        cases hd : findD f [47] with
        | some i =>
          cases dst with
          | true =>
            have hi := (find_here hd).1.1
            have hi : i + 1 ≤ f.length := hi
            have n2 : (f.drop (i + 1)).length ≤ 1000 := by simp; omega
            have S2 := fun w => sl_lo (P := Tryd.prog) w 9 Tryd.underlying9 f (f.drop (i + 1)) ((i : Int) + 1) (i + 1) (by omega) hi rfl
            have HT := abbrT_d (letter := letter) (off := off) hs hz hd
            have i0 : (0 : Int) ≤ (i : Int) := by omega
            have i9 : (i : Int) ≤ 1000 := by omega
            have Fs := Lib.hid (fun w => (by have h := Hs w (by omega) ⟨by decide, by decide⟩; rw [hs] at h; exact h : Calls Tryd.prog 14 #[strV f, strV [37, 115]] w fun e w' => e = .returned (intV (-1)) ∧ w' = w))
            have Fz := Lib.hid (fun w => (by have h := Hz w (by omega) ⟨by decide, by decide⟩; rw [hz] at h; exact h : Calls Tryd.prog 14 #[strV f, strV [37, 122]] w fun e w' => e = .returned (intV (-1)) ∧ w' = w))
            have Fd := Lib.hid (fun w => (by have h := Hd w (by omega) ⟨by decide, by decide⟩; rw [hd] at h; exact h : Calls Tryd.prog 14 #[strV f, strV [47]] w fun e w' => e = .returned (intV (i)) ∧ w' = w))
            rw [HT] at HY HN
            generalize f.drop (i + 1) = Y at *
            have HP := r16Plain_any (Y)
            have hTl : (Y).length ≤ 1000000 := by omega
            have HP := Lib.hid (fun w => HP w hTl)
            clear hs hz hd hi HT Hs Hz Hd hTl
            cases hb : plainB Y with
            | true =>
              have HA := Lib.hid (HY.out hb)
              rw [hb] at HP
              clear HY HN hb
              go_enter Tryd.func10, Tryd.ntmps10
              go_wp2_with fail
              refine (Fs.out _).mono ?_
              rintro e w1 ⟨rfl, rfl⟩
              go_wp2_with fail
              refine (Fz.out _).mono ?_
              rintro e w2 ⟨rfl, rfl⟩
              go_wp2_with fail
              refine (Fd.out _).mono ?_
              rintro e w3 ⟨rfl, rfl⟩
              go_wp2_with fail
              refine (HP.out _).mono ?_
              rintro e w9 ⟨rfl, rfl⟩
              go_wp2_with fail
              go_ret2
              exact ⟨by rw [HA.out]; rfl, Fr.refl _ _⟩
            | false =>
              have HA := Lib.hid (HN.out hb)
              rw [hb] at HP
              clear HY HN hb
              go_enter Tryd.func10, Tryd.ntmps10
              go_wp2_with fail
              refine (Fs.out _).mono ?_
              rintro e w1 ⟨rfl, rfl⟩
              go_wp2_with fail
              refine (Fz.out _).mono ?_
              rintro e w2 ⟨rfl, rfl⟩
              go_wp2_with fail
              refine (Fd.out _).mono ?_
              rintro e w3 ⟨rfl, rfl⟩
              go_wp2_with fail
              refine (HP.out _).mono ?_
              rintro e w9 ⟨rfl, rfl⟩
              go_wp2_with fail
              go_ret2
              exact ⟨by rw [HA.out]; rfl, Fr.refl _ _⟩
          | false =>
            have hi := (find_here hd).1.1
            have hi : i + 1 ≤ f.length := hi
            have n1 : (f.take i).length ≤ 1000 := by simp; omega
            have S1 := fun w => sl_hi (P := Tryd.prog) w 9 Tryd.underlying9 f (f.take i) (i : Int) i rfl (by omega) rfl
            have HT := abbrT_w (letter := letter) (off := off) hs hz hd
            have i0 : (0 : Int) ≤ (i : Int) := by omega
            have i9 : (i : Int) ≤ 1000 := by omega
            have Fs := Lib.hid (fun w => (by have h := Hs w (by omega) ⟨by decide, by decide⟩; rw [hs] at h; exact h : Calls Tryd.prog 14 #[strV f, strV [37, 115]] w fun e w' => e = .returned (intV (-1)) ∧ w' = w))
            have Fz := Lib.hid (fun w => (by have h := Hz w (by omega) ⟨by decide, by decide⟩; rw [hz] at h; exact h : Calls Tryd.prog 14 #[strV f, strV [37, 122]] w fun e w' => e = .returned (intV (-1)) ∧ w' = w))
            have Fd := Lib.hid (fun w => (by have h := Hd w (by omega) ⟨by decide, by decide⟩; rw [hd] at h; exact h : Calls Tryd.prog 14 #[strV f, strV [47]] w fun e w' => e = .returned (intV (i)) ∧ w' = w))
            rw [HT] at HY HN
            generalize f.take i = X at *
            have HP := r16Plain_any (X)
            have hTl : (X).length ≤ 1000000 := by omega
            have HP := Lib.hid (fun w => HP w hTl)
            clear hs hz hd hi HT Hs Hz Hd hTl
            cases hb : plainB X with
            | true =>
              have HA := Lib.hid (HY.out hb)
              rw [hb] at HP
              clear HY HN hb
              go_enter Tryd.func10, Tryd.ntmps10
              go_wp2_with fail
              refine (Fs.out _).mono ?_
              rintro e w1 ⟨rfl, rfl⟩
              go_wp2_with fail
              refine (Fz.out _).mono ?_
              rintro e w2 ⟨rfl, rfl⟩
              go_wp2_with fail
              refine (Fd.out _).mono ?_
              rintro e w3 ⟨rfl, rfl⟩
              go_wp2_with fail
              refine (HP.out _).mono ?_
              rintro e w9 ⟨rfl, rfl⟩
              go_wp2_with fail
              go_ret2
              exact ⟨by rw [HA.out]; rfl, Fr.refl _ _⟩
            | false =>
              have HA := Lib.hid (HN.out hb)
              rw [hb] at HP
              clear HY HN hb
              go_enter Tryd.func10, Tryd.ntmps10
              go_wp2_with fail
              refine (Fs.out _).mono ?_
              rintro e w1 ⟨rfl, rfl⟩
              go_wp2_with fail
              refine (Fz.out _).mono ?_
              rintro e w2 ⟨rfl, rfl⟩
              go_wp2_with fail
              refine (Fd.out _).mono ?_
              rintro e w3 ⟨rfl, rfl⟩
              go_wp2_with fail
              refine (HP.out _).mono ?_
              rintro e w9 ⟨rfl, rfl⟩
              go_wp2_with fail
              go_ret2
              exact ⟨by rw [HA.out]; rfl, Fr.refl _ _⟩
        | none =>
          have HT := abbrT_n (letter := letter) (off := off) (dst := dst) hs hz hd
          have Fs := Lib.hid (fun w => (by have h := Hs w (by omega) ⟨by decide, by decide⟩; rw [hs] at h; exact h : Calls Tryd.prog 14 #[strV f, strV [37, 115]] w fun e w' => e = .returned (intV (-1)) ∧ w' = w))
          have Fz := Lib.hid (fun w => (by have h := Hz w (by omega) ⟨by decide, by decide⟩; rw [hz] at h; exact h : Calls Tryd.prog 14 #[strV f, strV [37, 122]] w fun e w' => e = .returned (intV (-1)) ∧ w' = w))
          have Fd := Lib.hid (fun w => (by have h := Hd w (by omega) ⟨by decide, by decide⟩; rw [hd] at h; exact h : Calls Tryd.prog 14 #[strV f, strV [47]] w fun e w' => e = .returned (intV (-1)) ∧ w' = w))
          rw [HT] at HY HN
          have HP := r16Plain_any (f)
          have hTl : (f).length ≤ 1000000 := by omega
          have HP := Lib.hid (fun w => HP w hTl)
          clear hs hz hd HT Hs Hz Hd hTl
          cases hb : plainB f with
          | true =>
            have HA := Lib.hid (HY.out hb)
            rw [hb] at HP
            clear HY HN hb
            go_enter Tryd.func10, Tryd.ntmps10
            go_wp2_with fail
            refine (Fs.out _).mono ?_
            rintro e w1 ⟨rfl, rfl⟩
            go_wp2_with fail
            refine (Fz.out _).mono ?_
            rintro e w2 ⟨rfl, rfl⟩
            go_wp2_with fail
            refine (Fd.out _).mono ?_
            rintro e w3 ⟨rfl, rfl⟩
            go_wp2_with fail
            refine (HP.out _).mono ?_
            rintro e w9 ⟨rfl, rfl⟩
            go_wp2_with fail
            go_ret2
            exact ⟨by rw [HA.out]; rfl, Fr.refl _ _⟩
          | false =>
            have HA := Lib.hid (HN.out hb)
            rw [hb] at HP
            clear HY HN hb
            go_enter Tryd.func10, Tryd.ntmps10
            go_wp2_with fail
            refine (Fs.out _).mono ?_
            rintro e w1 ⟨rfl, rfl⟩
            go_wp2_with fail
            refine (Fz.out _).mono ?_
            rintro e w2 ⟨rfl, rfl⟩
            go_wp2_with fail
            refine (Fd.out _).mono ?_
            rintro e w3 ⟨rfl, rfl⟩
            go_wp2_with fail
            refine (HP.out _).mono ?_
            rintro e w9 ⟨rfl, rfl⟩
            go_wp2_with fail
            go_ret2
            exact ⟨by rw [HA.out]; rfl, Fr.refl _ _⟩
end Go.Proofs.YtghcfmoagkimaaaDoor
namespace Go.Proofs.YtghcfmoagkimaaaDoor
open Go.RowKit Go.Mem Go.Lin Go.Fmx Go.Den

/- what clocks show, in its cells -/
def locC (x : LocD) : Array Value := #[intV x.off, .bool x.dst, strV x.abbr]
abbrev locV (x : LocD) : Value := .agg (locC x)
theorem locC_one (x : LocD) : (locC x).all (·.oneCell') = true := by simp [locC, Value.oneCell']
theorem infoLo (x : LocD) : (Tryd.prog.info? 34).map (·.size) = some (locC x).size := show _ = some 3 by kernel_rfl
theorem put_lo (a b : LocD) : setMany (locC a) 0 (locC b).toList = locC b := put_all rfl
theorem results_r16Of (tmps : Array Value) (w : World) (q : Nat) (s : LocD) (u : Value) (h4 : tmps.getD 4 undef = .pointer (some ⟨q, 0, none⟩)) (h5 : tmps.getD 5 undef = u)
    (hb : Blk w q 34 (locC s)) : (results Tryd.f7 tmps).run Tryd.prog w = .ok (.tuple #[locV s, u]) w := by
  have h4' : tmps[4]?.getD undef = .pointer (some ⟨q, 0, none⟩) := by simpa using h4
  have h5' : tmps[5]?.getD undef = u := by simpa using h5
  have hL := run_loadVar_blk (P := Tryd.prog) w q 0 34 34 (locC s) (locC s) _ hb Tryd.underlying34 rfl (infoLo s) (zero_part _)
  simp [results, Tryd.results7, h4', h5', asAddr, hL]
set_option maxHeartbeats 3200000 in
set_option maxRecDepth 100000 in
theorem r16Of_any (e : EraL) (s : StateD) (w : World) (hf : e.format.length ≤ 1000) (hl : s.letter.length ≤ 1000) (ho : -1000000 ≤ e.off ∧ e.off ≤ 1000000) (hs : -1000000 ≤ s.save ∧ s.save ≤ 1000000) :
    Calls Tryd.prog 7 #[.agg (eraC e), stateV s] w fun q w' => q = .returned (.tuple #[locV (ofD16 e s).1, intV (ofD16 e s).2]) ∧ Fr w w' (fun _ => False) := by
  obtain ⟨w1, hw1⟩ : ∃ w1, w.alloc (.cells (eraC e) 29) = w1 := ⟨_, rfl⟩
  obtain ⟨w2, hw2⟩ : ∃ w2, w1.alloc (.cells (stateC s) 31) = w2 := ⟨_, rfl⟩
  obtain ⟨w3, hw3⟩ : ∃ w3, w2.alloc (.cells (locC loc0) 34) = w3 := ⟨_, rfl⟩
  have z1 : w1.heap.size = w.heap.size + 1 := by rw [← hw1]; simp
  have z2 : w2.heap.size = w.heap.size + 1 + 1 := by rw [← hw2]; simp [z1]
  have n3 : Fr w2 w3 (fun _ => False) := by rw [← hw3]; exact Fr.new _ _ _
  have n2 : Fr w1 w3 (fun _ => False) := ff4 (by rw [← hw2]; exact Fr.new _ _ _) n3
  have n1 : Fr w w3 (fun _ => False) := ff4 (by rw [← hw1]; exact Fr.new _ _ _) n2
  have HB1 := Lib.hid (show Blk w3 w.heap.size 29 (eraC e) from n2.blk (by rw [← hw1]; exact Blk.made w _ _) (fun h => h))
  have HB2 := Lib.hid (show Blk w3 (w.heap.size + 1) 31 (stateC s) from n3.blk (by rw [← hw2, ← z1]; exact Blk.made w1 _ _) (fun h => h))
  have HB3 := Lib.hid (show Blk w3 (w.heap.size + 1 + 1) 34 (locC loc0) by rw [← hw3, ← z2]; exact Blk.made w2 _ _)
  have e3 : ((w.alloc (.cells (eraC e) 29)).alloc (.cells (stateC s) 31)).alloc (.cells #[.int .i64 0, .bool false, .string ⟨#[]⟩] 34) = w3 := by
    rw [hw1, hw2, ← hw3]; rfl
  have HF3 := Lib.hid n1
  have c0 : w3.cell? ⟨w.heap.size, 0, none⟩ = some (.int .i64 e.off) := blkc HB1.out 0 _ rfl
  have c4 : w3.cell? ⟨w.heap.size, 4, none⟩ = some (strV e.format) := blkc HB1.out 4 _ rfl
  have d1 : w3.cell? ⟨w.heap.size + 1, 1, none⟩ = some (.int .i64 s.save) := blkc HB2.out 1 _ rfl
  have d2 : w3.cell? ⟨w.heap.size + 1, 2, none⟩ = some (strV s.letter) := blkc HB2.out 2 _ rfl
  obtain ⟨b, hb⟩ : ∃ b, (s.save != 0) = b := ⟨_, rfl⟩
  obtain ⟨a, k, hak⟩ : ∃ a k, abbrD e.format s.letter (e.off + s.save) b = (a, k) := ⟨_, _, rfl⟩
  have HA := Lib.hid (fun w => r16Abbr_any e.format s.letter (e.off + s.save) b w hf hl)
  rw [hak] at HA
  have HY := Lib.hid (fun (h : k = 0) => of_yes hb (hak.trans (by rw [h])))
  have HN := Lib.hid (of_no hb hak)
  obtain ⟨o1, o2⟩ := ho
  obtain ⟨s1, s2⟩ := hs
  have hw : IntKind.i64.wrap (e.off + s.save) = e.off + s.save := by rw [IntKind.wrap_i64]; omega
  clear hw1 hw2 hw3 z1 z2 n1 n2 n3 hak
  by_cases hk : k = 0
  · have HR := Lib.hid (HY.out hk)
    rw [hk] at HA
    clear hk HY HN
    go_enter Tryd.func7, Tryd.ntmps7
    go_wp2_with fail
    refine (HA.out _).mono ?_
    rintro q w4 ⟨rfl, hf4⟩
    have HF4 := Lib.hid (ff4 HF3.out hf4)
    have HB4 := Lib.hid (hf4.blk HB3.out (fun h => h))
    have e1 : w4.cell? ⟨w.heap.size + 1, 1, none⟩ = some (.int .i64 s.save) := cell_far hf4 d1 (fun h => h)
    clear hf4 c0 c4 d1 d2
    go_wp2_with (first
      | ((with_reducible refine at_build 34 ?_); refine wpList_build1 34 _ (.agg (locC ⟨e.off + s.save, b, a⟩)) (by rfl) rfl (fun w => by kernel_rfl) ?_)
      | ((with_reducible refine at_store4 34 ?_); refine wpList_store_blk 34 _ _ (w.heap.size + 1 + 1) 0 34 (locC loc0) (locC ⟨e.off + s.save, b, a⟩) (locC ⟨e.off + s.save, b, a⟩) (by rfl) rfl rfl rfl rfl HB4.out (infoLo _) (locC_one _) (show 0 + 3 ≤ 3 by decide) (put_lo _ _) ?_
         intro W9 hf9 hb9
         have HF9 := Lib.hid (HF4.out.fresh hf9 (fun i e => by have e : i = w.heap.size + 1 + 1 := e; omega))
         have HB9 := Lib.hid hb9
         clear hf9 hb9))
    exact bodyPost_ret (results_r16Of _ _ (w.heap.size + 1 + 1) ⟨e.off + s.save, b, a⟩ (intV 0) rfl rfl HB9.out) rfl ⟨by rw [HR.out], HF9.out⟩
  · have HR := Lib.hid (HN.out hk)
    have k0 : (k == 0) = false := beq_eq_false_iff_ne.2 hk
    clear hk HY HN
    go_enter Tryd.func7, Tryd.ntmps7
    go_wp2_with fail
    refine (HA.out _).mono ?_
    rintro q w4 ⟨rfl, hf4⟩
    have HF4 := Lib.hid (ff4 HF3.out hf4)
    have HB4 := Lib.hid (hf4.blk HB3.out (fun h => h))
    clear hf4 c0 c4 d1 d2
    go_wp2_with (first
      | ((with_reducible refine at_store4 34 ?_); refine wpList_store_blk 34 _ _ (w.heap.size + 1 + 1) 0 34 (locC loc0) (locC loc0) (locC loc0) (by rfl) rfl rfl rfl rfl HB4.out (infoLo _) (locC_one _) (show 0 + 3 ≤ 3 by decide) (put_lo _ _) ?_
         intro W9 hf9 hb9
         have HF9 := Lib.hid (HF4.out.fresh hf9 (fun i e => by have e : i = w.heap.size + 1 + 1 := e; omega))
         have HB9 := Lib.hid hb9
         clear hf9 hb9))
    exact bodyPost_ret (results_r16Of _ _ (w.heap.size + 1 + 1) loc0 (intV k) rfl rfl HB9.out) rfl ⟨by rw [HR.out], HF9.out⟩
end Go.Proofs.YtghcfmoagkimaaaDoor
namespace Go.Proofs.YtghcfmoagkimaaaDoor
open Go.RowKit Go.Mem Go.Lin Go.Fmx Go.Den

theorem results_f16Of (tmps : Array Value) (w : World) (q : Nat) (s : LocD) (u : Value) (h4 : tmps.getD 4 undef = .pointer (some ⟨q, 0, none⟩)) (h5 : tmps.getD 5 undef = u)
    (hb : Blk w q 34 (locC s)) : (results Tryd.f6 tmps).run Tryd.prog w = .ok (.tuple #[locV s, u]) w := by
  have h4' : tmps[4]?.getD undef = .pointer (some ⟨q, 0, none⟩) := by simpa using h4
  have h5' : tmps[5]?.getD undef = u := by simpa using h5
  have hL := run_loadVar_blk (P := Tryd.prog) w q 0 34 34 (locC s) (locC s) _ hb Tryd.underlying34 rfl (infoLo s) (zero_part _)
  simp [results, Tryd.results6, h4', h5', asAddr, hL]
set_option maxHeartbeats 3200000 in
set_option maxRecDepth 100000 in
theorem f16Of_any (e : EraL) (s : StateD) (w : World) (hm : MOk w) (hf : e.format.length ≤ 1000) (hl : s.letter.length ≤ 1000) (ho : -1000000 ≤ e.off ∧ e.off ≤ 1000000) (hs : -1000000 ≤ s.save ∧ s.save ≤ 1000000) :
    Calls Tryd.prog 6 #[.agg (eraC e), stateV s] w fun q w' => q = .returned (.tuple #[locV (ofD16 e s).1, intV (ofD16 e s).2]) ∧ Fr w w' (fun _ => False) := by
  obtain ⟨w1, hw1⟩ : ∃ w1, w.alloc (.cells (eraC e) 29) = w1 := ⟨_, rfl⟩
  obtain ⟨w2, hw2⟩ : ∃ w2, w1.alloc (.cells (stateC s) 38) = w2 := ⟨_, rfl⟩
  obtain ⟨w3, hw3⟩ : ∃ w3, w2.alloc (.cells (locC loc0) 34) = w3 := ⟨_, rfl⟩
  have z1 : w1.heap.size = w.heap.size + 1 := by rw [← hw1]; simp
  have z2 : w2.heap.size = w.heap.size + 1 + 1 := by rw [← hw2]; simp [z1]
  have n3 : Fr w2 w3 (fun _ => False) := by rw [← hw3]; exact Fr.new _ _ _
  have n2 : Fr w1 w3 (fun _ => False) := ff4 (by rw [← hw2]; exact Fr.new _ _ _) n3
  have n1 : Fr w w3 (fun _ => False) := ff4 (by rw [← hw1]; exact Fr.new _ _ _) n2
  have HB1 := Lib.hid (show Blk w3 w.heap.size 29 (eraC e) from n2.blk (by rw [← hw1]; exact Blk.made w _ _) (fun h => h))
  have HB2 := Lib.hid (show Blk w3 (w.heap.size + 1) 38 (stateC s) from n3.blk (by rw [← hw2, ← z1]; exact Blk.made w1 _ _) (fun h => h))
  have HB3 := Lib.hid (show Blk w3 (w.heap.size + 1 + 1) 34 (locC loc0) by rw [← hw3, ← z2]; exact Blk.made w2 _ _)
  have e3 : ((w.alloc (.cells (eraC e) 29)).alloc (.cells (stateC s) 38)).alloc (.cells #[.int .i64 0, .bool false, .string ⟨#[]⟩] 34) = w3 := by
    rw [hw1, hw2, ← hw3]; rfl
  have HF3 := Lib.hid n1
  have c0 : w3.cell? ⟨w.heap.size, 0, none⟩ = some (.int .i64 e.off) := blkc HB1.out 0 _ rfl
  have c4 : w3.cell? ⟨w.heap.size, 4, none⟩ = some (strV e.format) := blkc HB1.out 4 _ rfl
  have d1 : w3.cell? ⟨w.heap.size + 1, 1, none⟩ = some (.int .i64 s.save) := blkc HB2.out 1 _ rfl
  have d2 : w3.cell? ⟨w.heap.size + 1, 2, none⟩ = some (strV s.letter) := blkc HB2.out 2 _ rfl
  obtain ⟨b, hb⟩ : ∃ b, (s.save != 0) = b := ⟨_, rfl⟩
  obtain ⟨r, hr, hT⟩ := f16together_any e.off s.save ho hs
  obtain ⟨a, k, hak⟩ : ∃ a k, abbrD e.format s.letter (e.off + s.save) b = (a, k) := ⟨_, _, rfl⟩
  have hrk : k = 0 → r = e.off + s.save := fun h => hr.elim id (fun hx => absurd hx.2 (abbr_ok (hak.trans (by rw [h]))))
  have HM := Lib.hid (fun W (g : Fr w W (fun _ => False)) => hm.fr g)
  have HA := fun w (h : MOk w) => f16Abbr_any e.format s.letter r b w h hf hl
  rw [abbr_beyond hr, hak] at HA
  have HA := Lib.hid HA
  have HY := Lib.hid (fun (h : k = 0) => of_yes hb (hak.trans (by rw [h])))
  have HN := Lib.hid (of_no hb hak)
  have HT := Lib.hid hT
  clear hw1 hw2 hw3 z1 z2 n1 n2 n3 hak hr hT ho hs hm hf hl
  by_cases hk : k = 0
  · have hr := hrk hk
    have HR := HY.out hk
    rw [hk] at HA
    rw [← hr] at HR
    have HR := Lib.hid HR
    clear hk HY HN hrk hr
    go_enter Tryd.func6, Tryd.ntmps6
    go_wp2_with fail
    go_quiet ((go_at_call 9; exact Calls.quiet_of_same (HT.out _)))
    have HFq := Lib.hid (ff4 HF3.out (Fr.drewN w3 nq (fun _ => False)))
    have HBq := Lib.hid ((Fr.drewN w3 nq (fun _ => False)).blk HB3.out (fun h => h))
    go_wp2_with fail
    refine (HA.out _ (HM.out _ HFq.out)).mono ?_
    rintro q w4 ⟨rfl, hf4⟩
    have HF4 := Lib.hid (ff4 HFq.out hf4)
    have HB4 := Lib.hid (hf4.blk HBq.out (fun h => h))
    clear hf4 c0 c4 d1 d2 HFq HBq
    go_wp2_with (first
      | ((with_reducible refine at_build 34 ?_); refine wpList_build1 34 _ (.agg (locC ⟨r, b, a⟩)) (by rfl) rfl (fun w => by kernel_rfl) ?_)
      | ((with_reducible refine at_store4 34 ?_); refine wpList_store_blk 34 _ _ (w.heap.size + 1 + 1) 0 34 (locC loc0) (locC ⟨r, b, a⟩) (locC ⟨r, b, a⟩) (by rfl) rfl rfl rfl rfl HB4.out (infoLo _) (locC_one _) (show 0 + 3 ≤ 3 by decide) (put_lo _ _) ?_
         intro W9 hf9 hb9
         have HF9 := Lib.hid (HF4.out.fresh hf9 (fun i e => by have e : i = w.heap.size + 1 + 1 := e; omega))
         have HB9 := Lib.hid hb9
         clear hf9 hb9))
    exact bodyPost_ret (results_f16Of _ _ (w.heap.size + 1 + 1) ⟨r, b, a⟩ (intV 0) rfl rfl HB9.out) rfl ⟨by rw [HR.out], HF9.out⟩
  · have HR := Lib.hid (HN.out hk)
    have k0 : (k == 0) = false := beq_eq_false_iff_ne.2 hk
    clear hk HY HN hrk
    go_enter Tryd.func6, Tryd.ntmps6
    go_wp2_with fail
    go_quiet ((go_at_call 9; exact Calls.quiet_of_same (HT.out _)))
    have HFq := Lib.hid (ff4 HF3.out (Fr.drewN w3 nq (fun _ => False)))
    have HBq := Lib.hid ((Fr.drewN w3 nq (fun _ => False)).blk HB3.out (fun h => h))
    go_wp2_with fail
    refine (HA.out _ (HM.out _ HFq.out)).mono ?_
    rintro q w4 ⟨rfl, hf4⟩
    have HF4 := Lib.hid (ff4 HFq.out hf4)
    have HB4 := Lib.hid (hf4.blk HBq.out (fun h => h))
    clear hf4 c0 c4 d1 d2 HFq HBq
    go_wp2_with (first
      | ((with_reducible refine at_store4 34 ?_); refine wpList_store_blk 34 _ _ (w.heap.size + 1 + 1) 0 34 (locC loc0) (locC loc0) (locC loc0) (by rfl) rfl rfl rfl rfl HB4.out (infoLo _) (locC_one _) (show 0 + 3 ≤ 3 by decide) (put_lo _ _) ?_
         intro W9 hf9 hb9
         have HF9 := Lib.hid (HF4.out.fresh hf9 (fun i e => by have e : i = w.heap.size + 1 + 1 := e; omega))
         have HB9 := Lib.hid hb9
         clear hf9 hb9))
    exact bodyPost_ret (results_f16Of _ _ (w.heap.size + 1 + 1) loc0 (intV k) rfl rfl HB9.out) rfl ⟨by rw [HR.out], HF9.out⟩
end Go.Proofs.YtghcfmoagkimaaaDoor
namespace Go.Proofs.YtghcfmoagkimaaaDoor
open Go.RowKit Go.Mem Go.Lin Go.Fmx Go.Den

theorem ex_cest : abbrD [67, 69, 37, 115, 84] [83] 7200 true = ([67, 69, 83, 84], 0) := by decide +kernel
theorem ex_gmt : abbrD [71, 77, 84, 47, 66, 83, 84] [] 0 false = ([71, 77, 84], 0) := by decide +kernel
theorem ex_0530 : abbrD [37, 122] [] 19800 false = ([43, 48, 53, 51, 48], 0) := by decide +kernel
set_option maxRecDepth 100000 in
theorem l16alive_any (w : World) (hm : MOk w) : Calls Tryd.prog 5 #[] w fun e w' => e = .returned (.bool true) ∧ Fr w w' (fun _ => False) := by
  have H1 := fun w h => f16Abbr_any [67, 69, 37, 115, 84] [83] 7200 true w h (by decide) (by decide)
  have H2 := fun w h => f16Abbr_any [71, 77, 84, 47, 66, 83, 84] [] 0 false w h (by decide) (by decide)
  have H3 := fun w h => f16Abbr_any [37, 122] [] 19800 false w h (by decide) (by decide)
  rw [ex_cest] at H1
  rw [ex_gmt] at H2
  rw [ex_0530] at H3
  have H1 := Lib.hid H1
  have H2 := Lib.hid H2
  have H3 := Lib.hid H3
  have HM := Lib.hid (fun W (g : Fr w W (fun _ => False)) => hm.fr g)
  clear hm
  go_enter Tryd.func5, Tryd.ntmps5
  go_wp2_with fail
  refine (H1.out _ (HM.out _ (Fr.refl _ _))).mono ?_
  rintro e w1 ⟨rfl, hf1⟩
  go_wp2_with fail
  refine (H2.out _ (HM.out _ hf1)).mono ?_
  rintro e w2 ⟨rfl, hf2⟩
  go_wp2_with fail
  refine (H3.out _ (HM.out _ (ff4 hf1 hf2))).mono ?_
  rintro e w3 ⟨rfl, hf3⟩
  go_wp2_with fail
  go_ret
  exact ⟨rfl, ff4 hf1 (ff4 hf2 hf3)⟩
end Go.Proofs.YtghcfmoagkimaaaDoor
namespace Go.Mem
open Go.RowKit
section
variable {P : Program} {ops : Array Oper} {rest : List Oper} {o : Oper} {a : Act} {w : World} {Q : Exit → Act → World → Prop}
theorem at_eql6 {d : Option Tmp} {x y : Operand} {z ty : TypeId} {pos : String} {af : Array Edge} {g : Option (Nat × Bool)} (t : TypeId) (h : wpList P ops Q (⟨d, .binOp .eql t x y z, ty, pos, af, g⟩ :: rest) a w) : wpList P ops Q (⟨d, .binOp .eql t x y z, ty, pos, af, g⟩ :: rest) a w := h
theorem wpList_eql6 {t : TypeId} {x y : Operand} {z : TypeId} {cs ds : Array Value} {b : Bool} (hgd : Region.wanted o (yielded ops a.tmps) = true) (ho : o.op = .binOp .eql t x y z) (hx : a.eval x = .agg cs) (hy : a.eval y = .agg ds)
    (hg : ∀ w, (eqGuard .eql t x y (.agg cs) (.agg ds)).run P w = .ok () w) (h : ∀ w, (binOp .eql t (.agg cs) (.agg ds)).run P w = .ok (.bool b) w) (hK : wpList P ops Q rest (a.put o.dst (.bool b)) w) : wpList P ops Q (o :: rest) a w :=
  wpList_step fun _ hk => by
    rw [if_pos hgd]
    unfold Oper.wp execOp
    simp only [ho, hx, hy, Sem.run_bind, hg, h, Result.andThen_ok, Sem.run_pure]
    exact hk _ _ hK
end
end Go.Mem
