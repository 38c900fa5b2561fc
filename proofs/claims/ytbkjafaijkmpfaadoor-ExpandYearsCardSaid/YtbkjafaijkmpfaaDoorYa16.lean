import Derived.Test.YtbkjafaijkmpfaaDoorYa15
import Derived.BigQuiet
namespace Go.Proofs.YtbkjafaijkmpfaaDoor
open Go.RowKit Go.Mem Go.Lin Go.Xpd

theorem fromD_len {l : List RuleL} {a b : Int} (hn : l.length ≤ 8) (h : b - a ≤ 30) : (fromD l a b).length ≤ 1000 := by
  unfold fromD
  have h1 := fromN_len l (max a 1) (min b 9999 + 1 - max a 1).toNat
  have h2 : (min b 9999 + 1 - max a 1).toNat ≤ 31 := by omega
  have h3 := Nat.mul_le_mul hn h2
  omega
set_option maxHeartbeats 3200000 in
set_option maxRecDepth 100000 in
theorem years_any (l : List RuleL) (A : Option Addr) (cap : Nat) (a b : Int) (w : World) (hl : RusAt w A l) (hm : l.length ≤ maxLen) (hr : ∀ r ∈ l, RuR r) (hw : S6.WOk w) (ha : inR a) (hb : inR b) :
    Calls Tryd.prog 3 #[.slice A l.length cap, intV a, intV b] w fun e w' => e = .returned (.bool true) ∧ Fr w w' (fun _ => False) := by
  have HL := Lib.hid hl
  have HW := Lib.hid hw
  have HLt := Lib.hid (Light_any l A cap 8 w hl (by decide) hm hr)
  have HAl := Lib.hid (fun W (f : Fr w W (fun _ => False)) => alive_any W (hw.fr f))
  obtain ⟨ha1, ha2⟩ := ha
  obtain ⟨hb1, hb2⟩ := hb
  by_cases hP : LightP l 8 ∧ -20000 ≤ a ∧ b ≤ 20000 ∧ a ≤ b ∧ b - a ≤ 30
  · obtain ⟨hP, k1, k2, k3, k4⟩ := hP
    rw [decide_eq_true hP] at HLt
    have hok : ∀ r ∈ l, OkF r ∧ RuR r := fun r h => ⟨hP.2 r h, hr r h⟩
    have hokR : ∀ r ∈ l, OkR r := fun r h => (hP.2 r h).okR
    have h8 : l.length ≤ 8 := hP.1
    have HX := Lib.hid (fun W (f : Fr w W (fun _ => False)) => xFrom_any l A cap a b W (hw.fr f) (hl.kept f) h8 hok ⟨k1, by omega⟩ ⟨by omega, k2⟩ k4)
    have HY := Lib.hid (fun W (f : Fr w W (fun _ => False)) => xYear_any l A cap a W (hw.fr f) (hl.kept f) h8 hok ⟨k1, by omega⟩)
    have HRX := Lib.hid (fun W (f : Fr w W (fun _ => False)) => from_any l A cap a b W (hl.kept f) (by omega) hokR ⟨by omega, by omega⟩ ⟨by omega, by omega⟩ (by omega))
    have HRY := Lib.hid (fun W (f : Fr w W (fun _ => False)) => yYear_any l A cap a W (hl.kept f) (by omega) hokR ⟨by omega, by omega⟩)
    have hX := fromD_len (l := l) (a := a) (b := b) h8 k4
    have hY := fromD_len (l := l) (a := a) (b := a) h8 (by omega)
    generalize fromD l a b = X at *
    generalize fromD l a a = Y at *
    clear hl hr hw hP hok hokR h8
    go_enter Tryd.func3, Tryd.ntmps3
    go_wp2_with fail
    refine HLt.out.mono ?_
    rintro e w1 ⟨rfl, hf1⟩
    have HF1 := Lib.hid hf1
    clear hf1
    go_wp2_with fail
    refine (HX.out w1 HF1.out).mono ?_
    rintro e w2 ⟨v2, rfl, ho2, hf2⟩
    obtain ⟨A2, k2, hv2, -, -, hr2⟩ := ho2.rd
    subst hv2
    have HF2 := Lib.hid (ff4 HF1.out hf2)
    have HR2 := Lib.hid hr2
    clear ho2 hf2 hr2
    go_wp2_with fail
    refine (Back_any X A2 k2 w2 HR2.out (by omega)).mono ?_
    rintro e w3 ⟨v3, rfl, ho3, hf3⟩
    obtain ⟨A3, k3, hv3, -, -, hr3⟩ := ho3.rd
    subst hv3
    have HF3 := Lib.hid (ff4 HF2.out hf3)
    have HR3 := Lib.hid hr3
    clear ho3 hf3 hr3
    go_wp2_with fail
    refine (HRX.out w3 HF3.out).mono ?_
    rintro e w4 ⟨v4, rfl, ho4, hf4⟩
    obtain ⟨A4, k4, hv4, -, -, hr4⟩ := ho4.rd
    subst hv4
    have HF4 := Lib.hid (ff4 HF3.out hf4)
    have HR4 := Lib.hid hr4
    have HR3b := Lib.hid (Rd.fr HR3.out hf4 (fun _ _ _ _ h => h))
    clear ho4 hf4 hr4
    go_wp2_with fail
    refine (Same_any X X A3 A4 k3 k4 w4 HR3b.out HR4.out (by omega)).mono ?_
    rintro e w5 ⟨rfl, hf5⟩
    rw [decide_eq_true (rfl : X = X)]
    have HF5 := Lib.hid (ff4 HF4.out hf5)
    clear hf5
    go_wp2_with fail
    refine (HY.out w5 HF5.out).mono ?_
    rintro e w6 ⟨v6, rfl, ho6, hf6⟩
    obtain ⟨A6, k6, hv6, -, -, hr6⟩ := ho6.rd
    subst hv6
    have HF6 := Lib.hid (ff4 HF5.out hf6)
    have HR6 := Lib.hid hr6
    clear ho6 hf6 hr6
    go_wp2_with fail
    refine (Back_any Y A6 k6 w6 HR6.out (by omega)).mono ?_
    rintro e w7 ⟨v7, rfl, ho7, hf7⟩
    obtain ⟨A7, k7, hv7, -, -, hr7⟩ := ho7.rd
    subst hv7
    have HF7 := Lib.hid (ff4 HF6.out hf7)
    have HR7 := Lib.hid hr7
    clear ho7 hf7 hr7
    go_wp2_with fail
    refine (HRY.out w7 HF7.out).mono ?_
    rintro e w8 ⟨v8, rfl, ho8, hf8⟩
    obtain ⟨A8, k8, hv8, -, -, hr8⟩ := ho8.rd
    subst hv8
    have HF8 := Lib.hid (ff4 HF7.out hf8)
    have HR8 := Lib.hid hr8
    have HR7b := Lib.hid (Rd.fr HR7.out hf8 (fun _ _ _ _ h => h))
    clear ho8 hf8 hr8
    go_wp2_with fail
    refine (Same_any Y Y A7 A8 k7 k8 w8 HR7b.out HR8.out (by omega)).mono ?_
    rintro e w9 ⟨rfl, hf9⟩
    rw [decide_eq_true (rfl : Y = Y)]
    have HF9 := Lib.hid (ff4 HF8.out hf9)
    clear hf9
    go_wp2_with fail
    refine (HAl.out w9 HF9.out).mono ?_
    rintro e wz ⟨rfl, hfz⟩
    have HFz := Lib.hid (ff4 HF9.out hfz)
    clear hfz
    go_wp2_with fail
    go_ret
    exact ⟨rfl, HFz.out⟩
  · have h5 : (¬ LightP l 8) ∨ (LightP l 8 ∧ (a < -20000 ∨ (-20000 ≤ a ∧ (20000 < b ∨ (b ≤ 20000 ∧ (b < a ∨ (a ≤ b ∧ 30 < b - a))))))) := by
      by_cases h : LightP l 8
      · refine .inr ⟨h, ?_⟩
        have : ¬ (-20000 ≤ a ∧ b ≤ 20000 ∧ a ≤ b ∧ b - a ≤ 30) := fun c => hP ⟨h, c⟩
        omega
      · exact .inl h
    clear hl hr hw hP
    rcases h5 with hP | ⟨hP, k1 | ⟨k1, k2 | ⟨k2, k3 | ⟨k3, k4⟩⟩⟩⟩
    all_goals
      first | rw [decide_eq_true hP] at HLt | rw [decide_eq_false hP] at HLt
      clear hP
      go_enter Tryd.func3, Tryd.ntmps3
      go_wp2_with fail
      refine HLt.out.mono ?_
      rintro e w1 ⟨rfl, hf1⟩
      have HF1 := Lib.hid hf1
      clear hf1
      go_wp2_with fail
      refine (HAl.out w1 HF1.out).mono ?_
      rintro e wz ⟨rfl, hfz⟩
      have HFz := Lib.hid (ff4 HF1.out hfz)
      clear hfz
      go_wp2_with fail
      go_ret
      exact ⟨rfl, HFz.out⟩
end Go.Proofs.YtbkjafaijkmpfaaDoor
namespace Go.Proofs.YtbkjafaijkmpfaaDoor
open Go.RowKit Go.Mem Go.Lin Go.Xpd

set_option maxHeartbeats 3200000 in
set_option maxRecDepth 100000 in
theorem joins_any (l : List RuleL) (A : Option Addr) (cap : Nat) (a m b : Int) (w : World) (hl : RusAt w A l) (hm : l.length ≤ maxLen) (hr : ∀ r ∈ l, RuR r) (hw : S6.WOk w) (ha : inR a) (hmm : inR m) (hb : inR b) :
    Calls Tryd.prog 4 #[.slice A l.length cap, intV a, intV m, intV b] w fun e w' => e = .returned (.bool true) ∧ Fr w w' (fun _ => False) := by
  have HL := Lib.hid hl
  have HW := Lib.hid hw
  have HLt := Lib.hid (Light_any l A cap 8 w hl (by decide) hm hr)
  have HAl := Lib.hid (fun W (f : Fr w W (fun _ => False)) => alive_any W (hw.fr f))
  obtain ⟨ha1, ha2⟩ := ha
  obtain ⟨hb1, hb2⟩ := hb
  obtain ⟨hm1, hm2⟩ := hmm
  by_cases hP : LightP l 8 ∧ -20000 ≤ a ∧ b ≤ 20000 ∧ a ≤ m ∧ m ≤ b ∧ b - a ≤ 30
  · obtain ⟨hP, k1, k2, k3, k4, k5⟩ := hP
    rw [decide_eq_true hP] at HLt
    have hok : ∀ r ∈ l, OkF r ∧ RuR r := fun r h => ⟨hP.2 r h, hr r h⟩
    have h8 : l.length ≤ 8 := hP.1
    have HP := Lib.hid (fun W (f : Fr w W (fun _ => False)) => xFrom_any l A cap a m W (hw.fr f) (hl.kept f) h8 hok ⟨k1, by omega⟩ ⟨by omega, by omega⟩ (by omega))
    have HQ := Lib.hid (fun W (f : Fr w W (fun _ => False)) => xFrom_any l A cap (m + 1) b W (hw.fr f) (hl.kept f) h8 hok ⟨by omega, by omega⟩ ⟨by omega, by omega⟩ (by omega))
    have HRr := Lib.hid (fun W (f : Fr w W (fun _ => False)) => xFrom_any l A cap a b W (hw.fr f) (hl.kept f) h8 hok ⟨k1, by omega⟩ ⟨by omega, k2⟩ k5)
    have HJ := Lib.hid (from_join l k3 k4)
    have hXP := fromD_len (l := l) (a := a) (b := m) h8 (by omega)
    have hXQ := fromD_len (l := l) (a := m + 1) (b := b) h8 (by omega)
    have hXR := fromD_len (l := l) (a := a) (b := b) h8 (by omega)
    generalize fromD l a m = P at *
    generalize fromD l (m + 1) b = Q at *
    generalize fromD l a b = R at *
    clear hl hr hw hP hok h8
    go_enter Tryd.func4, Tryd.ntmps4
    go_wp2_with fail
    refine HLt.out.mono ?_
    rintro e w1 ⟨rfl, hf1⟩
    have HF1 := Lib.hid hf1
    clear hf1
    go_wp2_with fail
    refine (HP.out w1 HF1.out).mono ?_
    rintro e w2 ⟨v2, rfl, ho2, hf2⟩
    obtain ⟨A2, k2, hv2, -, -, hr2⟩ := ho2.rd
    subst hv2
    have HF2 := Lib.hid (ff4 HF1.out hf2)
    have HR2 := Lib.hid hr2
    have HO2 := Lib.hid ho2
    clear ho2 hf2 hr2
    go_wp2_with fail
    refine (HQ.out w2 HF2.out).mono ?_
    rintro e w3 ⟨v3, rfl, ho3, hf3⟩
    obtain ⟨A3, k3, hv3, -, -, hr3⟩ := ho3.rd
    subst hv3
    have HF3 := Lib.hid (ff4 HF2.out hf3)
    have HR3 := Lib.hid hr3
    have HO3 := Lib.hid ho3
    have HR2_3 := Lib.hid (Rd.fr HR2.out hf3 (fun _ _ _ _ h => h))
    clear ho3 hf3 hr3
    go_wp2_with fail
    refine (HRr.out w3 HF3.out).mono ?_
    rintro e w4 ⟨v4, rfl, ho4, hf4⟩
    obtain ⟨A4, k4, hv4, -, -, hr4⟩ := ho4.rd
    subst hv4
    have HF4 := Lib.hid (ff4 HF3.out hf4)
    have HR4 := Lib.hid hr4
    have HO4 := Lib.hid ho4
    have HR2_4 := Lib.hid (Rd.fr HR2_3.out hf4 (fun _ _ _ _ h => h))
    have HR3_4 := Lib.hid (Rd.fr HR3.out hf4 (fun _ _ _ _ h => h))
    clear ho4 hf4 hr4
    go_wp2_with fail
    refine (Back_any P A2 k2 w4 HR2_4.out (by omega)).mono ?_
    rintro e w5 ⟨v5, rfl, ho5, hf5⟩
    obtain ⟨A5, k5, hv5, -, -, hr5⟩ := ho5.rd
    subst hv5
    have HF5 := Lib.hid (ff4 HF4.out hf5)
    have HR5 := Lib.hid hr5
    have HO5 := Lib.hid ho5
    have HG5 := Lib.hid hf5
    have HR3_5 := Lib.hid (Rd.fr HR3_4.out hf5 (fun _ _ _ _ h => h))
    clear ho5 hf5 hr5
    go_wp2_with fail
    refine (Back_any Q A3 k3 w5 HR3_5.out (by omega)).mono ?_
    rintro e w6 ⟨v6, rfl, ho6, hf6⟩
    obtain ⟨A6, k6, hv6, -, -, hr6⟩ := ho6.rd
    subst hv6
    have HF6 := Lib.hid (ff4 HF5.out hf6)
    have HR6 := Lib.hid hr6
    have HO6 := Lib.hid ho6
    have HG6 := Lib.hid hf6
    clear ho6 hf6 hr6
    have HO5b := Lib.hid (show FiresAt w6 w.heap.size (.slice A5 P.length k5) P from own_base (HO5.out.kept HG6.out) HF4.out.size)
    have HO5w := Lib.hid (HO5.out.kept HG6.out)
    have HONE := Lib.hid (flat_ones4 fireL_one Q)
    obtain ⟨i0, hi0, hz0, hz1, hz2⟩ := info_parts info_rfire
    go_wp2_with (at_builtin
                 refine wpList_append_rd _ rfl _ _ 26 rfl w.heap.size 47 i0 _ 4 32 Tryd.underlying26 hi0 hz0 hz1 hz2 rfl (by decide) _ P.length (P.flatMap fireL) rfl HO5b.out A6 Q.length k6 (Q.flatMap fireL) rfl HR6.out HONE.out (by simp only [maxLen]; omega) (by omega) HF6.out.size ?_
                 intro v7 w7 ho7 hg7 _
                 have ho7 : FiresAt w7 w.heap.size v7 R := by
                   rw [← HJ.out]
                   show w7.ownsRow _ _ _ _ (P ++ Q).length ((P ++ Q).flatMap fireL)
                   rw [List.length_append, List.flatMap_append]
                   exact ho7
                 obtain ⟨A7, k7, hv7, -, -, hr7⟩ := ho7.rd
                 subst hv7
                 have HF7 := Lib.hid (own_grown HF6.out HO5b.out hg7)
                 have HR7 := Lib.hid hr7
                 have HR4_7 := Lib.hid (show Rd w7 4 A4 R.length (R.flatMap fireL) from Rd.fr HR4.out (own_grown (ff4 HG5.out HG6.out) HO5w.out hg7) (fun _ _ _ _ h => h))
                 clear ho7 hg7 hr7)
    refine (Back_any R A4 k4 w7 HR4_7.out (by omega)).mono ?_
    rintro e w8 ⟨v8, rfl, ho8, hf8⟩
    obtain ⟨A8, k8, hv8, -, -, hr8⟩ := ho8.rd
    subst hv8
    have HF8 := Lib.hid (ff4 HF7.out hf8)
    have HR8 := Lib.hid hr8
    have HO8 := Lib.hid ho8
    have HR7_8 := Lib.hid (Rd.fr HR7.out hf8 (fun _ _ _ _ h => h))
    clear ho8 hf8 hr8
    go_wp2_with fail
    refine (Same_any R R A7 A8 k7 k8 w8 HR7_8.out HR8.out (by omega)).mono ?_
    rintro e w9 ⟨rfl, hf9⟩
    rw [decide_eq_true (rfl : R = R)]
    have HF9 := Lib.hid (ff4 HF8.out hf9)
    clear hf9
    go_wp2_with fail
    refine (HAl.out w9 HF9.out).mono ?_
    rintro e wz ⟨rfl, hfz⟩
    have HFz := Lib.hid (ff4 HF9.out hfz)
    clear hfz
    go_wp2_with fail
    go_ret
    exact ⟨rfl, HFz.out⟩
  · have h5 : (¬ LightP l 8) ∨ (LightP l 8 ∧ (a < -20000 ∨ (-20000 ≤ a ∧ (20000 < b ∨ (b ≤ 20000 ∧ (m < a ∨ (a ≤ m ∧ (b < m ∨ (m ≤ b ∧ 30 < b - a))))))))) := by
      by_cases h : LightP l 8
      · refine .inr ⟨h, ?_⟩
        have : ¬ (-20000 ≤ a ∧ b ≤ 20000 ∧ a ≤ m ∧ m ≤ b ∧ b - a ≤ 30) := fun c => hP ⟨h, c⟩
        omega
      · exact .inl h
    clear hl hr hw hP
    rcases h5 with hP | ⟨hP, k1 | ⟨k1, k2 | ⟨k2, k3 | ⟨k3, k4 | ⟨k4, k5⟩⟩⟩⟩⟩
    all_goals
      first | rw [decide_eq_true hP] at HLt | rw [decide_eq_false hP] at HLt
      clear hP
      go_enter Tryd.func4, Tryd.ntmps4
      go_wp2_with fail
      refine HLt.out.mono ?_
      rintro e w1 ⟨rfl, hf1⟩
      have HF1 := Lib.hid hf1
      clear hf1
      go_wp2_with fail
      refine (HAl.out w1 HF1.out).mono ?_
      rintro e wz ⟨rfl, hfz⟩
      have HFz := Lib.hid (ff4 HF1.out hfz)
      clear hfz
      go_wp2_with fail
      go_ret
      exact ⟨rfl, HFz.out⟩
end Go.Proofs.YtbkjafaijkmpfaaDoor
namespace Go.Proofs.YtbkjafaijkmpfaaDoor
open Go.RowKit Go.Mem Go.Lin Go.Xpd

/-- what a law asks of fires -/
def FireOk (l : List RuleL) (a b : Int) (x : FireL) : Prop := ∃ (k : Nat) (r : RuleL), l[k]? = some r ∧ x.i = k ∧ a ≤ x.y ∧ x.y ≤ b ∧ r.fr ≤ x.y ∧ x.y ≤ r.to
theorem order_of {l : List RuleL} {a b : Int} (h1 : 1 ≤ a) (h2 : b ≤ 9999) (h3 : a ≤ b) : RowF l (fromD l a b) ∧ ∀ x ∈ fromD l a b, FireOk l a b x := by
  have e : fromD l a b = fromN l a (b + 1 - a).toNat := by
    unfold fromD
    rw [show max a 1 = a by omega, show min b 9999 = b by omega]
  rw [e]
  refine ⟨fromN_line l a _, fun x hx => ?_⟩
  obtain ⟨k, r, g1, g2, g3, g4, g5⟩ := fromN_mem hx
  have hl := atR_lasts g5
  unfold lasts at hl
  exact ⟨k, r, g1, g2, g3, by omega, hl.1, hl.2.1⟩
theorem cells4 {w : World} {b off : Nat} {x : FireL} (h : ∀ j, j < (fireC x).size → w.cell? ⟨b, off + j, none⟩ = (fireC x)[j]?) :
    w.cell? ⟨b, off, none⟩ = some (.int .i64 x.i) ∧ w.cell? ⟨b, off + 1, none⟩ = some (.int .i64 x.y) ∧ w.cell? ⟨b, off + 2, none⟩ = some (.int .i64 x.at_) ∧ w.cell? ⟨b, off + 3, none⟩ = some (.int .i64 x.bef) :=
  ⟨h 0 (show 0 < 4 by decide), h 1 (show 1 < 4 by decide), h 2 (show 2 < 4 by decide), h 3 (show 3 < 4 by decide)⟩
theorem cellsB {w : World} {g : Nat} {t : TypeId} {x : FireL} (h : Blk w g t (fireC x)) :
    w.cell? ⟨g, 0, none⟩ = some (.int .i64 x.i) ∧ w.cell? ⟨g, 1, none⟩ = some (.int .i64 x.y) ∧ w.cell? ⟨g, 2, none⟩ = some (.int .i64 x.at_) ∧ w.cell? ⟨g, 3, none⟩ = some (.int .i64 x.bef) :=
  ⟨cell_at h 0, cell_at h 1, cell_at h 2, cell_at h 3⟩
set_option maxHeartbeats 3200000 in
set_option maxRecDepth 100000 in
theorem order_any (l : List RuleL) (A : Option Addr) (cap : Nat) (a b : Int) (w : World) (hl : RusAt w A l) (hm : l.length ≤ maxLen) (hr : ∀ r ∈ l, RuR r) (hw : S6.WOk w) (ha : inR a) (hb : inR b) :
    Calls Tryd.prog 5 #[.slice A l.length cap, intV a, intV b] w fun e w' => e = .returned (.bool true) ∧ Fr w w' (fun _ => False) := by
  have HL := Lib.hid hl
  have HLt := Lib.hid (Light_any l A cap 8 w hl (by decide) hm hr)
  have HAl := Lib.hid (fun W (f : Fr w W (fun _ => False)) => alive_any W (hw.fr f))
  obtain ⟨ha1, ha2⟩ := ha
  obtain ⟨hb1, hb2⟩ := hb
  by_cases hP : LightP l 8 ∧ 1 ≤ a ∧ b ≤ 9999 ∧ a ≤ b ∧ b - a ≤ 30
  · obtain ⟨hP, k1, k2, k3, k4⟩ := hP
    rw [decide_eq_true hP] at HLt
    have hok : ∀ r ∈ l, OkF r ∧ RuR r := fun r h => ⟨hP.2 r h, hr r h⟩
    have h8 : l.length ≤ 8 := hP.1
    have HX := Lib.hid (fun W (f : Fr w W (fun _ => False)) => xFrom_any l A cap a b W (hw.fr f) (hl.kept f) h8 hok ⟨by omega, by omega⟩ ⟨by omega, by omega⟩ k4)
    have hX := fromD_len (l := l) (a := a) (b := b) h8 k4
    have hO := order_of (l := l) k1 k2 k3
    generalize fromD l a b = X at *
    have HO := Lib.hid hO.1
    have HK := Lib.hid hO.2
    clear hl hr hw hP hok hO
    go_enter Tryd.func5, Tryd.ntmps5
    go_wp2_with fail
    refine HLt.out.mono ?_
    rintro e w1 ⟨rfl, hf1⟩
    have HF1 := Lib.hid hf1
    clear hf1
    go_wp2_with fail
    refine (HX.out w1 HF1.out).mono ?_
    rintro e w2 ⟨v2, rfl, ho2, hf2⟩
    obtain ⟨A2, c2, hv2, -, -, hr2⟩ := ho2.rd
    subst hv2
    have HF2 := Lib.hid (ff4 HF1.out hf2)
    have HR2 := Lib.hid hr2
    clear ho2 hf2 hr2
    go_wp2_with fail
    go_loopg [8, 9, 10] X.length (fun g v8 _ _ wr => ∃ i : Nat, i + g = X.length ∧ v8 = intV i ∧ Fr w2 wr (fun _ => False))
    case atStart => exact ⟨0, by simp, rfl, Fr.refl _ _⟩
    case round =>
      obtain ⟨i, hi, rfl, hf⟩ := hrel
      have HF := Lib.hid hf
      have HRi := Lib.hid (Rd.fr HR2.out hf (fun _ _ _ _ h => h))
      have HLi := Lib.hid (HL.out.kept (ff4 HF2.out hf))
      by_cases hlt : i < X.length
      · have i0 : (i : Int) < (X.length : Int) := by omega
        obtain ⟨x, hx⟩ : ∃ x, X[i]? = some x := ⟨X[i], List.getElem?_eq_getElem hlt⟩
        obtain ⟨b2, o2, hA2, hc⟩ := FiresAt.at_ HRi.out hx
        subst hA2
        obtain ⟨k, r, hk, hxi, q1, q2, q3, q4⟩ := HK.out x (List.mem_of_getElem? hx)
        obtain ⟨b1, o1, hA, hcr⟩ := HLi.out.at_ hk
        subst hA
        obtain ⟨s0, s1, s2, s3⟩ := cells4 hc
        have hkl : k < l.length := (List.getElem?_eq_some_iff.1 hk).1
        have HX0 := Lib.hid hx
        have HXI := Lib.hid hxi
        have HCR := Lib.hid hcr
        have HKR := Lib.hid hk
        clear hx hk hxi hf hc hcr
        go_wp2_with fail
        have hb : Blk (wr.alloc (.cells #[.int .i64 x.i, .int .i64 x.y, .int .i64 x.at_, .int .i64 x.bef] 36)) wr.heap.size 36 (fireC x) := Blk.made _ _ _
        have hfW := Fr.new wr (.cells #[.int .i64 x.i, .int .i64 x.y, .int .i64 x.at_, .int .i64 x.bef] 36) (fun _ => False)
        generalize wr.alloc (.cells #[.int .i64 x.i, .int .i64 x.y, .int .i64 x.at_, .int .i64 x.bef] 36) = W at *
        generalize wr.heap.size = gx at *
        have HB := Lib.hid hb
        have HFW := Lib.hid hfW
        obtain ⟨t0, t1, t2, t3⟩ := cellsB hb
        rw [HXI.out] at t0
        have f1 : W.cell? ⟨b1, o1 + k * 11 + 1, none⟩ = some (.int .i64 r.fr) := cell_far hfW (HCR.out 1 (show 1 < 11 by decide)) (fun h => h)
        have f2 : W.cell? ⟨b1, o1 + k * 11 + 2, none⟩ = some (.int .i64 r.to) := cell_far hfW (HCR.out 2 (show 2 < 11 by decide)) (fun h => h)
        have d0 : (k : Int) < (l.length : Int) := by omega
        have d1 : decide ((k : Int) < 0) = false := decide_eq_false (by omega)
        have d2 : decide ((l.length : Int) ≤ (k : Int)) = false := decide_eq_false (by omega)
        have d3 : decide (x.y < a) = false := decide_eq_false (by omega)
        have d4 : decide (b < x.y) = false := decide_eq_false (by omega)
        have d5 : decide (x.y < r.fr) = false := decide_eq_false (by omega)
        have d6 : decide (r.to < x.y) = false := decide_eq_false (by omega)
        clear s0 s1 s2 s3 hb hfW t2 t3
        by_cases hi0 : i = 0
        · subst hi0
          go_quiet (fail)
          clear d1 d2 d3 d4 d5 d6
          go_wp2_with fail
          go_roundg (X.length - (0 + 1))
          case measure => omega
          case rel => exact ⟨0 + 1, by omega, by go_num, ff4 HF.out (ff4 HFW.out (Fr.drewN _ _ _))⟩
        · obtain ⟨m, rfl⟩ : ∃ m, i = m + 1 := ⟨i - 1, by omega⟩
          obtain ⟨p, hp⟩ : ∃ p, X[m]? = some p := ⟨X[m], List.getElem?_eq_getElem (by omega)⟩
          have hnx := HO.out m p x hp HX0.out
          obtain ⟨k5, r5, hk5, hpi, -⟩ := HK.out p (List.mem_of_getElem? hp)
          have hsv : savD l p.i = r5.save := by unfold savD; rw [hpi, Int.toNat_natCast, hk5]
          obtain ⟨hxy, hbf⟩ := hnx
          rw [hsv] at hbf
          have HR9 := Lib.hid (Rd.fr HRi.out HFW.out (fun _ _ _ _ h => h))
          obtain ⟨b9, o9, hA9, hc9⟩ := FiresAt.at_ HR9.out hp
          injection hA9 with hA9
          injection hA9 with e7 e8 _
          subst e7 e8
          obtain ⟨s0, s1, s2, s3⟩ := cells4 hc9
          have hkl5 : k5 < l.length := (List.getElem?_eq_some_iff.1 hk5).1
          obtain ⟨b6, o6, hA6, hc6⟩ := (HLi.out.kept HFW.out).at_ hk5
          injection hA6 with hA6
          injection hA6 with e7 e8 _
          subst e7 e8
          have f9 : W.cell? ⟨b1, o1 + k5 * 11 + 9, none⟩ = some (.int .i64 r5.save) := hc6 9 (show 9 < 11 by decide)
          have F9 := Lib.hid f9
          have e1 : ((m + 1 : Nat) : Int) - 1 = (m : Int) := by omega
          have m0 : (m : Int) < (X.length : Int) := by omega
          have HPI := Lib.hid hpi
          have HBF := Lib.hid hbf
          have HXY := Lib.hid hxy
          clear hp hk5 hpi hsv hc9 hc6 f9 hbf hxy
          go_quiet (fail)
          clear d1 d2 d3 d4 d5 d6
          have hd := Fr.drewN W nq (fun _ => False)
          have g0 : (W.drewN nq).cell? ⟨b2, o2 + m * 4, none⟩ = some (.int .i64 p.i) := s0
          have g1 : (W.drewN nq).cell? ⟨b2, o2 + m * 4 + 1, none⟩ = some (.int .i64 p.y) := s1
          have g2 : (W.drewN nq).cell? ⟨b2, o2 + m * 4 + 2, none⟩ = some (.int .i64 p.at_) := s2
          have g3 : (W.drewN nq).cell? ⟨b2, o2 + m * 4 + 3, none⟩ = some (.int .i64 p.bef) := s3
          clear s0 s1 s2 s3 f1 f2 t0 t1
          generalize W.drewN nq = W2 at *
          have HD2 := Lib.hid hd
          clear hd
          go_wp2_with fail
          have hb5 : Blk (W2.alloc (.cells #[.int .i64 p.i, .int .i64 p.y, .int .i64 p.at_, .int .i64 p.bef] 36)) W2.heap.size 36 (fireC p) := Blk.made _ _ _
          have hf5 := ff4 HD2.out (Fr.new W2 (.cells #[.int .i64 p.i, .int .i64 p.y, .int .i64 p.at_, .int .i64 p.bef] 36) (fun _ => False))
          generalize W2.alloc (.cells #[.int .i64 p.i, .int .i64 p.y, .int .i64 p.at_, .int .i64 p.bef] 36) = W3 at *
          generalize W2.heap.size = gp at *
          obtain ⟨s0, s1, s2, s3⟩ := cellsB hb5
          obtain ⟨t0, t1, t2, t3⟩ := cellsB (hf5.blk HB.out (fun h => h))
          rw [HPI.out] at s0
          rw [HXI.out] at t0
          have f9 := cell_far hf5 F9.out (fun h => h)
          have HF5 := Lib.hid (ff4 HF.out (ff4 HFW.out hf5))
          have dn : ((x.bef : Int) != r5.save) = false := by rw [HBF.out]; simp
          have d0 : (k5 : Int) < (l.length : Int) := by omega
          have h3 : p.y < x.y ∨ (p.y = x.y ∧ p.at_ < x.at_) ∨ (p.y = x.y ∧ p.at_ = x.at_ ∧ k5 < k) := by
            have h1 := HXY.out
            have h2 := HPI.out
            have h4 := HXI.out
            omega
          clear g0 g1 g2 g3 hb5 hf5 e1 m0
          rcases h3 with h3 | ⟨h3, h4⟩ | ⟨h3, h4, h5⟩
          · have d1 : decide (x.y < p.y) = false := decide_eq_false (by omega)
            have d2 : ((p.y : Int) == x.y) = false := by rw [beq_eq_false_iff_ne]; omega
            clear h3
            go_quiet (fail)
            clear d1 d2 dn
            go_wp2_with fail
            go_roundg (X.length - (m + 1 + 1))
            case measure => omega
            case rel => exact ⟨m + 1 + 1, by omega, by go_num, ff4 HF5.out (Fr.drewN _ _ _)⟩
          · have d1 : decide (x.y < p.y) = false := decide_eq_false (by omega)
            have d2 : ((p.y : Int) == x.y) = true := by rw [beq_iff_eq]; exact h3
            have d3 : decide (x.at_ < p.at_) = false := decide_eq_false (by omega)
            have d4 : ((p.at_ : Int) == x.at_) = false := by rw [beq_eq_false_iff_ne]; omega
            clear h3 h4
            go_quiet (fail)
            clear d1 d2 d3 d4 dn
            go_wp2_with fail
            go_roundg (X.length - (m + 1 + 1))
            case measure => omega
            case rel => exact ⟨m + 1 + 1, by omega, by go_num, ff4 HF5.out (Fr.drewN _ _ _)⟩
          · have d1 : decide (x.y < p.y) = false := decide_eq_false (by omega)
            have d2 : ((p.y : Int) == x.y) = true := by rw [beq_iff_eq]; exact h3
            have d3 : decide (x.at_ < p.at_) = false := decide_eq_false (by omega)
            have d4 : ((p.at_ : Int) == x.at_) = true := by rw [beq_iff_eq]; exact h4
            have d5 : decide ((k : Int) ≤ (k5 : Int)) = false := decide_eq_false (by omega)
            have d6 : decide (k ≤ k5) = false := decide_eq_false (by omega)
            have d7 : k5 < k := h5
            clear h3 h4 h5
            go_quiet (fail)
            clear d1 d2 d3 d4 d5 d6 d7 dn
            go_wp2_with fail
            go_roundg (X.length - (m + 1 + 1))
            case measure => omega
            case rel => exact ⟨m + 1 + 1, by omega, by go_num, ff4 HF5.out (Fr.drewN _ _ _)⟩
      · obtain rfl : i = X.length := by omega
        clear hf
        go_wp2_with fail
        refine (HAl.out wr (ff4 HF2.out HF.out)).mono ?_
        rintro e wz ⟨rfl, hfz⟩
        have HFz := Lib.hid (ff4 (ff4 HF2.out HF.out) hfz)
        clear hfz
        go_wp2_with fail
        go_ret
        exact ⟨rfl, HFz.out⟩
  · have h5 : (¬ LightP l 8) ∨ (LightP l 8 ∧ (a < 1 ∨ (1 ≤ a ∧ (9999 < b ∨ (b ≤ 9999 ∧ (b < a ∨ (a ≤ b ∧ 30 < b - a))))))) := by
      by_cases h : LightP l 8
      · refine .inr ⟨h, ?_⟩
        have : ¬ (1 ≤ a ∧ b ≤ 9999 ∧ a ≤ b ∧ b - a ≤ 30) := fun c => hP ⟨h, c⟩
        omega
      · exact .inl h
    clear hl hr hw hP
    rcases h5 with hP | ⟨hP, k1 | ⟨k1, k2 | ⟨k2, k3 | ⟨k3, k4⟩⟩⟩⟩
    all_goals
      first | rw [decide_eq_true hP] at HLt | rw [decide_eq_false hP] at HLt
      clear hP
      go_enter Tryd.func5, Tryd.ntmps5
      go_wp2_with fail
      refine HLt.out.mono ?_
      rintro e w1 ⟨rfl, hf1⟩
      have HF1 := Lib.hid hf1
      clear hf1
      go_wp2_with fail
      refine (HAl.out w1 HF1.out).mono ?_
      rintro e wz ⟨rfl, hfz⟩
      have HFz := Lib.hid (ff4 HF1.out hfz)
      clear hfz
      go_wp2_with fail
      go_ret
      exact ⟨rfl, HFz.out⟩
end Go.Proofs.YtbkjafaijkmpfaaDoor
namespace Go.Proofs.YtbkjafaijkmpfaaDoor
open Go.RowKit Go.Mem Go.Lin Go.Xpd

theorem each_of {l : List RuleL} {k : Nat} {r : RuleL} {y : Int} (hr : l[k]? = some r) (hy : 1 ≤ y ∧ y ≤ 9999) :
    cntI k (fromD l y y) = (fromD [r] y y).length ∧ (fromD [r] y y = [] ∨ ∃ g, fromD [r] y y = [g] ∧ r.fr ≤ y ∧ y ≤ r.to) ∧
    ∀ x ∈ fromD l y y, x.i = k → ∃ g, fromD [r] y y = [g] ∧ g.at_ = x.at_ ∧ g.i = 0 := by
  rw [from_year hy, from_year hy, cntI_mark, markF_len]
  refine ⟨cnt_year hr, ?_, fun x hx hi => ?_⟩
  · rw [year_one]
    cases h : atR r y with
    | none => exact .inl rfl
    | some a =>
      have hl := atR_lasts h
      unfold lasts at hl
      exact .inr ⟨_, rfl, hl.1, hl.2.1⟩
  · obtain ⟨f, hf, e1, e2, e3⟩ := markF_mem l _ _ x hx
    have := (year_has (y := y) hr).1 f hf (by omega)
    rw [year_one, this]
    exact ⟨_, rfl, e3.symm, rfl⟩
theorem cnt_next {k : Int} {X : List FireL} {m : Nat} {x : FireL} (h : X[m]? = some x) : cntI k (X.take (m + 1)) = cntI k (X.take m) + (if x.i = k then 1 else 0) := by
  rw [List.take_add_one, h, cntI_app]
  rfl
theorem cnt_le (k : Int) : ∀ X : List FireL, cntI k X ≤ X.length
  | [] => Nat.le_refl _
  | x :: X => by
    have := cnt_le k X
    show (if x.i = k then 1 else 0) + cntI k X ≤ X.length + 1
    split <;> omega
set_option maxHeartbeats 3200000 in
set_option maxRecDepth 100000 in
theorem each_any (l : List RuleL) (A : Option Addr) (cap : Nat) (i y : Int) (w : World) (hl : RusAt w A l) (hm : l.length ≤ maxLen) (hcap : l.length ≤ cap) (hr : ∀ r ∈ l, RuR r) (hw : S6.WOk w) (hi : inR i) (hy : inR y) :
    Calls Tryd.prog 6 #[.slice A l.length cap, intV i, intV y] w fun e w' => e = .returned (.bool true) ∧ Fr w w' (fun _ => False) := by
  have HL := Lib.hid hl
  have HLt := Lib.hid (Light_any l A cap 8 w hl (by decide) hm hr)
  have HAl := Lib.hid (fun W (f : Fr w W (fun _ => False)) => alive_any W (hw.fr f))
  obtain ⟨hi1, hi2⟩ := hi
  obtain ⟨hy1, hy2⟩ := hy
  by_cases hP : LightP l 8 ∧ 0 ≤ i ∧ i < (l.length : Int) ∧ 1 ≤ y ∧ y ≤ 9999
  · obtain ⟨hP, k1, k2, k3, k4⟩ := hP
    rw [decide_eq_true hP] at HLt
    obtain ⟨k, rfl⟩ : ∃ k : Nat, i = k := ⟨i.toNat, by omega⟩
    have hkl : k < l.length := by omega
    obtain ⟨r, hk⟩ : ∃ r, l[k]? = some r := ⟨l[k], List.getElem?_eq_getElem hkl⟩
    have hok : ∀ r ∈ l, OkF r ∧ RuR r := fun r h => ⟨hP.2 r h, hr r h⟩
    have h8 : l.length ≤ 8 := hP.1
    have hl1 : RusAt w (cutA A cap k 11) [r] := by
      have h := Rd.cutA (cap := cap) hl (lo := k) (hi := k + 1) (by omega) (by omega) hcap
      rw [Nat.add_sub_cancel_left] at h
      have e : ((l.flatMap ruleA11).drop (k * 11)).take (1 * 11) = ruleA11 r := by
        have h1 : l = l.take k ++ r :: l.drop (k + 1) := by
          have := (List.getElem?_eq_some_iff.1 hk).2
          rw [← this, ← List.drop_eq_getElem_cons hkl, List.take_append_drop]
        have hlt : ((l.take k).flatMap ruleA11).length = k * 11 := by rw [flat_len ruleA11 11 ruleA11_len, List.length_take]; congr 1; omega
        rw [h1, List.flatMap_append, List.drop_left' hlt, List.flatMap_cons, List.take_left' (by rw [ruleA11_len])]
      rw [e] at h
      show Rd w 11 _ 1 ([r].flatMap ruleA11)
      simpa using h
    have HX := Lib.hid (fun W (f : Fr w W (fun _ => False)) => xYear_any l A cap y W (hw.fr f) (hl.kept f) h8 hok ⟨by omega, by omega⟩)
    have HG := Lib.hid (fun W (f : Fr w W (fun _ => False)) => xYear_any [r] (cutA A cap k 11) (cap - k) y W (hw.fr f) (hl1.kept f) (by show 1 ≤ 8; omega) (fun x hx => by rw [List.mem_singleton.1 hx]; exact hok r (List.mem_of_getElem? hk)) ⟨by omega, by omega⟩)
    have hc := fun w => run_cut_lh (P := Tryd.prog) w 22 42 11 Tryd.underlying22 (fun w => by kernel_rfl) A l.length cap k (k + 1) (by omega) (by omega)
    rw [Nat.add_sub_cancel_left] at hc
    have hc : ∀ w, (Instr.slice 22 (.slice A l.length cap) (some (.int .i64 (k : Int))) (some (.int .i64 ((k : Int) + 1))) none).run Tryd.prog w = .ok (.slice (cutA A cap k 11) 1 (cap - k)) w := hc
    have hX := fromD_len (l := l) (a := y) (b := y) h8 (by omega)
    obtain ⟨g1, g2, g3⟩ := each_of hk ⟨k3, k4⟩
    generalize fromD l y y = X at *
    generalize fromD [r] y y = G at *
    have HG1 := Lib.hid g1
    have HG3 := Lib.hid g3
    have HG2 := Lib.hid g2
    have hG : G.length ≤ 1 := by
      rcases g2 with h | ⟨g, h, -⟩ <;> rw [h] <;> simp
    have HK := Lib.hid hk
    have HC := Lib.hid hc
    clear hl hr hw hP hok g1 g2 g3 hk hl1 hc
    go_enter Tryd.func6, Tryd.ntmps6
    go_wp2_with fail
    refine HLt.out.mono ?_
    rintro e w1 ⟨rfl, hf1⟩
    have HF1 := Lib.hid hf1
    clear hf1
    go_wp2_with fail
    refine (HX.out w1 HF1.out).mono ?_
    rintro e w2 ⟨v2, rfl, ho2, hf2⟩
    obtain ⟨A2, c2, hv2, -, -, hr2⟩ := ho2.rd
    subst hv2
    have HF2 := Lib.hid (ff4 HF1.out hf2)
    have HR2 := Lib.hid hr2
    have hc := HC.out
    clear ho2 hf2 hr2
    go_wp2_with fail
    clear hc
    refine (HG.out w2 HF2.out).mono ?_
    rintro e w3 ⟨v3, rfl, ho3, hf3⟩
    obtain ⟨A3, c3, hv3, -, -, hr3⟩ := ho3.rd
    subst hv3
    have HF3 := Lib.hid (ff4 HF2.out hf3)
    have HR3 := Lib.hid hr3
    have HR2b := Lib.hid (Rd.fr HR2.out hf3 (fun _ _ _ _ h => h))
    clear ho3 hf3 hr3
    go_wp2_with fail
    go_loopg [9, 10] X.length (fun g v9 v10 wr => ∃ m : Nat, m + g = X.length ∧ v10 = intV m ∧ v9 = intV (cntI k (X.take m) : Nat) ∧ Fr w3 wr (fun _ => False))
    case atStart => exact ⟨0, by simp, rfl, rfl, Fr.refl _ _⟩
    case round =>
      obtain ⟨m, hmg, rfl, rfl, hf⟩ := hrel
      have HF := Lib.hid hf
      have HRi := Lib.hid (Rd.fr HR2b.out hf (fun _ _ _ _ h => h))
      have HGi := Lib.hid (Rd.fr HR3.out hf (fun _ _ _ _ h => h))
      by_cases hlt : m < X.length
      · have m0 : (m : Int) < (X.length : Int) := by omega
        obtain ⟨x, hx⟩ : ∃ x, X[m]? = some x := ⟨X[m], List.getElem?_eq_getElem hlt⟩
        obtain ⟨b2, o2, hA2, hcx⟩ := FiresAt.at_ HRi.out hx
        subst hA2
        obtain ⟨s0, s1, s2, s3⟩ := cells4 hcx
        have hn := cnt_next (k := (k : Int)) hx
        have hcl := cnt_le (k : Int) (X.take m)
        rw [List.length_take] at hcl
        have HX3 := Lib.hid (fun h => HG3.out x (List.mem_of_getElem? hx) h)
        clear hx hcx hf s1 s3
        by_cases he : x.i = (k : Int)
        · rw [if_pos he] at hn
          obtain ⟨g, hg, ga, gi⟩ := HX3.out he
          subst hg
          obtain ⟨b3, o3, hA3, hcg⟩ := FiresAt.at_ HGi.out (i := 0) (f := g) rfl
          subst hA3
          rw [Nat.zero_mul, Nat.add_zero] at hcg
          obtain ⟨u0, u1, u2, u3⟩ := cells4 hcg
          rw [gi] at u0
          have q1 : ((x.i : Int) == (k : Int)) = true := by rw [beq_iff_eq]; exact he
          have q2 : ((g.at_ : Int) != x.at_) = false := by rw [ga]; simp
          have HN := Lib.hid hn
          generalize cntI (k : Int) (X.take m) = C at *
          have hC : C ≤ 1000 := by omega
          clear hcg hn he ga gi u1 u3
          go_wp2_with fail
          go_quiet (fail)
          clear q2
          go_wp2_with fail
          go_roundg (X.length - (m + 1))
          case measure => omega
          case rel => exact ⟨m + 1, by omega, by go_num, by rw [HN.out, Int.natCast_add]; go_num, ff4 HF.out (Fr.drewN _ _ _)⟩
        · rw [if_neg he] at hn
          have q1 : ((x.i : Int) == (k : Int)) = false := by rw [beq_eq_false_iff_ne]; exact he
          have HN := Lib.hid hn
          generalize cntI (k : Int) (X.take m) = C at *
          clear hn he
          go_wp2_with fail
          go_roundg (X.length - (m + 1))
          case measure => omega
          case rel => exact ⟨m + 1, by omega, by go_num, by rw [HN.out]; rfl, HF.out⟩
      · obtain rfl : m = X.length := by omega
        rw [List.take_length, HG1.out]
        have HLi := Lib.hid (HL.out.kept (ff4 HF3.out hf))
        obtain ⟨b1, o1, hA, hcr⟩ := HLi.out.at_ HK.out
        subst hA
        have f1 : wr.cell? ⟨b1, o1 + k * 11 + 1, none⟩ = some (.int .i64 r.fr) := hcr 1 (show 1 < 11 by decide)
        have f2 : wr.cell? ⟨b1, o1 + k * 11 + 2, none⟩ = some (.int .i64 r.to) := hcr 2 (show 2 < 11 by decide)
        have d0 : (k : Int) < (l.length : Int) := by omega
        have HF9 := Lib.hid (ff4 HF3.out hf)
        clear hcr hf
        rcases HG2.out with h | ⟨g, h, y1, y2⟩
        all_goals
          subst h
          go_wp2_with fail
          refine (HAl.out wr HF9.out).mono ?_
          rintro e wz ⟨rfl, hfz⟩
          have HFz := Lib.hid (ff4 HF9.out hfz)
          clear hfz
          go_wp2_with fail
          go_ret
          exact ⟨rfl, HFz.out⟩
  · have h5 : (¬ LightP l 8) ∨ (LightP l 8 ∧ (i < 0 ∨ (0 ≤ i ∧ ((l.length : Int) ≤ i ∨ (i < (l.length : Int) ∧ (y < 1 ∨ (1 ≤ y ∧ 9999 < y))))))) := by
      by_cases h : LightP l 8
      · refine .inr ⟨h, ?_⟩
        have : ¬ (0 ≤ i ∧ i < (l.length : Int) ∧ 1 ≤ y ∧ y ≤ 9999) := fun c => hP ⟨h, c⟩
        omega
      · exact .inl h
    clear hl hr hw hP
    rcases h5 with hP | ⟨hP, k1 | ⟨k1, k2 | ⟨k2, k3 | ⟨k3, k4⟩⟩⟩⟩
    all_goals
      first | rw [decide_eq_true hP] at HLt | rw [decide_eq_false hP] at HLt
      clear hP
      go_enter Tryd.func6, Tryd.ntmps6
      go_wp2_with fail
      refine HLt.out.mono ?_
      rintro e w1 ⟨rfl, hf1⟩
      have HF1 := Lib.hid hf1
      clear hf1
      go_wp2_with fail
      refine (HAl.out w1 HF1.out).mono ?_
      rintro e wz ⟨rfl, hfz⟩
      have HFz := Lib.hid (ff4 HF1.out hfz)
      clear hfz
      go_wp2_with fail
      go_ret
      exact ⟨rfl, HFz.out⟩
end Go.Proofs.YtbkjafaijkmpfaaDoor
