import Derived.Test.YtpjmmnhmhjpkkaaDoorYb13
import Derived.Sort.Grow
import Derived.Deep.RegionHeld3
import Derived.Test.YtpjmmnhmhjpkkaaDoorYb12
import Derived.Test.YtpjmmnhmhjpkkaaDoorYb10
import Derived.Shelf.SlSortCmp.NoneTotal
namespace Go.Proofs.YtpjmmnhmhjpkkaaDoor
open Go.RowKit Go.Mem Go.Lin Go.Xpd

/- how fires follow one another -/
def Grw (w w' : World) : Prop := ∃ q os, w' = Go.Sort.grow (w.drewN q) os
theorem Grw.refl (w : World) : Grw w w := ⟨0, #[], by simp [Go.Sort.grow, World.drewN]⟩
theorem Grw.alloc {w w' : World} (h : Grw w w') (o : Obj) : Grw w (w'.alloc o) := by
  obtain ⟨q, os, rfl⟩ := h
  exact ⟨q, _, by rw [Go.Sort.alloc_eq_grow, Go.Sort.grow_grow]⟩
theorem Grw.drew {w w' : World} (h : Grw w w') : Grw w w'.drew := by
  obtain ⟨q, os, rfl⟩ := h
  exact ⟨q + 1, os, rfl⟩
theorem Grw.fr {w w' : World} (h : Grw w w') : Fr w w' (fun _ => False) := by
  obtain ⟨q, os, rfl⟩ := h
  exact ⟨rfl, rfl, rfl, by simp [Go.Sort.grow, World.drewN], fun i hi _ => by
    show (w.heap ++ os)[i]? = _
    rw [Array.getElem?_append_left hi]⟩
theorem kq6a {w a : World} {p1 p2 o1 o2 o3 o4 o5 o6 : Nat} {v1 v2 v3 v4 v5 v6 : Value} {o : Obj} (h : Grw w a ∧ a.cell? ⟨p1, o1, none⟩ = some v1 ∧ a.cell? ⟨p1, o2, none⟩ = some v2 ∧ a.cell? ⟨p1, o3, none⟩ = some v3 ∧ a.cell? ⟨p2, o4, none⟩ = some v4 ∧ a.cell? ⟨p2, o5, none⟩ = some v5 ∧ a.cell? ⟨p2, o6, none⟩ = some v6) :
    Grw w (a.alloc o) ∧ (a.alloc o).cell? ⟨p1, o1, none⟩ = some v1 ∧ (a.alloc o).cell? ⟨p1, o2, none⟩ = some v2 ∧ (a.alloc o).cell? ⟨p1, o3, none⟩ = some v3 ∧ (a.alloc o).cell? ⟨p2, o4, none⟩ = some v4 ∧ (a.alloc o).cell? ⟨p2, o5, none⟩ = some v5 ∧ (a.alloc o).cell? ⟨p2, o6, none⟩ = some v6 := by
  have hf := Fr.new a o (fun _ => False)
  obtain ⟨h0, h1, h2, h3, h4, h5, h6⟩ := h
  exact ⟨h0.alloc o, cell_far hf h1 (fun h => h), cell_far hf h2 (fun h => h), cell_far hf h3 (fun h => h), cell_far hf h4 (fun h => h), cell_far hf h5 (fun h => h), cell_far hf h6 (fun h => h)⟩
theorem kq6d {w a : World} {p1 p2 o1 o2 o3 o4 o5 o6 : Nat} {v1 v2 v3 v4 v5 v6 : Value} (h : Grw w a ∧ a.cell? ⟨p1, o1, none⟩ = some v1 ∧ a.cell? ⟨p1, o2, none⟩ = some v2 ∧ a.cell? ⟨p1, o3, none⟩ = some v3 ∧ a.cell? ⟨p2, o4, none⟩ = some v4 ∧ a.cell? ⟨p2, o5, none⟩ = some v5 ∧ a.cell? ⟨p2, o6, none⟩ = some v6) :
    Grw w a.drew ∧ a.drew.cell? ⟨p1, o1, none⟩ = some v1 ∧ a.drew.cell? ⟨p1, o2, none⟩ = some v2 ∧ a.drew.cell? ⟨p1, o3, none⟩ = some v3 ∧ a.drew.cell? ⟨p2, o4, none⟩ = some v4 ∧ a.drew.cell? ⟨p2, o5, none⟩ = some v5 ∧ a.drew.cell? ⟨p2, o6, none⟩ = some v6 :=
  ⟨h.1.drew, h.2⟩
theorem nan_any (x : Int) (w : World) : Calls Tryd.prog 72 #[intV x] w fun e w' => e = .returned (.bool false) ∧ w' = w := by
  go_enter Tryd.func72, Tryd.ntmps72
  go_wp2_with fail
  go_ret
  exact ⟨by simp, rfl⟩
theorem nan64_any (x : Int) (w : World) : Calls Tryd.prog 73 #[intV x] w fun e w' => e = .returned (.bool false) ∧ w' = w := by
  go_enter Tryd.func73, Tryd.ntmps73
  go_wp2_with fail
  go_ret
  exact ⟨by simp, rfl⟩
theorem cmp_any (x y : Int) (w : World) : Calls Tryd.prog 67 #[intV x, intV y] w fun e w' => e = .returned (intV (cmpI x y)) ∧ w' = w := by
  have HX := Lib.hid (nan_any x w)
  have HY := Lib.hid (nan_any y w)
  rcases cmpI_3 x y with ⟨h, e⟩ | ⟨h, e⟩ | ⟨rfl, e⟩
  all_goals
    rw [e]
    clear e
    go_enter Tryd.func67, Tryd.ntmps67
    go_wp2_with fail
    refine HX.out.mono ?_
    rintro e w2 ⟨rfl, rfl⟩
    go_wp2_with fail
    refine HY.out.mono ?_
    rintro e w2 ⟨rfl, rfl⟩
    go_wp2_with fail
    go_ret
    exact ⟨rfl, rfl⟩
theorem cmp64_any (x y : Int) (w : World) : Calls Tryd.prog 68 #[intV x, intV y] w fun e w' => e = .returned (intV (cmpI x y)) ∧ w' = w := by
  have HX := Lib.hid (nan64_any x w)
  have HY := Lib.hid (nan64_any y w)
  rcases cmpI_3 x y with ⟨h, e⟩ | ⟨h, e⟩ | ⟨rfl, e⟩
  all_goals
    rw [e]
    clear e
    go_enter Tryd.func68, Tryd.ntmps68
    go_wp2_with fail
    refine HX.out.mono ?_
    rintro e w2 ⟨rfl, rfl⟩
    go_wp2_with fail
    refine HY.out.mono ?_
    rintro e w2 ⟨rfl, rfl⟩
    go_wp2_with fail
    go_ret
    exact ⟨rfl, rfl⟩
def or3 (x y z : Int) : Int := if x ≠ 0 then x else if y ≠ 0 then y else z
theorem or_any (x y z : Int) (g : Nat) (w : World) (hb : Blk w g 3 #[intV x, intV y, intV z]) : Calls Tryd.prog 66 #[.slice (some ⟨g, 0, none⟩) 3 3] w fun e w' => e = .returned (intV (or3 x y z)) ∧ w' = w := by
  obtain ⟨c, hc, HE⟩ : ∃ c : Nat → Int, (∀ j, j < 3 → w.cell? ⟨g, j, none⟩ = some (intV (c j))) ∧ or3 x y z = or3 (c 0) (c 1) (c 2) := by
    refine ⟨fun j => if j = 0 then x else if j = 1 then y else z, fun j hj => ?_, rfl⟩
    match j, hj with
    | 0, _ => exact blkc hb 0 _ rfl
    | 1, _ => exact blkc hb 1 _ rfl
    | 2, _ => exact blkc hb 2 _ rfl
  have HC := Lib.hid hc
  rw [HE]
  clear hc hb HE
  go_enter Tryd.func66, Tryd.ntmps66
  go_wp2_with fail
  go_loopg [5, 8] 3 (fun g _ v8 wr => ∃ i : Nat, i + g = 3 ∧ v8 = intV i ∧ wr = w ∧ ∀ j, j < i → c j = 0)
  case atStart => exact ⟨0, rfl, rfl, rfl, fun j hj => absurd hj (Nat.not_lt_zero j)⟩
  case round =>
    obtain ⟨i, hi, rfl, rfl, hz⟩ := hrel
    have HZ := Lib.hid hz
    clear hz
    by_cases hlt : i < 3
    · have i1 : (i : Int) < 3 := by omega
      have c0 := HC.out i hlt
      obtain ⟨C, hCv⟩ : ∃ C, c i = C := ⟨_, rfl⟩
      rw [hCv] at c0
      have HCv := Lib.hid hCv
      clear hCv
      by_cases h0 : C = 0
      · subst h0
        go_wp2_with fail
        go_roundg (2 - i)
        case measure => omega
        case rel =>
          refine ⟨i + 1, by omega, by go_num, rfl, fun j hj => ?_⟩
          by_cases e : j = i
          · rw [e]; exact HCv.out
          · exact HZ.out j (by omega)
      · have HE := Lib.hid (show or3 (c 0) (c 1) (c 2) = C by
          have h0' := h0
          rw [← HCv.out] at h0' ⊢
          unfold or3
          match i, hlt, HZ with
          | 0, _, _ => rw [if_pos h0']
          | 1, _, HZ => rw [if_neg (by rw [HZ.out 0 (by omega)]; simp), if_pos h0']
          | 2, _, HZ => rw [if_neg (by rw [HZ.out 0 (by omega)]; simp), if_neg (by rw [HZ.out 1 (by omega)]; simp)])
        have h0 : (C == 0) = false := beq_eq_false_iff_ne.2 h0
        go_wp2_with fail
        go_ret
        exact ⟨by rw [HE.out]; rfl, rfl⟩
    · obtain rfl : i = 3 := by omega
      have HE := Lib.hid (show or3 (c 0) (c 1) (c 2) = 0 by
        unfold or3
        rw [if_neg (by rw [HZ.out 0 (by omega)]; simp), if_neg (by rw [HZ.out 1 (by omega)]; simp)]
        exact HZ.out 2 (by omega))
      go_wp2_with fail
      go_ret
      exact ⟨by rw [HE.out]; rfl, rfl⟩
end Go.Proofs.YtpjmmnhmhjpkkaaDoor
namespace Go.Proofs.YtpjmmnhmhjpkkaaDoor
open Go.RowKit Go.Mem Go.Lin Go.Xpd

theorem or3_cf (a b : FireL) : or3 (cmpI a.y b.y) (cmpI a.at_ b.at_) (cmpI a.i b.i) = cfF a b := rfl
set_option maxHeartbeats 3200000 in
set_option maxRecDepth 100000 in
theorem order_grw (a b : FireL) (w : World) : Calls Tryd.prog 63 #[fireV a, fireV b] w fun e w' => e = .returned (intV (cfF a b)) ∧ Grw w w' := by
  have s1 : (w.alloc (.cells (fireC a) 110)).heap.size = w.heap.size + 1 := by simp
  have n1 := Fr.new (w.alloc (.cells (fireC a) 110)) (.cells (fireC b) 110) (fun _ => False)
  have ba := n1.blk (Blk.made w 110 (fireC a)) (fun h => h)
  have bb := Blk.made (w.alloc (.cells (fireC a) 110)) 110 (fireC b)
  rw [s1] at bb
  have HG0 := Lib.hid (((Grw.refl w).alloc (.cells (fireC a) 110)).alloc (.cells (fireC b) 110))
  have HBa := Lib.hid ba
  have HBb := Lib.hid bb
  have HCf := Lib.hid (or3_cf a b)
  clear s1 n1 ba bb
  go_enter Tryd.func63, Tryd.ntmps63
  go_wp2_with fail
  obtain ⟨W, hW⟩ : ∃ W, (w.alloc (.cells (fireC a) 110)).alloc (.cells (fireC b) 110) = W := ⟨_, rfl⟩
  rw [hW] at HG0 HBa HBb ⊢
  clear hW
  have HS0 := Lib.hid (show Grw w W ∧ W.cell? ⟨w.heap.size, 0, none⟩ = some (.int .i64 a.i) ∧ W.cell? ⟨w.heap.size, 1, none⟩ = some (.int .i64 a.y) ∧ W.cell? ⟨w.heap.size, 2, none⟩ = some (.int .i64 a.at_) ∧ W.cell? ⟨w.heap.size + 1, 0, none⟩ = some (.int .i64 b.i) ∧ W.cell? ⟨w.heap.size + 1, 1, none⟩ = some (.int .i64 b.y) ∧ W.cell? ⟨w.heap.size + 1, 2, none⟩ = some (.int .i64 b.at_) from
    ⟨HG0.out, blkc HBa.out 0 _ rfl, blkc HBa.out 1 _ rfl, blkc HBa.out 2 _ rfl, blkc HBb.out 0 _ rfl, blkc HBb.out 1 _ rfl, blkc HBb.out 2 _ rfl⟩)
  clear HG0 HBa HBb
  go_region_held3 (fun w' => Grw w w' ∧ w'.cell? ⟨w.heap.size, 0, none⟩ = some (.int .i64 a.i) ∧ w'.cell? ⟨w.heap.size, 1, none⟩ = some (.int .i64 a.y) ∧ w'.cell? ⟨w.heap.size, 2, none⟩ = some (.int .i64 a.at_) ∧ w'.cell? ⟨w.heap.size + 1, 0, none⟩ = some (.int .i64 b.i) ∧ w'.cell? ⟨w.heap.size + 1, 1, none⟩ = some (.int .i64 b.y) ∧ w'.cell? ⟨w.heap.size + 1, 2, none⟩ = some (.int .i64 b.at_))
    (first | with_reducible exact kq6d HS0.out | with_reducible assumption | with_reducible exact kq6d (kq6a HS0.out) | (with_reducible refine kq6a ?_; with_reducible assumption))
    (first
      | ((go_at_call 67); refine (cmp_any _ _ _).mono ?_; rintro e w5 ⟨rfl, rfl⟩)
      | ((go_at_call 68); refine (cmp64_any _ _ _).mono ?_; rintro e w5 ⟨rfl, rfl⟩)
      | ((go_at_call 66); refine (or_any (cmpI a.y b.y) (cmpI a.at_ b.at_) (cmpI a.i b.i) W.heap.size _ ((Fr.drew _ (fun _ => False)).blk (Blk.made W 3 _) (fun h => h))).mono ?_; rintro e w5 ⟨rfl, rfl⟩))
  all_goals
    rename_i hS
    have HE := Lib.hid hS.1
    clear hS
    rw [HCf.out]
    go_wp2_with fail
    go_ret
    exact ⟨rfl, HE.out⟩
end Go.Proofs.YtpjmmnhmhjpkkaaDoor
namespace Go.Proofs.YtpjmmnhmhjpkkaaDoor
open Go.RowKit Go.Mem Go.Lin Go.Xpd

theorem xord_any (a b : FireL) (w : World) : Calls Tryd.prog 63 #[fireV a, fireV b] w fun e w' => e = .returned (intV (cfF a b)) ∧ Fr w w' (fun _ => False) :=
  (order_grw a b w).mono fun _ _ h => ⟨h.1, h.2.fr⟩
theorem results_max (tmps : Array Value) (w : World) (q : Nat) (f : FireL) (hp : tmps.getD 4 undef = .pointer (some ⟨q, 0, none⟩)) (hb : Blk w q 110 (fireC f)) : (results Tryd.f87 tmps).run Tryd.prog w = .ok (fireV f) w :=
  results_cell_row (P := Tryd.prog) (fn := Tryd.f87) (p := 4) (ty := 110) rfl tmps _ q 110 (fireC f) (0, 0) _ hp hb Tryd.underlying110 rfl (infoXF f)
theorem max_step {F : List FireL} {i : Nat} {m x : FireL} (hx : F[i]? = some x) (hm : m ∈ F.take i) (ha : ∀ g ∈ F.take i, ¬ ltF m g) :
    (ltF m x → x ∈ F.take (i + 1) ∧ ∀ g ∈ F.take (i + 1), ¬ ltF x g) ∧ (¬ ltF m x → m ∈ F.take (i + 1) ∧ ∀ g ∈ F.take (i + 1), ¬ ltF m g) := by
  have e : F.take (i + 1) = F.take i ++ [x] := by rw [List.take_add_one, hx]; rfl
  rw [e]
  constructor
  · intro h
    refine ⟨by simp, fun g hg => ?_⟩
    rcases List.mem_append.1 hg with hg | hg
    · exact fun h2 => ha g hg (ltF_trans h h2)
    · rw [show g = x by simpa using hg]; exact ltF_irr x
  · intro h
    refine ⟨by simp [hm], fun g hg => ?_⟩
    rcases List.mem_append.1 hg with hg | hg
    · exact ha g hg
    · rw [show g = x by simpa using hg]; exact h
def MxR (F : List FireL) (w : World) (g : Nat) (v6 : Value) (wr : World) : Prop := ∃ (i : Nat) (m : FireL), v6 = intV i ∧ i + g = F.length ∧ m ∈ F.take i ∧ (∀ g ∈ F.take i, ¬ ltF m g) ∧ Blk wr w.heap.size 110 (fireC f0) ∧ Blk wr (w.heap.size + 1) 110 (fireC m) ∧ Fr w wr (fun _ => False)
set_option maxHeartbeats 3200000 in
set_option maxRecDepth 100000 in
theorem max_any (F : List FireL) (A : Option Addr) (cap : Nat) (w : World) (hF : Rd w 4 A F.length (F.flatMap fireL)) (h0 : 0 < F.length) (hl : F.length ≤ 1000000) :
    Calls Tryd.prog 87 #[.slice A F.length cap, .func (.func 63) #[] #[]] w fun e w' => ∃ m, e = .returned (fireV m) ∧ m ∈ F ∧ (∀ g ∈ F, ¬ ltF m g) ∧ Fr w w' (fun _ => False) := by
  have HR := Lib.hid hF
  obtain ⟨x0, hx0⟩ : ∃ x, F[0]? = some x := ⟨F[0], List.getElem?_eq_getElem h0⟩
  obtain ⟨b, off, hA, hc⟩ := FiresAt.at_ hF hx0
  subst hA
  rw [Nat.zero_mul, Nat.add_zero] at hc
  have hT := Lib.hid (show x0 ∈ F.take 1 ∧ ∀ g ∈ F.take 1, ¬ ltF x0 g by
    have e : F.take 1 = [x0] := by rw [List.take_add_one, hx0]; rfl
    rw [e]
    exact ⟨by simp, fun g hg => by rw [show g = x0 by simpa using hg]; exact ltF_irr _⟩)
  have hl1 : ¬ (F.length : Int) < 1 := by omega
  have hl0 : (0 : Int) < (F.length : Int) := by omega
  have s1 : (w.alloc (.cells (fireC f0) 110)).heap.size = w.heap.size + 1 := by simp
  have n1 := Fr.new w (.cells (fireC f0) 110) (fun _ => False)
  have n2 := Fr.new (w.alloc (.cells (fireC f0) 110)) (.cells (fireC f0) 110) (fun _ => False)
  have b2 := Blk.made (w.alloc (.cells (fireC f0) 110)) 110 (fireC f0)
  rw [s1] at b2
  have HB1 := Lib.hid (n2.blk (Blk.made w 110 (fireC f0)) (fun h => h))
  have HB2 := Lib.hid b2
  have HF2 := Lib.hid (ff4 n1 n2)
  have HC1 := Lib.hid (cells_far n1 hc (Nat.le_refl _) (fun h => h))
  clear s1 n1 n2 b2 hF hx0 hc
  go_enter Tryd.func87, Tryd.ntmps87
  go_wp2_with (first
    | ((with_reducible refine at_load4 110 ?_); refine wpList_load_at 110 _ b off (fireC x0) _ (by rfl) rfl rfl HC1.out Tryd.underlying110 rfl (infoXF _) ?_)
    | ((with_reducible refine at_store4 110 ?_); refine wpList_store_blk 110 _ _ (w.heap.size + 1) 0 110 (fireC f0) (fireC x0) (fireC x0) (by rfl) rfl rfl rfl rfl HB2.out (infoXF _) (fireC_one _) (show 0 + 4 ≤ 4 by decide) (put_fi _ _) ?_
       intro W hf hb
       have HF3 := Lib.hid (HF2.out.fresh hf (fun i e => by have e : i = w.heap.size + 1 := e; omega))
       have HB3 := Lib.hid (hf.blk HB1.out (fun e => by have e : w.heap.size = w.heap.size + 1 := e; omega))
       have HB4 := Lib.hid hb
       clear hf hb HB1 HB2 HF2 HC1))
  go_loopg [6] (F.length - 1) (fun g v6 wr => MxR F w g v6 wr)
  case atStart => exact ⟨1, x0, rfl, by omega, hT.out.1, hT.out.2, HB3.out, HB4.out, HF3.out⟩
  case round =>
    obtain ⟨i, m, rfl, hi, hm, ha, hb0, hb1, hf⟩ := hrel
    have HF := Lib.hid hf
    have HX0 := Lib.hid hb0
    have HX1 := Lib.hid hb1
    by_cases hlt : i < F.length
    · obtain ⟨x, hx⟩ : ∃ x, F[i]? = some x := ⟨F[i], List.getElem?_eq_getElem hlt⟩
      obtain ⟨b', off', hA, hc⟩ := FiresAt.at_ (Rd.fr HR.out hf (fun _ _ _ _ h => h)) hx
      cases hA
      have i1 : (i : Int) < (F.length : Int) := by omega
      have HCx := Lib.hid hc
      obtain ⟨S1, S2⟩ := max_step hx hm ha
      have HS1 := Lib.hid S1
      have HS2 := Lib.hid S2
      have HGt := Lib.hid (cfF_gt (a := x) (b := m))
      obtain ⟨c, hcv⟩ : ∃ c, cfF x m = c := ⟨_, rfl⟩
      have HO := Lib.hid (fun W => xord_any x m W)
      rw [hcv] at HO HGt
      clear hcv S1 S2 hc hx hm ha hb0 hb1 hf
      by_cases hgt : 0 < c
      · have HM := Lib.hid (HS1.out (HGt.out.1 hgt))
        have hgt := hgt
        go_wp2_with fail
        refine wp_region_held_drew (S := fun w' => Fr wr w' (fun _ => False)) (by kernel_rfl) (Fr.drew _ _) (fun hHeld => ?_)
        refine wpAnyH_take (i := 0) (v := ?_) rfl (by kernel_rfl) (by kernel_rfl) (by kernel_rfl) (fun _ _ _ h => h) (Or.inl ⟨by rfl, ?_⟩) (by assumption) ?_
        rotate_left
        · intro w' hSw
          go_simp
          try with_reducible rfl
        try simp only [Act.put, List.setIfInBounds_toArray, List.set_cons_zero, List.set_cons_succ, List.getElem_toArray, List.getElem_cons_zero]
        refine wpAnyH_take (i := 1) (v := ?_) rfl (by kernel_rfl) (by kernel_rfl) (by kernel_rfl) (fun _ _ _ h => h) (Or.inl ⟨by rfl, ?_⟩) (by assumption) ?_
        rotate_left
        · intro w' hSw
          go_simp
          try with_reducible rfl
        try simp only [Act.put, List.setIfInBounds_toArray, List.set_cons_zero, List.set_cons_succ, List.getElem_toArray, List.getElem_cons_succ, List.getElem_cons_zero]
        refine wpAnyH_take (i := 2) (v := ?_) rfl (by kernel_rfl) (by kernel_rfl) (by kernel_rfl) (fun _ _ _ h => h) (Or.inl ⟨by rfl, ?_⟩) (by assumption) ?_
        rotate_left
        · intro w' hSw
          go_simp
          try with_reducible rfl
        try simp only [Act.put, List.setIfInBounds_toArray, List.set_cons_zero, List.set_cons_succ, List.getElem_toArray, List.getElem_cons_succ, List.getElem_cons_zero]
        refine wpAnyH_take (i := 3) (v := ?_) rfl (by kernel_rfl) (by kernel_rfl) (by kernel_rfl) (fun _ _ _ h => h) (Or.inl ⟨by rfl, ?_⟩) (by assumption) ?_
        rotate_left
        · intro w' hSw
          go_simp
          try with_reducible rfl
        try simp only [Act.put, List.setIfInBounds_toArray, List.set_cons_zero, List.set_cons_succ, List.getElem_toArray, List.getElem_cons_succ, List.getElem_cons_zero]
        refine wpAnyH_take (i := 4) (v := _) rfl (by kernel_rfl) (by kernel_rfl) (by kernel_rfl) (fun _ _ _ h => h) ((yields_at 110 _ b (off + i * 4) (fireC x) _ (by rfl) rfl rfl (fun w' hSw => cells_far hSw HCx.out (Nat.le_refl _) (fun h => h)) Tryd.underlying110 rfl (infoXF _))) (by assumption) ?_
        try simp only [Act.put, List.setIfInBounds_toArray, List.set_cons_zero, List.set_cons_succ, List.getElem_toArray, List.getElem_cons_succ, List.getElem_cons_zero]
        refine wpAnyH_take (i := 5) (v := _) rfl (by kernel_rfl) (by kernel_rfl) (by kernel_rfl) (fun _ _ _ h => h) ((yields_blk 110 _ (w.heap.size + 1) 0 110 (fireC m) (fireC m) _ (by rfl) rfl rfl (fun w' hSw => hSw.blk HX1.out (fun h => h)) Tryd.underlying110 rfl (infoXF _) (zero_part _))) (by assumption) ?_
        try simp only [Act.put, List.setIfInBounds_toArray, List.set_cons_zero, List.set_cons_succ, List.getElem_toArray, List.getElem_cons_succ, List.getElem_cons_zero]
        refine wpAnyH_ready (rs := [6]) (by kernel_rfl) (by simp) ?_
        refine AllReadyH.cons rfl (fun K hK => ?_) AllReadyH.nil
        go_simp
        refine (HO.out _).mono ?_
        rintro e w6 ⟨rfl, hf6⟩
        refine hK.out _ _ (ff4 hHeld hf6) (fun hHeld2 => ?_)
        clear hK K hHeld hf6
        rename_i hHeld2
        have hHeld := hHeld2
        clear hHeld2
        try simp only [Act.put, List.setIfInBounds_toArray, List.set_cons_zero, List.set_cons_succ, List.getElem_toArray, List.getElem_cons_succ, List.getElem_cons_zero]
        refine wpAnyH_take (i := 7) (v := ?_) rfl (by kernel_rfl) (by kernel_rfl) (by kernel_rfl) (fun _ _ _ h => h) (Or.inl ⟨by rfl, ?_⟩) (by assumption) ?_
        rotate_left
        · intro w' hSw
          go_simp
          try with_reducible rfl
        try simp only [Act.put, List.setIfInBounds_toArray, List.set_cons_zero, List.set_cons_succ, List.getElem_toArray, List.getElem_cons_succ, List.getElem_cons_zero]
        refine wpAnyH_done (by kernel_rfl) ?_ _
        have HFr := Lib.hid hHeld
        clear hHeld
        go_wp2_with (first
          | ((with_reducible refine at_load4 110 ?_); refine wpList_load_at 110 _ b (off + i * 4) (fireC x) _ (by rfl) rfl rfl (cells_far HFr.out HCx.out (Nat.le_refl _) (fun h => h)) Tryd.underlying110 rfl (infoXF _) ?_)
          | ((with_reducible refine at_store4 110 ?_); refine wpList_store_blk 110 _ _ (w.heap.size + 1) 0 110 (fireC m) (fireC x) (fireC x) (by rfl) rfl rfl rfl rfl (HFr.out.blk HX1.out (fun h => h)) (infoXF _) (fireC_one _) (show 0 + 4 ≤ 4 by decide) (put_fi _ _) ?_
             intro W5 hf5 hb5
             have HF5 := Lib.hid ((ff4 HF.out HFr.out).fresh hf5 (fun i e => by have e : i = w.heap.size + 1 := e; omega))
             have HB5 := Lib.hid (hf5.blk (HFr.out.blk HX0.out (fun h => h)) (fun e => by have e : w.heap.size = w.heap.size + 1 := e; omega))
             have HB6 := Lib.hid hb5
             clear hf5 hb5))
        go_roundg (F.length - (i + 1))
        case measure => omega
        case rel => exact ⟨i + 1, x, by go_num, by omega, HM.out.1, HM.out.2, HB5.out, HB6.out, HF5.out⟩
      · have HM := Lib.hid (HS2.out (fun h => hgt (HGt.out.2 h)))
        go_wp2_with fail
        refine wp_region_held_drew (S := fun w' => Fr wr w' (fun _ => False)) (by kernel_rfl) (Fr.drew _ _) (fun hHeld => ?_)
        refine wpAnyH_take (i := 0) (v := ?_) rfl (by kernel_rfl) (by kernel_rfl) (by kernel_rfl) (fun _ _ _ h => h) (Or.inl ⟨by rfl, ?_⟩) (by assumption) ?_
        rotate_left
        · intro w' hSw
          go_simp
          try with_reducible rfl
        try simp only [Act.put, List.setIfInBounds_toArray, List.set_cons_zero, List.set_cons_succ, List.getElem_toArray, List.getElem_cons_zero]
        refine wpAnyH_take (i := 1) (v := ?_) rfl (by kernel_rfl) (by kernel_rfl) (by kernel_rfl) (fun _ _ _ h => h) (Or.inl ⟨by rfl, ?_⟩) (by assumption) ?_
        rotate_left
        · intro w' hSw
          go_simp
          try with_reducible rfl
        try simp only [Act.put, List.setIfInBounds_toArray, List.set_cons_zero, List.set_cons_succ, List.getElem_toArray, List.getElem_cons_succ, List.getElem_cons_zero]
        refine wpAnyH_take (i := 2) (v := ?_) rfl (by kernel_rfl) (by kernel_rfl) (by kernel_rfl) (fun _ _ _ h => h) (Or.inl ⟨by rfl, ?_⟩) (by assumption) ?_
        rotate_left
        · intro w' hSw
          go_simp
          try with_reducible rfl
        try simp only [Act.put, List.setIfInBounds_toArray, List.set_cons_zero, List.set_cons_succ, List.getElem_toArray, List.getElem_cons_succ, List.getElem_cons_zero]
        refine wpAnyH_take (i := 3) (v := ?_) rfl (by kernel_rfl) (by kernel_rfl) (by kernel_rfl) (fun _ _ _ h => h) (Or.inl ⟨by rfl, ?_⟩) (by assumption) ?_
        rotate_left
        · intro w' hSw
          go_simp
          try with_reducible rfl
        try simp only [Act.put, List.setIfInBounds_toArray, List.set_cons_zero, List.set_cons_succ, List.getElem_toArray, List.getElem_cons_succ, List.getElem_cons_zero]
        refine wpAnyH_take (i := 4) (v := _) rfl (by kernel_rfl) (by kernel_rfl) (by kernel_rfl) (fun _ _ _ h => h) ((yields_at 110 _ b (off + i * 4) (fireC x) _ (by rfl) rfl rfl (fun w' hSw => cells_far hSw HCx.out (Nat.le_refl _) (fun h => h)) Tryd.underlying110 rfl (infoXF _))) (by assumption) ?_
        try simp only [Act.put, List.setIfInBounds_toArray, List.set_cons_zero, List.set_cons_succ, List.getElem_toArray, List.getElem_cons_succ, List.getElem_cons_zero]
        refine wpAnyH_take (i := 5) (v := _) rfl (by kernel_rfl) (by kernel_rfl) (by kernel_rfl) (fun _ _ _ h => h) ((yields_blk 110 _ (w.heap.size + 1) 0 110 (fireC m) (fireC m) _ (by rfl) rfl rfl (fun w' hSw => hSw.blk HX1.out (fun h => h)) Tryd.underlying110 rfl (infoXF _) (zero_part _))) (by assumption) ?_
        try simp only [Act.put, List.setIfInBounds_toArray, List.set_cons_zero, List.set_cons_succ, List.getElem_toArray, List.getElem_cons_succ, List.getElem_cons_zero]
        refine wpAnyH_ready (rs := [6]) (by kernel_rfl) (by simp) ?_
        refine AllReadyH.cons rfl (fun K hK => ?_) AllReadyH.nil
        go_simp
        refine (HO.out _).mono ?_
        rintro e w6 ⟨rfl, hf6⟩
        refine hK.out _ _ (ff4 hHeld hf6) (fun hHeld2 => ?_)
        clear hK K hHeld hf6
        rename_i hHeld2
        have hHeld := hHeld2
        clear hHeld2
        try simp only [Act.put, List.setIfInBounds_toArray, List.set_cons_zero, List.set_cons_succ, List.getElem_toArray, List.getElem_cons_succ, List.getElem_cons_zero]
        refine wpAnyH_take (i := 7) (v := ?_) rfl (by kernel_rfl) (by kernel_rfl) (by kernel_rfl) (fun _ _ _ h => h) (Or.inl ⟨by rfl, ?_⟩) (by assumption) ?_
        rotate_left
        · intro w' hSw
          go_simp
          try with_reducible rfl
        try simp only [Act.put, List.setIfInBounds_toArray, List.set_cons_zero, List.set_cons_succ, List.getElem_toArray, List.getElem_cons_succ, List.getElem_cons_zero]
        refine wpAnyH_done (by kernel_rfl) ?_ _
        have HFr := Lib.hid hHeld
        clear hHeld
        go_wp2_with fail
        go_roundg (F.length - (i + 1))
        case measure => omega
        case rel => exact ⟨i + 1, m, by go_num, by omega, HM.out.1, HM.out.2, HFr.out.blk HX0.out (fun h => h), HFr.out.blk HX1.out (fun h => h), ff4 HF.out HFr.out⟩
    · obtain rfl : i = F.length := by omega
      rw [List.take_length] at hm ha
      have HM := Lib.hid hm
      have HAl := Lib.hid ha
      clear hm ha hb0 hb1 hf
      go_wp2_with (first
        | ((with_reducible refine at_load4 110 ?_); refine wpList_load_blk 110 _ (w.heap.size + 1) 0 110 (fireC m) (fireC m) _ (by rfl) rfl rfl HX1.out Tryd.underlying110 rfl (infoXF _) (zero_part _) ?_)
        | ((with_reducible refine at_store4 110 ?_); refine wpList_store_blk 110 _ _ w.heap.size 0 110 (fireC f0) (fireC m) (fireC m) (by rfl) rfl rfl rfl rfl HX0.out (infoXF _) (fireC_one _) (show 0 + 4 ≤ 4 by decide) (put_fi _ _) ?_
           intro W5 hf5 hb5
           have HF5 := Lib.hid (HF.out.fresh hf5 (fun i e => by have e : i = w.heap.size := e; omega))
           have HB5 := Lib.hid hb5
           clear hf5 hb5))
      exact bodyPost_ret (results_max _ _ w.heap.size m rfl HB5.out) rfl ⟨m, rfl, HM.out, HAl.out, HF5.out⟩
end Go.Proofs.YtpjmmnhmhjpkkaaDoor
namespace Go.Proofs.YtpjmmnhmhjpkkaaDoor
open Go.RowKit Go.Mem Go.Lin Go.Xpd

theorem near_none {r : RuleL} {p y : Int} {n : Nat} (h : fireR r p y = none) : nearD r p y (-1) (n + 1) = nearD r p (y + -1) (-1) n := by
  show (match fireR r p y with | some f => some f | none => nearD r p (y + -1) (-1) n) = _
  rw [h]
theorem near_some {r : RuleL} {p y : Int} {n : Nat} {f : FireL} (h : fireR r p y = some f) : nearD r p y (-1) (n + 1) = some f := by
  show (match fireR r p y with | some f => some f | none => nearD r p (y + -1) (-1) n) = _
  rw [h]
set_option maxHeartbeats 3200000 in
set_option maxRecDepth 100000 in
theorem near_any (r : RuleL) (p : Int) (F : List FireL) (v : Value) (y : Int) (w0 w : World) (hw : S6.WOk w0) (hf : Fr w0 w (fun _ => False)) (ho : XFires w w0.heap.size v F) (hF : F.length ≤ 20000) (hs : -700000 ≤ r.at_.s ∧ r.at_.s ≤ 700000)
    (hy : -30000 ≤ y ∧ y ≤ 30000) :
    Calls Tryd.prog 59 #[v, seatM r p, intV y, intV (-1)] w fun e w' => ∃ v', e = .returned v' ∧ XFires w' w0.heap.size v' (F ++ (nearD r p y (-1) 8).toList) ∧ TF w0 w w' := by
  have HWk := Lib.hid hw
  have HSe := Lib.hid hs
  have HF0 := Lib.hid hf
  obtain ⟨A0, c0, rfl⟩ := ho.slice
  have HO0 := Lib.hid ho
  obtain ⟨R, hR⟩ : ∃ R, nearD r p y (-1) 8 = R := ⟨_, rfl⟩
  have HR := Lib.hid hR
  rw [hR]
  clear hf ho hw hs hR
  go_enter Tryd.func59, Tryd.ntmps59
  go_wp2_with fail
  go_loopg [2, 9, 10, 11] 8 (fun g v2 _ _ v11 wr => ∃ i : Nat, i + g = 8 ∧ v11 = intV i ∧ v2 = intV (y - i) ∧ R = nearD r p (y - i) (-1) g ∧ XFires wr w0.heap.size (.slice A0 F.length c0) F ∧ Fr w wr (fun _ => False))
  case atStart => exact ⟨0, rfl, rfl, by rw [show y - ((0 : Nat) : Int) = y by omega], by rw [show y - ((0 : Nat) : Int) = y by omega, HR.out], HO0.out, Fr.refl _ _⟩
  case round =>
    obtain ⟨i, hi, rfl, rfl, hn, ho, hf⟩ := hrel
    obtain ⟨G, hGk⟩ : ∃ G, gk = G := ⟨_, rfl⟩
    rw [hGk] at hi hn
    have HT := Lib.hid hf
    have HF := Lib.hid (ff4 HF0.out hf)
    have HO := Lib.hid ho
    obtain ⟨x, hxv⟩ : ∃ x : Int, y - i = x := ⟨_, rfl⟩
    have HXv := Lib.hid hxv
    have hx1 : -30008 ≤ x ∧ x ≤ 30000 := by omega
    rw [hxv] at hn ⊢
    have HN := Lib.hid hn
    clear hf ho hxv hn
    cases G with
    | zero =>
      obtain rfl : i = 8 := by omega
      have HE := Lib.hid (show F ++ R.toList = F by rw [HN.out]; exact List.append_nil _)
      go_wp2_with fail
      go_ret
      exact ⟨_, rfl, by rw [HE.out]; exact HO.out, tf_of HT.out⟩
    | succ G =>
      have hi8 : (i : Int) < 8 := by omega
      cases ho : fireR r p x with
      | none =>
        have HQ := Lib.hid (fire_none ho wr (HWk.out.fr HF.out) HSe.out)
        have HN2 := Lib.hid (show R = nearD r p (x + -1) (-1) G by rw [HN.out, near_none ho])
        clear ho
        go_wp2_with fail
        refine HQ.out.mono ?_
        rintro e w2 ⟨rfl, hf2⟩
        have HF2 := Lib.hid hf2
        have HO2 := Lib.hid (HO.out.kept hf2)
        have n2 := Fr.new w2 (.cells #[.int .i64 0, .int .i64 0, .int .i64 0, .int .i64 0] 110) (fun _ => False)
        have HF3 := Lib.hid (ff4 HF2.out n2)
        have HO3 := Lib.hid (HO2.out.kept n2)
        have HB := Lib.hid (show Blk _ w2.heap.size 110 (fireC f0) from Blk.made w2 110 (fireC f0))
        clear hf2 n2
        go_wp2_with (
          ((with_reducible refine at_store4 110 ?_); refine wpList_store_blk 110 _ _ w2.heap.size 0 110 (fireC f0) (fireC f0) (fireC f0) (by rfl) rfl rfl rfl rfl HB.out (infoXF _) (fireC_one _) (show 0 + 4 ≤ 4 by decide) (put_fi _ _) ?_
           intro W3 hf3 hb3
           have HF4 := Lib.hid (HF3.out.fresh hf3 (fun i e => by have e : i = w2.heap.size := e; have := HF2.out.size; omega))
           have HO4 := Lib.hid (show XFires W3 w0.heap.size _ F from HO3.out.fr hf3 (fun g hg e => by have e : g = w2.heap.size := e; have := (own_block HO2.out hg).2.1; omega))
           clear hf3 hb3))
        go_roundg G
        case measure => omega
        case rel =>
          have hxv := HXv.out
          have e1 : y - ((i + 1 : Nat) : Int) = x + -1 := by omega
          exact ⟨i + 1, by omega, by go_num, by rw [e1], by rw [e1, HN2.out], HO4.out, ff4 HT.out HF4.out⟩
      | some f =>
        have HQ := Lib.hid (fire_some ho wr (HWk.out.fr HF.out) HSe.out)
        have HN2 := Lib.hid (show F ++ R.toList = F ++ [f] by rw [HN.out, near_some ho]; rfl)
        clear ho
        go_wp2_with fail
        refine HQ.out.mono ?_
        rintro e w2 ⟨rfl, hf2⟩
        have HF2 := Lib.hid hf2
        have HO2 := Lib.hid (HO.out.kept hf2)
        have n2 := Fr.new w2 (.cells #[.int .i64 0, .int .i64 0, .int .i64 0, .int .i64 0] 110) (fun _ => False)
        have HF3 := Lib.hid (ff4 HF2.out n2)
        have HO3 := Lib.hid (HO2.out.kept n2)
        have HB := Lib.hid (show Blk _ w2.heap.size 110 (fireC f0) from Blk.made w2 110 (fireC f0))
        clear hf2 n2
        go_wp2_with (first
          | ((with_reducible refine at_store4 110 ?_); refine wpList_store_blk 110 _ _ w2.heap.size 0 110 (fireC f0) (fireC f) (fireC f) (by rfl) rfl rfl rfl rfl HB.out (infoXF _) (fireC_one _) (show 0 + 4 ≤ 4 by decide) (put_fi _ _) ?_
             intro W3 hf3 hb3
             have HF4 := Lib.hid (HF3.out.fresh hf3 (fun i e => by have e : i = w2.heap.size := e; have := HF2.out.size; omega))
             have HO4 := Lib.hid (show XFires W3 w0.heap.size _ F from HO3.out.fr hf3 (fun g hg e => by have e : g = w2.heap.size := e; have := (own_block HO2.out hg).2.1; omega))
             have HB4 := Lib.hid hb3
             clear hf3 hb3)
          | ((with_reducible refine at_load4 110 ?_); refine wpList_load_blk 110 _ w2.heap.size 0 110 (fireC f) (fireC f) _ (by rfl) rfl rfl HB4.out Tryd.underlying110 rfl (infoXF _) (zero_part _) ?_)
          | ((with_reducible refine at_slice4 (y := .tmp 21) 108 ?_); refine wpList_made (t := 108) (e := 110) (y := .tmp 21) (v := fireV f) (fireC f) (by rfl) rfl rfl (fun _ => by kernel_rfl) ?_
             intro Wm hfm hsm hbm hrm
             have HFm := Lib.hid (ff4 HF4.out hfm)
             have HOm := Lib.hid (HO4.out.kept hfm)
             have HRm := Lib.hid hrm
             clear hfm hsm hbm hrm)
          | ((with_reducible refine at_append4 (.tmp 20) (.tmp 22) ?_); refine wpList_append1 (f := fireL) (.tmp 20) (.tmp 22) 108 rfl rfl w0.heap.size 110 _ 4 32 Tryd.underlying108 info_xfire rfl (by decide) _ rfl HOm.out _ 1 f (fireC f).toList rfl HRm.out rfl (one_made (fireC_one f)) (by omega) (by decide) (Nat.le_trans HF.out.size HFm.out.size) ?_
             intro A2 c2 Wp hop hfp
             have HTp := Lib.hid (tf_trans (tf_of (ff4 HT.out HFm.out)) (tb_own HOm.out hfp))
             have HOp := Lib.hid hop
             clear hop hfp))
        go_ret
        refine ⟨_, rfl, ?_, HTp.out⟩
        rw [HN2.out]
        show Own _ _ _ _ _ _ (F ++ [f])
        exact HOp.out
end Go.Proofs.YtpjmmnhmhjpkkaaDoor
namespace Go.Mem
section
variable {P : Program} {ops : Array Oper} {o : Oper} {a : Act}
theorem yields_build {S : World → Prop} (t : TypeId) (parts : Array (Nat × Operand)) (v : Value) (hgd : Region.wanted o (yielded ops a.tmps) = true) (ho : o.op = .build t parts) (h : ∀ w, (Instr.build t (parts.map fun (i, x) => (i, a.eval x))).run P w = .ok v w) : YieldsIf P ops S o v a :=
  .inl ⟨hgd, fun w _ => by
    unfold execOp
    simp only [ho, Sem.run_bind, h, Sem.run_pure, Result.andThen_ok]⟩
end
end Go.Mem
namespace Go.Proofs.YtpjmmnhmhjpkkaaDoor
open Go.RowKit Go.Mem Go.Lin Go.Xpd

theorem late_i {r : RuleL} {p year : Int} {m : FireL} (h : lateR r p year = some m) : m.i = p := by
  have := (fireR_some.1 (lateR_some h).2.1).2
  rw [this]
set_option maxHeartbeats 3200000 in
set_option maxRecDepth 100000 in
theorem save_any (l : List RuleL) (A : Option Addr) (cap : Nat) (y : Int) (w : World) (hw : S6.WOk w) (hl : RusAt w A l) (hn : l.length ≤ 1000) (hr : ∀ r ∈ l, OkF r) (hy : -20000 ≤ y ∧ y ≤ 20002) :
    Calls Tryd.prog 76 #[.slice A l.length cap, intV y] w fun e w' => e = .returned (intV (befY l y)) ∧ Fr w w' (fun _ => False) := by
  have HW := Lib.hid hw
  have HL := Lib.hid hl
  have HRr := Lib.hid hr
  clear hw hl hr
  go_enter Tryd.func76, Tryd.ntmps76
  go_wp2_with fail
  go_loopg [5, 6, 7, 10] l.length (fun g v5 _ _ v10 wr => ∃ i : Nat, i + g = l.length ∧ v10 = intV i ∧ XFires wr w.heap.size v5 (lateN l y i) ∧ Fr w wr (fun _ => False))
  case atStart => exact ⟨0, by simp, rfl, own_none _ _ _ _ _, Fr.refl _ _⟩
  case round =>
    obtain ⟨i, hi, rfl, ho, hf⟩ := hrel
    obtain ⟨A5, c5, rfl⟩ := ho.slice
    have HF := Lib.hid hf
    have HO := Lib.hid ho
    have hll := lateN_len l y i
    obtain ⟨L, hL⟩ : ∃ L, lateN l y i = L := ⟨_, rfl⟩
    have HLv := Lib.hid hL
    rw [hL] at HO hll ⊢
    clear hf ho hL
    by_cases hlt : i < l.length
    · obtain ⟨r, hri⟩ : ∃ r, l[i]? = some r := ⟨l[i], List.getElem?_eq_getElem hlt⟩
      obtain ⟨b, off, hA, hc⟩ := (HL.out.kept HF.out).at_ hri
      subst hA
      have hok := HRr.out r (List.mem_of_getElem? hri)
      have hto := hok.okR.to
      have HSr := Lib.hid hok.okR.s
      have HCx := Lib.hid hc
      have HN := Lib.hid (show lateN l y (i + 1) = L ++ (nearD r i (min (y - 1) (withD r.to)) (-1) 8).toList by rw [lateN_some hri, HLv.out]; rfl)
      have i0 : (i : Int) < (l.length : Int) := by omega
      have n2 := Fr.new wr (.cells #[.string ⟨#[]⟩, .int .i64 0, .int .i64 0, .int .i64 0, .int .i64 0, .int .i64 0, .int .i64 0, .int .i64 0, .int .i64 0, .int .i64 0, .string ⟨#[]⟩] 49) (fun _ => False)
      have HF2 := Lib.hid n2
      have HB2 := Lib.hid (show Blk _ wr.heap.size 49 (ruleC ruleZ) from Blk.made wr 49 (ruleC ruleZ))
      have hwd : 1 ≤ withD r.to ∧ withD r.to ≤ 9999 := by unfold withD; omega
      obtain ⟨t1, t2⟩ := hto
      have hwr : IntKind.i64.wrap (y - 1) = y - 1 := by rw [IntKind.wrap_i64]; omega
      clear hc hri hok n2
      go_wp2_with (first
        | ((with_reducible refine at_load4 49 ?_); refine wpList_load_at 49 _ b (off + i * 11) (ruleC r) _ (by rfl) rfl rfl HCx.out Tryd.underlying49 rfl (infoR _) ?_)
        | ((with_reducible refine at_store4 49 ?_); refine wpList_store_blk 49 _ _ wr.heap.size 0 49 (ruleC ruleZ) (ruleC r) (ruleC r) (by rfl) rfl rfl rfl rfl HB2.out (infoR _) (ruleC_one _) (show 0 + 11 ≤ 11 by decide) (put_ra _ _) ?_
           intro W3 hf3 hb3
           have HF3 := Lib.hid (HF2.out.fresh hf3 (fun i e => by have e : i = wr.heap.size := e; omega))
           have HB3 := Lib.hid hb3
           clear hf3 hb3 HF2 HB2))
      refine wp_region_held_drew (S := fun w' => TF w W3 w') (by kernel_rfl) (tf_of (Fr.drew _ _)) (fun hHeld => ?_)
      refine wpAnyH_take (i := 0) (v := ?_) rfl (by kernel_rfl) (by kernel_rfl) (by kernel_rfl) (fun _ _ _ h => h) (Or.inl ⟨by rfl, ?_⟩) (by assumption) ?_
      rotate_left
      · intro w' hSw
        go_simp
        try with_reducible rfl
      try simp only [Act.put, List.setIfInBounds_toArray, List.set_cons_zero, List.set_cons_succ, List.getElem_toArray, List.getElem_cons_zero]
      refine wpAnyH_take (i := 1) (v := _) rfl (by kernel_rfl) (by kernel_rfl) (by kernel_rfl) (fun _ _ _ h => h) ((yields_blk 49 _ wr.heap.size 0 49 (ruleC r) (ruleC r) _ (by rfl) rfl rfl (fun w' hSw => tf_far hSw HB3.out (by decide)) Tryd.underlying49 rfl (infoR _) (zero_part _))) (by assumption) ?_
      try simp only [Act.put, List.setIfInBounds_toArray, List.set_cons_zero, List.set_cons_succ, List.getElem_toArray, List.getElem_cons_succ, List.getElem_cons_zero]
      refine wpAnyH_take (i := 2) (v := ?_) rfl (by kernel_rfl) (by kernel_rfl) (by kernel_rfl) (fun _ _ _ h => h) (Or.inl ⟨by rfl, ?_⟩) (by assumption) ?_
      rotate_left
      · intro w' hSw
        go_simp
        try with_reducible rfl
      try simp only [Act.put, List.setIfInBounds_toArray, List.set_cons_zero, List.set_cons_succ, List.getElem_toArray, List.getElem_cons_succ, List.getElem_cons_zero]
      refine wpAnyH_take (i := 3) (v := _) rfl (by kernel_rfl) (by kernel_rfl) (by kernel_rfl) (fun _ _ _ h => h) ((yields_build 116 #[(0, .tmp 16), (1, .tmp 17)] (.agg (seatC r (i : Int))) (by rfl) rfl (fun w => by kernel_rfl))) (by assumption) ?_
      try simp only [Act.put, List.setIfInBounds_toArray, List.set_cons_zero, List.set_cons_succ, List.getElem_toArray, List.getElem_cons_succ, List.getElem_cons_zero]
      refine wpAnyH_take (i := 4) (v := ?_) rfl (by kernel_rfl) (by kernel_rfl) (by kernel_rfl) (fun _ _ _ h => h) (Or.inl ⟨by rfl, ?_⟩) (by assumption) ?_
      rotate_left
      · intro w' hSw
        go_simp
        try with_reducible rfl
      try simp only [Act.put, List.setIfInBounds_toArray, List.set_cons_zero, List.set_cons_succ, List.getElem_toArray, List.getElem_cons_succ, List.getElem_cons_zero]
      refine wpAnyH_take (i := 5) (v := ?_) rfl (by kernel_rfl) (by kernel_rfl) (by kernel_rfl) (fun _ _ _ h => h) (Or.inl ⟨by rfl, ?_⟩) (by assumption) ?_
      rotate_left
      · intro w' hSw
        go_simp
        try with_reducible rfl
      try simp only [Act.put, List.setIfInBounds_toArray, List.set_cons_zero, List.set_cons_succ, List.getElem_toArray, List.getElem_cons_succ, List.getElem_cons_zero]
      refine wpAnyH_take (i := 6) (v := ?_) rfl (by kernel_rfl) (by kernel_rfl) (by kernel_rfl) (fun _ _ _ h => h) (Or.inl ⟨by rfl, ?_⟩) (by assumption) ?_
      rotate_left
      · intro w' hSw
        go_simp
        try with_reducible rfl
      try simp only [Act.put, List.setIfInBounds_toArray, List.set_cons_zero, List.set_cons_succ, List.getElem_toArray, List.getElem_cons_succ, List.getElem_cons_zero]
      refine wpAnyH_take (i := 7) (v := ?_) rfl (by kernel_rfl) (by kernel_rfl) (by kernel_rfl) (fun _ _ _ h => h) (Or.inl ⟨by rfl, ?_⟩) (by assumption) ?_
      rotate_left
      · intro w' hSw
        go_simp
        try with_reducible rfl
      try simp only [Act.put, List.setIfInBounds_toArray, List.set_cons_zero, List.set_cons_succ, List.getElem_toArray, List.getElem_cons_succ, List.getElem_cons_zero]
      refine wpAnyH_take (i := 8) (v := ?_) rfl (by kernel_rfl) (by kernel_rfl) (by kernel_rfl) (fun _ _ _ h => h) (Or.inl ⟨by rfl, ?_⟩) (by assumption) ?_
      rotate_left
      · intro w' hSw
        have c2 : w'.cell? ⟨wr.heap.size, 2, none⟩ = some (.int .i64 r.to) := blkc (tf_far hSw HB3.out (by decide)) 2 _ rfl
        go_simp
        try with_reducible rfl
      try simp only [Act.put, List.setIfInBounds_toArray, List.set_cons_zero, List.set_cons_succ, List.getElem_toArray, List.getElem_cons_succ, List.getElem_cons_zero]
      refine wpAnyH_ready (rs := [9]) (by kernel_rfl) (by simp) ?_
      refine AllReadyH.cons rfl (fun K hK => ?_) AllReadyH.nil
      go_simp
      refine (within_any r.to _ (by omega)).mono ?_
      rintro e w6 ⟨rfl, rfl⟩
      refine hK.out _ _ (hHeld) (fun hHeld2 => ?_)
      clear hK K hHeld
      rename_i hHeld2
      have hHeld := hHeld2
      clear hHeld2
      try simp only [Act.put, List.setIfInBounds_toArray, List.set_cons_zero, List.set_cons_succ, List.getElem_toArray, List.getElem_cons_succ, List.getElem_cons_zero]
      refine wpAnyH_take (i := 10) (v := ?_) rfl (by kernel_rfl) (by kernel_rfl) (by kernel_rfl) (fun _ _ _ h => h) (Or.inl ⟨by rfl, ?_⟩) (by assumption) ?_
      rotate_left
      · intro w' hSw
        go_simp
        try with_reducible rfl
      try simp only [Act.put, List.setIfInBounds_toArray, List.set_cons_zero, List.set_cons_succ, List.getElem_toArray, List.getElem_cons_succ, List.getElem_cons_zero]
      refine wpAnyH_ready (rs := [11]) (by kernel_rfl) (by simp) ?_
      refine AllReadyH.cons rfl (fun K hK => ?_) AllReadyH.nil
      go_simp
      refine (near_any r (i : Int) L (.slice A5 L.length c5) (min (y - 1) (withD r.to)) w _ HW.out (ff4 HF.out (ff4 HF3.out (Fr.drew _ _))) (HO.out.kept (ff4 HF3.out (Fr.drew _ _))) (by omega) HSr.out (by omega)).mono ?_
      rintro e w7 ⟨v9, rfl, ho9, ht9⟩
      obtain ⟨A9, c9, rfl⟩ := ho9.slice
      refine hK.out _ _ (tf_trans hHeld ht9) (fun hHeld2 => ?_)
      clear hK K hHeld
      rename_i hHeld2
      have hHeld := hHeld2
      clear hHeld2
      have HO9 := Lib.hid ho9
      clear ho9 ht9
      try simp only [Act.put, List.setIfInBounds_toArray, List.set_cons_zero, List.set_cons_succ, List.getElem_toArray, List.getElem_cons_succ, List.getElem_cons_zero]
      refine wpAnyH_take (i := 12) (v := ?_) rfl (by kernel_rfl) (by kernel_rfl) (by kernel_rfl) (fun _ _ _ h => h) (Or.inl ⟨by rfl, ?_⟩) (by assumption) ?_
      rotate_left
      · intro w' hSw
        go_simp
        try with_reducible rfl
      try simp only [Act.put, List.setIfInBounds_toArray, List.set_cons_zero, List.set_cons_succ, List.getElem_toArray, List.getElem_cons_succ, List.getElem_cons_zero]
      refine wpAnyH_done (by kernel_rfl) ?_ _
      have HF9 := Lib.hid (tf_low (ff4 HF.out HF3.out) hHeld)
      clear hHeld
      go_wp2_with fail
      go_roundg (l.length - (i + 1))
      case measure => omega
      case rel => exact ⟨i + 1, by omega, by go_num, by rw [HN.out, ← List.length_append]; exact HO9.out, HF9.out⟩
    · obtain rfl : i = l.length := by omega
      cases L with
      | nil =>
        have HE := Lib.hid (ahead_none HLv.out)
        clear hll
        go_wp2_with fail
        go_ret
        exact ⟨by rw [HE.out]; rfl, HF.out⟩
      | cons g0 t0 =>
        obtain ⟨L, hL⟩ : ∃ L, g0 :: t0 = L := ⟨_, rfl⟩
        have h0 : 0 < L.length := by rw [← hL]; simp
        rw [hL] at HO HLv hll ⊢
        clear hL
        have e0 : ((L.length : Int) == 0) = false := by rw [beq_eq_false_iff_ne]; omega
        obtain ⟨A9, c9, hv9, -, -, hrd⟩ := HO.out.rd
        injection hv9 with h1 _ h3
        rw [← h1] at hrd
        have HQ := Lib.hid (max_any L A5 c5 wr hrd h0 (by omega))
        clear hrd h1 h3 h0
        go_wp2_with fail
        refine HQ.out.mono ?_
        rintro e w2 ⟨m, he, hm, hx, hf2⟩
        have hmm := hm
        rw [← HLv.out] at hm hx
        obtain ⟨k, r, hk, hri, hla⟩ := lateN_mem.1 hm
        have hmi := late_i hla
        have he : e = .returned (.agg #[intV (k : Int), intV m.y, intV m.at_, intV m.bef]) := he.trans (by rw [← hmi]; rfl)
        subst he
        have HE := Lib.hid (show befY l y = r.save by
          rw [ahead_some hm hx]
          unfold savD
          rw [hmi, Int.toNat_natCast, hri])
        have HF2 := Lib.hid (ff4 HF.out hf2)
        obtain ⟨b, off, hA, hc⟩ := (HL.out.kept HF2.out).at_ hri
        subst hA
        have c9 : w2.cell? ⟨b, off + k * 11 + 9, none⟩ = some (.int .i64 r.save) := hc 9 (show 9 < 11 by decide)
        have k0 : (k : Int) < (l.length : Int) := by omega
        have hfi : (Instr.field 110 (.agg #[intV (k : Int), intV m.y, intV m.at_, intV m.bef]) 0).run Tryd.prog w2 = .ok (intV (k : Int)) w2 := by kernel_rfl
        clear he hm hx hmm hf2 hc hla hmi hri
        go_wp2_with fail
        go_ret
        exact ⟨by rw [HE.out]; rfl, HF2.out⟩
end Go.Proofs.YtpjmmnhmhjpkkaaDoor
namespace Go.Proofs.YtpjmmnhmhjpkkaaDoor
open Go.RowKit Go.Mem Go.Lin Go.Xpd

/-- fires that follow one another, each with the saving ahead -/
def markH (l : List RuleL) : List FireL → List FireL
  | [] => []
  | f :: t => markF l (befY l f.y) (f :: t)
set_option maxHeartbeats 3200000 in
set_option maxRecDepth 100000 in
theorem setB_any (l : List RuleL) (A : Option Addr) (cap : Nat) (F : List FireL) (v : Value) (w0 w : World) (hw : S6.WOk w0) (h0 : Fr w0 w (fun _ => False)) (hl : RusAt w0 A l) (hn : l.length ≤ 1000) (hr : ∀ r ∈ l, OkF r)
    (ho : XFires w w0.heap.size v F) (hFl : F.length ≤ 100000) (hF : ∀ f ∈ F, (1 ≤ f.y ∧ f.y ≤ 9999) ∧ ∃ (k : Nat) (r : RuleL), l[k]? = some r ∧ f.i = k) :
    Calls Tryd.prog 71 #[.slice A l.length cap, v] w fun e w' => e = .returned (.tuple #[]) ∧ XFires w' w0.heap.size v (markH l F) ∧ Fr w0 w' (fun _ => False) := by
  obtain ⟨A4, c4, rfl⟩ := ho.slice
  have HL := Lib.hid hl
  have HF0 := Lib.hid h0
  have HO0 := Lib.hid ho
  have HFi := Lib.hid hF
  cases F with
  | nil =>
    clear ho hF h0 hl hw hr
    rw [List.length_nil] at HO0 ⊢
    go_enter Tryd.func71, Tryd.ntmps71
    go_wp2_with fail
    exact bodyPost_ret (results_none rfl _ _ _) rfl ⟨rfl, HO0.out, HF0.out⟩
  | cons f0 t0 =>
    obtain ⟨s, hs⟩ : ∃ s, befY l f0.y = s := ⟨_, rfl⟩
    have HM := Lib.hid (show markH l (f0 :: t0) = markF l s (f0 :: t0) by rw [← hs]; rfl)
    have hy0 := (hF f0 (by simp)).1
    have HQ := Lib.hid (save_any l A cap f0.y w (hw.fr h0) (hl.kept h0) hn hr (by omega))
    rw [hs] at HQ
    obtain ⟨A9, c9, hv9, -, -, hrd⟩ := ho.rd
    injection hv9 with h1 _ h3
    rw [← h1] at hrd
    obtain ⟨b0, o0, e8, hc0⟩ := FiresAt.at_ hrd (i := 0) (f := f0) rfl
    subst e8
    have c1 : w.cell? ⟨b0, o0 + 1, none⟩ = some (.int .i64 f0.y) := by
      have := hc0 1 (show 1 < 4 by decide)
      rw [Nat.zero_mul, Nat.add_zero] at this
      exact this
    obtain ⟨F, hFv⟩ : ∃ F, f0 :: t0 = F := ⟨_, rfl⟩
    have hp : 0 < F.length := by rw [← hFv]; simp
    rw [hFv] at HO0 HFi HM hFl ⊢
    have e0 : ((F.length : Int) == 0) = false := by rw [beq_eq_false_iff_ne]; omega
    have p0 : (0 : Int) < (F.length : Int) := by omega
    clear hFv hF hrd hc0 ho h0 hl hw hr h1 h3 hs
    go_enter Tryd.func71, Tryd.ntmps71
    go_wp2_with fail
    refine HQ.out.mono ?_
    rintro e w2 ⟨rfl, hf2⟩
    have HF2 := Lib.hid (ff4 HF0.out hf2)
    have HO2 := Lib.hid (HO0.out.kept hf2)
    clear hf2 c1 HO0
    go_wp2_with fail
    go_loopg [4, 5, 17] F.length (fun g v4 _ v17 wr => ∃ m : Nat, m + g = F.length ∧ v17 = intV m ∧ v4 = intV (endS l s (F.take m)) ∧ XFires wr w0.heap.size (.slice (some ⟨b0, o0, none⟩) F.length c4) (markF l s (F.take m) ++ F.drop m) ∧ Fr w0 wr (fun _ => False))
    case atStart => exact ⟨0, by simp, rfl, rfl, HO2.out, HF2.out⟩
    case round =>
      obtain ⟨m, hm, rfl, rfl, ho5, hf5⟩ := hrel
      have HF5 := Lib.hid hf5
      by_cases hlt : m < F.length
      · obtain ⟨x, hx⟩ : ∃ x, F[m]? = some x := ⟨F[m], List.getElem?_eq_getElem hlt⟩
        obtain ⟨-, k, r, hk, hxi⟩ := HFi.out x (List.mem_of_getElem? hx)
        have hsv : savD l x.i = r.save := by
          unfold savD
          rw [hxi, Int.toNat_natCast, hk]
        obtain ⟨M1, M2⟩ := markF_next (l := l) (s := s) hx
        have hpl : (markF l s (F.take m)).length = m := by rw [markF_len, List.length_take]; omega
        have hd : F.drop m = x :: F.drop (m + 1) := by
          have := List.getElem?_eq_some_iff.1 hx
          rw [← this.2]; exact List.drop_eq_getElem_cons hlt
        rw [hd] at ho5
        obtain ⟨g, c, cur, hv, hgb, hbk, hsz3, hput⟩ := own_put fireL_len ho5 (show 3 < 4 by decide)
        rw [hpl] at hsz3 hput
        obtain ⟨rfl, rfl, rfl⟩ : b0 = g ∧ o0 = 0 ∧ c4 = c := by
          injection hv with h1 h2 h3
          injection h1 with h1
          injection h1 with h1 h4 _
          exact ⟨h1, h4, h3⟩
        have HSV := Lib.hid (M2.trans hsv)
        obtain ⟨sv, hsve⟩ : ∃ sv, endS l s (F.take m) = sv := ⟨_, rfl⟩
        rw [hsve] at M1 ⊢
        have hput := fun W hW => hput W (intV sv) { x with bef := sv } rfl hW
        rw [show markF l s (F.take m) ++ { x with bef := sv } :: F.drop (m + 1) = markF l s (F.take (m + 1)) ++ F.drop (m + 1) by rw [M1]; simp] at hput
        have HPUT := Lib.hid hput
        have HBK := Lib.hid hbk
        have HK := Lib.hid hk
        have HXI := Lib.hid hxi
        have hgm : (markF l s (F.take (m + 1)) ++ F.drop (m + 1))[m]? = some { x with bef := sv } := by
          rw [M1, List.append_assoc, List.getElem?_append_right (by omega), hpl, Nat.sub_self]; rfl
        have HGM := Lib.hid hgm
        have hml : (markF l s (F.take (m + 1)) ++ F.drop (m + 1)).length = F.length := by rw [List.length_append, markF_len, List.length_take, List.length_drop]; omega
        have HML := Lib.hid hml
        have m0 : (m : Int) < (F.length : Int) := by omega
        have k0 : (k : Int) < (l.length : Int) := by have := (List.getElem?_eq_some_iff.1 hk).1; omega
        clear hx hk hxi hsv M1 M2 hpl hd ho5 hv hbk hput hsve hgm hml hf5
        have hfz : wr.frozen? ⟨b0, m * 4 + 3, none⟩ = false := free_at HBK.out _
        have hce : wr.cell? ⟨b0, m * 4 + 3, none⟩ = some cur[m * 4 + 3] := (cell_at HBK.out _).trans (Array.getElem?_eq_getElem hsz3)
        have hfW := Fr.set (w := wr) (a := ⟨b0, m * 4 + 3, none⟩) (v := intV sv) (S := fun i => i = b0) rfl
        have hbW := HBK.out.put' (m * 4 + 3) (intV sv) rfl
        generalize cur[m * 4 + 3] = old at *
        obtain ⟨W, hW9⟩ : ∃ W, wr.setCell ⟨b0, m * 4 + 3, none⟩ (intV sv) = W := ⟨_, rfl⟩
        rw [hW9] at hfW hbW
        have HFW := Lib.hid (HF5.out.fresh (show Fr _ W (fun i => i = b0) from hfW) fun i h => by have h : i = b0 := h; rw [h]; exact hgb)
        have HOW := Lib.hid (HPUT.out W hbW)
        have c0 : W.cell? ⟨b0, m * 4, none⟩ = some (.int .i64 (k : Int)) := by
          obtain ⟨A9, c9, e9, -, -, hrd⟩ := HOW.out.rd
          rw [HML.out] at e9
          injection e9 with e9 _ _
          rw [← e9] at hrd
          obtain ⟨b9, o9, e8, hc9⟩ := FiresAt.at_ hrd HGM.out
          injection e8 with e8
          injection e8 with e7 e6 _
          have := hc9 0 (show 0 < 4 by decide)
          rw [← e7, ← e6, Nat.zero_add, Nat.add_zero] at this
          rw [this, ← HXI.out]; rfl
        obtain ⟨b, off, hA, hc⟩ := (HL.out.kept HFW.out).at_ HK.out
        subst hA
        have c9 : W.cell? ⟨b, off + k * 11 + 9, none⟩ = some (.int .i64 r.save) := hc 9 (show 9 < 11 by decide)
        clear hc hfW hbW
        subst hW9
        go_wp2_with fail
        go_roundg (F.length - (m + 1))
        case measure => omega
        case rel => exact ⟨m + 1, by omega, by go_num, by rw [HSV.out], HOW.out, HFW.out⟩
      · obtain rfl : m = F.length := by omega
        rw [List.take_length, List.drop_length, List.append_nil] at ho5
        have HO9 := Lib.hid ho5
        clear ho5 hf5
        go_wp2_with fail
        go_end0
        exact ⟨rfl, by rw [HM.out]; exact HO9.out, HF5.out⟩
end Go.Proofs.YtpjmmnhmhjpkkaaDoor
namespace Go.Mem
open Go.Sort
/- a row of the call's own as the library's sort has it -/
theorem flatK_list {X : Type} [Inhabited X] {f : X → List Value} {k : Nat} (hf : ∀ x, (f x).length = k) (l : List X) : (flatK f k l.toArray).toList = l.flatMap f := by
  apply List.ext_getElem
  · simp only [Array.length_toList, size_flatK, List.size_toArray]
    rw [Go.Mem.flat_len f k hf]
  · intro t h1 h2
    have ht : t < l.length * k := by
      simp only [Array.length_toList, size_flatK, List.size_toArray] at h1; exact h1
    have hk : 0 < k := by
      rcases Nat.eq_zero_or_pos k with h | h
      · rw [h] at ht; omega
      · exact h
    have hi : t / k < l.length := (Nat.div_lt_iff_lt_mul hk).2 ht
    have h3 := get_flatK f k l.toArray t (by simpa using ht)
    have h4 := flat_get f k hf (List.getElem?_eq_getElem hi) (t % k) (Nat.mod_lt _ hk)
    rw [show t / k * k + t % k = t from Nat.div_add_mod' t k] at h4
    have h5 : (flatK f k l.toArray)[t]! = (flatK f k l.toArray)[t]'(by simpa using ht) := getElem!_pos _ _ _
    rw [Array.getElem_toList, ← h5, h3, getElem!_pos l.toArray (t / k) (by simpa using hi)]
    have h6 : t % k < (f l[t / k]).length := by rw [hf]; exact Nat.mod_lt _ hk
    have h7 : l.toArray[t / k]'(by simpa using hi) = l[t / k] := by simp
    rw [h7, getElem!_pos (f l[t / k]) (t % k) h6]
    rw [List.getElem?_eq_getElem h2, List.getElem?_eq_getElem h6] at h4
    exact (Option.some.inj h4).symm
theorem put_take (c X : Array Value) (h : X.size ≤ c.size) : (putCells id 0 X c).toList.take X.size = X.toList := by
  apply List.ext_getElem?
  intro i
  unfold putCells
  rw [List.getElem?_take]
  split
  · rename_i hi
    rw [Array.getElem?_toList, Array.getElem?_mapIdx, Array.getElem?_eq_getElem (show i < c.size by omega), Array.getElem?_toList, Array.getElem?_eq_getElem hi]
    simp only [Option.map_some, Nat.zero_le, true_and, Nat.zero_add, hi, if_true, Nat.sub_zero, id]
    rw [getElem!_pos X i hi]
  · rename_i hi
    rw [List.getElem?_eq_none (by simpa using hi)]
theorem blk_put {w : World} {g : Nat} {t : TypeId} {cur : Array Value} (h : Blk w g t cur) (n : Nat) (X : Array Value) (os : Array Obj) : Blk (grow (putRow id (Go.Sort.ahead w n) g 0 X) os) g t (putCells id 0 X cur) := by
  unfold Blk at h ⊢
  have hl := (Array.getElem?_eq_some_iff.1 h).1
  show (w.heap.modify g (onCells (putCells id 0 X)) ++ os)[g]? = _
  rw [Array.getElem?_append_left (by simpa using hl), Array.getElem?_modify, if_pos rfl, h]
  rfl
theorem fr_put (w : World) (g n : Nat) (X : Array Value) (os : Array Obj) : Fr w (grow (putRow id (Go.Sort.ahead w n) g 0 X) os) (fun i => i = g) :=
  ⟨rfl, rfl, rfl, by
    show w.heap.size ≤ (w.heap.modify g (onCells (putCells id 0 X)) ++ os).size
    simp, fun i hi hn => by
    show (w.heap.modify g (onCells (putCells id 0 X)) ++ os)[i]? = _
    rw [Array.getElem?_append_left (by simpa using hi), Array.getElem?_modify, if_neg (fun e => hn e.symm)]⟩
end Go.Mem
namespace Go.Proofs.YtpjmmnhmhjpkkaaDoor
open Go.RowKit Go.Mem Go.Lin Go.Xpd

theorem ltOf_F (x y : FireL) : Go.Proofs.ltOf cfF x y = decide (ltF x y) := by
  unfold Go.Proofs.ltOf
  exact decide_eq_decide.2 cfF_lt
theorem swoF : Go.Sort.SWO (Go.Proofs.ltOf cfF) where
  irrefl x := by rw [ltOf_F]; exact decide_eq_false (ltF_irr x)
  trans x y z h1 h2 := by
    rw [ltOf_F] at *
    exact decide_eq_true (ltF_trans (of_decide_eq_true h1) (of_decide_eq_true h2))
  ntrans x y z h1 h2 := by
    rw [ltOf_F] at *
    exact decide_eq_false (ltF_ntrans (of_decide_eq_false h1) (of_decide_eq_false h2))
theorem sort_any (F : List FireL) (v : Value) (B : Nat) (w : World) (ho : XFires w B v F) (hF : F.length ≤ 1000000) :
    Calls Tryd.prog 70 #[v, .func (.func 63) #[] #[]] w fun e w' => e = .returned (.tuple #[]) ∧ ∃ d : List FireL, d.Perm F ∧ (d.Pairwise fun x y => ¬ ltF y x) ∧ XFires w' B v d ∧ Fr w w' (fun i => some i = v.ownBlock) := by
  have hlen := ho.1
  rcases ho.2 with ⟨h1, h2⟩ | ⟨g, cap, cur, rfl, hg, hb, hn, hm, hs, ht⟩
  · subst h1
    have hF0 : F = [] := by simpa using h2
    subst hF0
    have h := AnyF.slices_SortFunc_none Tryd.sortFi none 0 (.func (.func 63) #[] #[]) w
    change Calls Tryd.prog 70 _ _ _ at h
    refine h.mono ?_
    rintro e w' ⟨rfl, rfl⟩
    exact ⟨rfl, [], List.Perm.refl _, List.Pairwise.nil, own_none _ _ _ _ _, Fr.refl _ _⟩
  · have hb : Blk w g 110 cur := hb
    have hX : (Go.Sort.flatK fireL 4 F.toArray).size = F.length * 4 := by simp
    have hle : F.length * 4 ≤ cur.size := by rw [hs]; exact Nat.mul_le_mul_right 4 hn
    have hH : Go.Sort.HoldsK fireL 4 w g 0 F.toArray := by
      intro j hj
      rw [hX] at hj
      rw [Nat.zero_add]
      refine ⟨?_, free_at hb _⟩
      rw [cell_at hb]
      have h1 : (cur.toList.take (F.length * 4))[j]? = (F.flatMap fireL)[j]? := by rw [ht]
      rw [List.getElem?_take, if_pos hj, ← flatK_list fireL_len, Array.getElem?_toList, Array.getElem?_toList, Array.getElem?_eq_getElem (xs := Go.Sort.flatK fireL 4 F.toArray) (i := j) (by rw [hX]; exact hj)] at h1
      rw [h1, getElem!_pos _ _ (by rw [hX]; exact hj)]
      rfl
    have eg : ∀ args w, (callFunc 63 args).run Tryd.prog w = .ok (.enter 63 args) w := enters_of Tryd.func63 (by kernel_rfl) rfl
    have h := AnyQ.slices_SortFunc Tryd.sortFi 4 Tryd.isAgg110 Tryd.sizeOf110 fireL fireL_len (fun x u hu => by simp [fireL, fireC] at hu; rcases hu with rfl | rfl | rfl | rfl <;> rfl) cfF swoF 63 #[] g 0 cap F.toArray w eg
      (fun m os dk _ x y => order_grw x y _) hH hb.lt (by simp; omega)
    change Calls Tryd.prog 70 _ _ _ at h
    rw [List.size_toArray] at h
    refine h.mono ?_
    rintro e w' ⟨rfl, d', n, os, hp, hso, rfl⟩
    obtain ⟨hd1, -, hd2⟩ := hp
    have hsz : d'.size = F.length := by simpa using hd1
    have e1 : d'.extract 0 F.length = d' := by rw [← hsz]; exact Array.extract_size
    have e2 : F.toArray.extract 0 F.length = F.toArray := by rw [show F.length = F.toArray.size by simp]; exact Array.extract_size
    rw [e1, e2] at hd2
    have hpm : d'.toList.Perm F := by simpa using hd2
    refine ⟨rfl, d'.toList, hpm, ?_, ?_, ?_⟩
    · rw [List.pairwise_iff_getElem]
      intro i j hi hj hij
      have hi' : i < d'.size := by simpa using hi
      have hj' : j < d'.size := by simpa using hj
      have := hso i j (Nat.zero_le _) hij (by omega)
      rw [getElem!_pos d' j hj', getElem!_pos d' i hi', ltOf_F] at this
      simpa using of_decide_eq_false this
    · have hl : d'.toList.length = F.length := by simpa using hsz
      have hk := flatK_list fireL_len d'.toList
      have hX2 : (Go.Sort.flatK fireL 4 d').size = F.length * 4 := by simp [hsz]
      refine ⟨flat_len fireL 4 fireL_len _, .inr ⟨g, cap, _, by rw [hl], hg, blk_put hb n (Go.Sort.flatK fireL 4 d') os, by rw [hl]; exact hn, hm, by unfold Go.Sort.putCells; rw [Array.size_mapIdx]; exact hs, ?_⟩⟩
      rw [hl, ← hX2, put_take _ _ (by rw [hX2]; exact hle)]
      exact hk
    · exact (fr_put w g n _ os).mono fun i _ e => by rw [show i = g from e]; rfl
end Go.Proofs.YtpjmmnhmhjpkkaaDoor
