import Derived.Test.YtffljhieijnakaaNod
import Derived.Deep.RegionHeld3
namespace Go.Proofs.Ytffljhieijnakaa
open Go.RowKit Go.Mem Go.Rope

theorem ff {a c d : World} (h : Fr a c (fun _ => False)) (h2 : Fr c d (fun _ => False)) : Fr a d (fun _ => False) := h.trans h2 (fun _ _ h => h) (fun _ _ h => h)
theorem _root_.Go.Mem.Fr.cell0 {a c : World} {b o : Nat} {v : Value} (h : Fr a c (fun _ => False)) (hc : a.cell? ⟨b, o, none⟩ = some v) : c.cell? ⟨b, o, none⟩ = some v :=
  (World.cell?_of_block (w := a) (h.block b (World.block_lt_of_cell? a _ hc) (fun h => h))).trans hc

theorem sum_any (f : Nat) (x y : Nat) {w : World} {va vb : Value} (hx : x ≤ 1000000) (hy : y ≤ 1000000)
    (ha : ∀ W, Fr w W (fun _ => False) → Calls Try.prog f #[va] W fun e w' => e = .returned (.int .i64 (x : Int)) ∧ W = w')
    (hb : ∀ W, Fr w W (fun _ => False) → Calls Try.prog f #[vb] W fun e w' => e = .returned (.int .i64 (y : Int)) ∧ W = w')
    (hf : f = 29 ∨ f = 33) :
    Calls Try.prog 57 #[.agg #[va, vb], .func (.func f) #[] #[]] w fun e w' => e = .returned (.int .i64 ((x + y : Nat) : Int)) ∧ Fr w w' (fun _ => False) := by
  have HN := Lib.hid (fun n => (Fr.new w (.cells #[va, vb] 66) (fun _ => False)).trans (Fr.drewN _ n (fun _ => False)) (fun _ _ h => h) (fun _ _ h => h))
  have HA := Lib.hid (fun m => (show Calls Try.prog f #[va] ((w.alloc (.cells #[va, vb] 66)).drewN m) fun e w' => e = .returned (.int .i64 (x : Int)) ∧ ∃ n, w' = (w.alloc (.cells #[va, vb] 66)).drewN n from (ha _ (HN.out m)).mono fun e w' h => ⟨h.1, m, h.2.symm⟩))
  have HB := Lib.hid (fun m => (show Calls Try.prog f #[vb] ((w.alloc (.cells #[va, vb] 66)).drewN m) fun e w' => e = .returned (.int .i64 (y : Int)) ∧ ∃ n, w' = (w.alloc (.cells #[va, vb] 66)).drewN n from (hb _ (HN.out m)).mono fun e w' h => ⟨h.1, m, h.2.symm⟩))
  have c0 : (w.alloc (.cells #[va, vb] 66)).cell? ⟨w.heap.size, 0, none⟩ = some va := by rw [cell_at (Blk.made w 66 #[va, vb])]; rfl
  have c1 : (w.alloc (.cells #[va, vb] 66)).cell? ⟨w.heap.size, 1, none⟩ = some vb := by rw [cell_at (Blk.made w 66 #[va, vb])]; rfl
  clear ha hb
  rcases hf with rfl | rfl
  · go_enter Try.func57, Try.ntmps57
    go_wp2_with fail
    go_quiet ((first | with_reducible exact HA.out _ | with_reducible exact HB.out _))
    go_wp2_with fail
    go_ret
    exact ⟨rfl, HN.out _⟩
  · go_enter Try.func57, Try.ntmps57
    go_wp2_with fail
    go_quiet ((first | with_reducible exact HA.out _ | with_reducible exact HB.out _))
    go_wp2_with fail
    go_ret
    exact ⟨rfl, HN.out _⟩

theorem NodeAt.own {w : World} {B : Nat} {v : Value} {s : Bs} {h : Nat} (n : NodeAt w B v s h) : NodeAt w w.heap.size v s h := by
  induction n with
  | empty => exact .empty
  | leaf hg hk h0 h1 => exact .leaf hk.lt hk h0 h1
  | pair hg hk na nb h1 h2 h3 h4 iha ihb => exact .pair hk.lt hk iha ihb h1 h2 h3 h4
theorem NodeAt.keepo {w w' : World} {B : Nat} {v : Value} {s : Bs} {h : Nat} (n : NodeAt w B v s h) (hf : Fr w w' (fun _ => False)) : NodeAt w' w'.heap.size v s h := (n.keep hf).own
/-- a call gives a node of these bytes and this height -/
def Gives (w : World) (s : Bs) (h : Nat) (e : Ending) (w' : World) : Prop := Fr w w' (fun _ => False) ∧ ∃ v, e = .returned v ∧ NodeAt w' w'.heap.size v s h

theorem kp4 {w a b : World} {p1 p2 p3 p4 o1 o2 o3 o4 : Nat} {v1 v2 v3 v4 : Value} (h : Fr w a (fun _ => False) ∧ a.cell? ⟨p1, o1, none⟩ = some v1 ∧ a.cell? ⟨p2, o2, none⟩ = some v2 ∧ a.cell? ⟨p3, o3, none⟩ = some v3 ∧ a.cell? ⟨p4, o4, none⟩ = some v4) (hf : Fr a b (fun _ => False)) :
    Fr w b (fun _ => False) ∧ b.cell? ⟨p1, o1, none⟩ = some v1 ∧ b.cell? ⟨p2, o2, none⟩ = some v2 ∧ b.cell? ⟨p3, o3, none⟩ = some v3 ∧ b.cell? ⟨p4, o4, none⟩ = some v4 :=
  ⟨ff h.1 hf, hf.cell0 h.2.1, hf.cell0 h.2.2.1, hf.cell0 h.2.2.2.1, hf.cell0 h.2.2.2.2⟩

theorem pair_made {w w5 w6 : World} {B : Nat} {va vb : Value} {sa sb : Bs} {ha hb : Nat} {x y z : Int} (na : NodeAt w B va sa ha) (nb : NodeAt w B vb sb hb) (h1 : 1 ≤ ha) (h2 : 1 ≤ hb) (h3 : ha ≤ hb + 1) (h4 : hb ≤ ha + 1)
    (hf : Fr w w6 (fun _ => False)) (he : w6 = w5.alloc (.cells #[va, vb, strV [], .int .i64 x, .int .i64 y, .int .i64 z] 68)) (hx : x = ((sa.length + sb.length : Nat) : Int)) (hy : y = ((feeds sa + feeds sb : Nat) : Int)) (hz : z = ((1 + max ha hb : Nat) : Int)) :
    NodeAt w6 w6.heap.size (ptr w5.heap.size) (sa ++ sb) (1 + max ha hb) := by
  subst hx hy hz
  have hb6 : Blk w6 w5.heap.size 68 #[va, vb, strV [], .int .i64 ((sa.length + sb.length : Nat) : Int), .int .i64 ((feeds sa + feeds sb : Nat) : Int), .int .i64 ((1 + max ha hb : Nat) : Int)] := by rw [he]; exact Blk.made _ _ _
  exact .pair hb6.lt hb6 (na.keepo hf) (nb.keepo hf) h1 h2 h3 h4

set_option maxHeartbeats 2000000 in
theorem pair_any {w : World} {B : Nat} {va vb : Value} {sa sb : Bs} {ha hb : Nat} (na : NodeAt w B va sa ha) (nb : NodeAt w B vb sb hb) (h1 : 1 ≤ ha) (h2 : 1 ≤ hb) (h3 : ha ≤ hb + 1) (h4 : hb ≤ ha + 1)
    (hla : sa.length ≤ 100000) (hlb : sb.length ≤ 100000) (hha : ha ≤ 1000) :
    Calls Try.prog 47 #[.agg #[va, vb]] w (Gives w (sa ++ sb) (1 + max ha hb)) := by
  obtain ⟨ga, xa, ya, la, rfl, hga, ka⟩ := na.block h1
  obtain ⟨gb, xb, yb, lb, rfl, hgb, kb⟩ := nb.block h2
  have ca := cell_at ka 5
  have cb := cell_at kb 5
  simp at ca cb
  have fa := feeds_le sa
  have fb := feeds_le sb
  have HS1 := Lib.hid (fun (W : World) (hf : Fr w W (fun _ => False)) => sum_any 29 sa.length sb.length (w := W) (va := ptr ga) (vb := ptr gb) (by omega) (by omega) (fun V h => bytes_any (na.keep (ff hf h))) (fun V h => bytes_any (nb.keep (ff hf h))) (.inl rfl))
  have HS2 := Lib.hid (fun (W : World) (hf : Fr w W (fun _ => False)) => sum_any 33 (feeds sa) (feeds sb) (w := W) (va := ptr ga) (vb := ptr gb) (by omega) (by omega) (fun V h => breaks_any (na.keep (ff hf h))) (fun V h => breaks_any (nb.keep (ff hf h))) (.inr rfl))
  have hNew := Fr.new w (.cells #[ptr ga, ptr gb] 66) (fun _ => False)
  have c0 : (w.alloc (.cells #[ptr ga, ptr gb] 66)).cell? ⟨w.heap.size, 0, none⟩ = some (ptr ga) := by rw [cell_at (Blk.made w 66 #[ptr ga, ptr gb])]; rfl
  have c1 : (w.alloc (.cells #[ptr ga, ptr gb] 66)).cell? ⟨w.heap.size, 1, none⟩ = some (ptr gb) := by rw [cell_at (Blk.made w 66 #[ptr ga, ptr gb])]; rfl
  have hS0 : Hid (Fr w (w.alloc (.cells #[ptr ga, ptr gb] 66)) (fun _ => False) ∧ (w.alloc (.cells #[ptr ga, ptr gb] 66)).cell? ⟨w.heap.size, 0, none⟩ = some (ptr ga) ∧ (w.alloc (.cells #[ptr ga, ptr gb] 66)).cell? ⟨w.heap.size, 1, none⟩ = some (ptr gb) ∧ (w.alloc (.cells #[ptr ga, ptr gb] 66)).cell? ⟨ga, 5, none⟩ = some (.int .i64 (ha : Int)) ∧ (w.alloc (.cells #[ptr ga, ptr gb] 66)).cell? ⟨gb, 5, none⟩ = some (.int .i64 (hb : Int))) := Lib.hid ⟨hNew, c0, c1, hNew.cell0 ca, hNew.cell0 cb⟩
  have HNA := Lib.hid na
  have HNB := Lib.hid nb
  clear na nb ka kb fa fb ca cb hNew
  have hsize : w.heap.size ≤ (w.alloc (.cells #[ptr ga, ptr gb] 66)).heap.size := by simp
  rcases Nat.lt_or_ge ha hb with hc | hc
  · have h1' : ha < hb := hc
    have w1 : IntKind.i64.wrap (1 + (hb : Int)) = 1 + (hb : Int) := IntWalk.i64_in _ ⟨by omega, by omega⟩
    have HM := Lib.hid (show max ha hb = hb from Nat.max_eq_right (by omega))
    clear hc
    go_enter Try.func47, Try.ntmps47
    go_wp2_with fail
    go_region_held3 (fun w' => Fr w w' (fun _ => False) ∧ w'.cell? ⟨w.heap.size, 0, none⟩ = some (ptr ga) ∧ w'.cell? ⟨w.heap.size, 1, none⟩ = some (ptr gb) ∧ w'.cell? ⟨ga, 5, none⟩ = some (.int .i64 (ha : Int)) ∧ w'.cell? ⟨gb, 5, none⟩ = some (.int .i64 (hb : Int)))
      (first | with_reducible exact kp4 hS0.out (Fr.drew _ _) | with_reducible exact kp4 hS hf5 | (rename_i hS _ _; with_reducible exact kp4 hS (Fr.new _ _ _)) | with_reducible assumption)
      ((first | (go_at_call 57; rename_i hS _ _; first | (with_reducible refine (HS1.out _ hS.1).mono ?_; rintro e w5 ⟨rfl, hf5⟩) | (with_reducible refine (HS2.out _ hS.1).mono ?_; rintro e w5 ⟨rfl, hf5⟩))))
    all_goals
      rename_i hS
      have hN := pair_made HNA.out HNB.out h1 h2 h3 h4 hS.1 rfl (by push_cast; rfl) (by push_cast; rfl) (by rw [HM.out]; push_cast; rfl)
      have HS := Lib.hid hS.1
      have HN := Lib.hid hN
      clear hN hS
      go_wp2_with fail
      go_ret
      exact ⟨HS.out, _, rfl, HN.out⟩
  · have h1' : ¬ (ha < hb) := by omega
    have w1 : IntKind.i64.wrap (1 + (ha : Int)) = 1 + (ha : Int) := IntWalk.i64_in _ ⟨by omega, by omega⟩
    have HM := Lib.hid (show max ha hb = ha from Nat.max_eq_left (by omega))
    clear hc
    go_enter Try.func47, Try.ntmps47
    go_wp2_with fail
    go_region_held3 (fun w' => Fr w w' (fun _ => False) ∧ w'.cell? ⟨w.heap.size, 0, none⟩ = some (ptr ga) ∧ w'.cell? ⟨w.heap.size, 1, none⟩ = some (ptr gb) ∧ w'.cell? ⟨ga, 5, none⟩ = some (.int .i64 (ha : Int)) ∧ w'.cell? ⟨gb, 5, none⟩ = some (.int .i64 (hb : Int)))
      (first | with_reducible exact kp4 hS0.out (Fr.drew _ _) | with_reducible exact kp4 hS hf5 | (rename_i hS _ _; with_reducible exact kp4 hS (Fr.new _ _ _)) | with_reducible assumption)
      ((first | (go_at_call 57; rename_i hS _ _; first | (with_reducible refine (HS1.out _ hS.1).mono ?_; rintro e w5 ⟨rfl, hf5⟩) | (with_reducible refine (HS2.out _ hS.1).mono ?_; rintro e w5 ⟨rfl, hf5⟩))))
    all_goals
      rename_i hS
      have hN := pair_made HNA.out HNB.out h1 h2 h3 h4 hS.1 rfl (by push_cast; rfl) (by push_cast; rfl) (by rw [HM.out]; push_cast; rfl)
      have HS := Lib.hid hS.1
      have HN := Lib.hid hN
      clear hN hS
      go_wp2_with fail
      go_ret
      exact ⟨HS.out, _, rfl, HN.out⟩
end Go.Proofs.Ytffljhieijnakaa
