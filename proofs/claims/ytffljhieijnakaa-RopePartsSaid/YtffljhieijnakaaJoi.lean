import Derived.Test.YtffljhieijnakaaLea
namespace Go.Proofs.Ytffljhieijnakaa
open Go.RowKit Go.Mem Go.Rope

theorem kp2 {w a b : World} {p1 p2 o1 o2 : Nat} {v1 v2 : Value} (h : Fr w a (fun _ => False) ∧ a.cell? ⟨p1, o1, none⟩ = some v1 ∧ a.cell? ⟨p2, o2, none⟩ = some v2) (hf : Fr a b (fun _ => False)) :
    Fr w b (fun _ => False) ∧ b.cell? ⟨p1, o1, none⟩ = some v1 ∧ b.cell? ⟨p2, o2, none⟩ = some v2 :=
  ⟨ff h.1 hf, hf.cell0 h.2.1, hf.cell0 h.2.2⟩
/-- joining two nodes, whose heights are n in all at most -/
def JoinOk (n : Nat) : Prop := ∀ {w : World} {B : Nat} {va vb : Value} {sa sb : Bs} {ha hb : Nat}, NodeAt w B va sa ha → NodeAt w B vb sb hb → sa.length + sb.length ≤ 100000 → ha ≤ 400 → hb ≤ 400 → ha + hb ≤ n →
    Calls Try.prog 39 #[va, vb] w (GivesB w (sa ++ sb) (max ha hb))

theorem join_nil1 {w : World} {B : Nat} {vb : Value} {sb : Bs} {hb : Nat} (nb : NodeAt w B vb sb hb) : Calls Try.prog 39 #[.pointer none, vb] w (GivesB w sb hb) := by
  have HB := Lib.hid nb.own
  clear nb
  go_enter Try.func39, Try.ntmps39
  go_wp2_with fail
  go_ret
  exact ⟨hb, Nat.le_refl _, by omega, Fr.refl _ _, _, rfl, HB.out⟩
theorem join_nil2 {w : World} {B : Nat} {va : Value} {sa : Bs} {ha : Nat} (na : NodeAt w B va sa ha) (h1 : 1 ≤ ha) : Calls Try.prog 39 #[va, .pointer none] w (GivesB w sa ha) := by
  obtain ⟨ga, xa, ya, la, rfl, hga, ka⟩ := na.block h1
  have hne := fun w => eq_nil_ptr w ga
  have HA := Lib.hid na.own
  clear na ka
  go_enter Try.func39, Try.ntmps39
  go_wp2_with fail
  go_ret
  exact ⟨ha, Nat.le_refl _, by omega, Fr.refl _ _, _, rfl, HA.out⟩

set_option maxHeartbeats 1000000 in
theorem join_high {n : Nat} (IH : JoinOk n) {w : World} {B : Nat} {va vb : Value} {sa sb : Bs} {ha hb : Nat} (na : NodeAt w B va sa ha) (nb : NodeAt w B vb sb hb) (h1 : 1 ≤ ha) (h2 : 1 ≤ hb) (hz : sa.length + sb.length ≤ 100000) (hha : ha ≤ 400) (hhb : hb ≤ 400) (hn : ha + hb ≤ n + 1) (hc : hb < ha) :
    Calls Try.prog 39 #[va, vb] w (GivesB w (sa ++ sb) (max ha hb)) := by
  obtain ⟨gc', xc, yc, lc, e1, hgc, kc⟩ := nb.block h2
  subst e1
  obtain ⟨g, gc, gd, sc, sd, hc', hd', e2, e3, e4, kg, nc, nd, i1, i2, i3, i4, -⟩ := na.two (by omega)
  subst e2 e3
  rw [List.length_append] at hz
  have hne1 := fun w => eq_nil_ptr w g
  have hne2 := fun w => eq_nil_ptr w gc'
  have c0 := cell_at kg 0
  have c1 := cell_at kg 1
  have c5 := cell_at kg 5
  have d5 := cell_at kc 5
  simp at c0 c1 c5 d5
  have c5' : w.cell? ⟨g, 5, none⟩ = some (.int .i64 (ha : Int)) := by rw [c5, e4]; congr
  have HC := Lib.hid nc
  have HD := Lib.hid nd
  have HB := Lib.hid nb
  have hS0 : Hid (∀ k, Fr w (w.drewN k) (fun _ => False) ∧ (w.drewN k).cell? ⟨g, 0, none⟩ = some (ptr gc) ∧ (w.drewN k).cell? ⟨g, 1, none⟩ = some (ptr gd)) := Lib.hid fun k => ⟨Fr.drewN _ _ _, c0, c1⟩
  have hS1 : Hid (∀ j k, Fr w ((w.drewN j).drewN k) (fun _ => False) ∧ ((w.drewN j).drewN k).cell? ⟨g, 0, none⟩ = some (ptr gc) ∧ ((w.drewN j).drewN k).cell? ⟨g, 1, none⟩ = some (ptr gd)) := Lib.hid fun j k => ⟨ff (Fr.drewN _ _ _) (Fr.drewN _ _ _), c0, c1⟩
  have t1 : (ha : Int) > (hb : Int) := by omega
  clear na nb kg kc nc nd c5
  go_enter Try.func39, Try.ntmps39
  go_wp2_with fail
  go_quiet (fail)
  go_wp2_with fail
  go_region_held3 (fun w' => Fr w w' (fun _ => False) ∧ w'.cell? ⟨g, 0, none⟩ = some (ptr gc) ∧ w'.cell? ⟨g, 1, none⟩ = some (ptr gd))
    (first | with_reducible exact kp2 (hS0.out _) (Fr.drew _ _) | with_reducible exact kp2 (hS1.out _ _) (Fr.drew _ _) | with_reducible exact kp2 hS hf6 | with_reducible exact kp2 hS hf5 | with_reducible exact kp2 (hS0.out _) hf5 | with_reducible assumption)
    ((first
      | (go_at_call 46; rename_i hS _ _; refine (even_any (HC.out.keepo hS.1) n5 (by omega) (by omega) (by omega) (by omega) (by simp; omega) (by omega)).mono ?_; rintro e w6 ⟨h6, l6, u6, p6, hf6, v6, rfl, n6⟩)
      | (go_at_call 39; rename_i hS _ _; (first | refine (IH (HD.out.keepo hS.1) (HB.out.keepo hS.1) (by omega) (by omega) (by omega) (by omega)).mono ?_ | refine (IH (HD.out.keepo (hS0.out _).1) (HB.out.keepo (hS0.out _).1) (by omega) (by omega) (by omega) (by omega)).mono ?_); rintro e w5 ⟨h5, l5, u5, hf5, v5, rfl, n5⟩; obtain ⟨g5, x5, y5, z5, rfl, -, -⟩ := n5.block (by omega))))
  rename_i hS
  have HS := Lib.hid hS.1
  have HN6 := Lib.hid n6
  clear hS n6
  go_wp2_with fail
  go_ret
  refine ⟨h6, ?_, ?_, HS.out, _, rfl, HN6.out.cast (by simp)⟩ <;> omega

set_option maxHeartbeats 1000000 in
theorem join_low {n : Nat} (IH : JoinOk n) {w : World} {B : Nat} {va vb : Value} {sa sb : Bs} {ha hb : Nat} (na : NodeAt w B va sa ha) (nb : NodeAt w B vb sb hb) (h1 : 1 ≤ ha) (h2 : 1 ≤ hb) (hz : sa.length + sb.length ≤ 100000) (hha : ha ≤ 400) (hhb : hb ≤ 400) (hn : ha + hb ≤ n + 1) (hc : ha < hb) :
    Calls Try.prog 39 #[va, vb] w (GivesB w (sa ++ sb) (max ha hb)) := by
  obtain ⟨gc', xc, yc, lc, e1, hgc, kc⟩ := na.block h1
  subst e1
  obtain ⟨g, gc, gd, sc, sd, hc', hd', e2, e3, e4, kg, nc, nd, i1, i2, i3, i4, -⟩ := nb.two (by omega)
  subst e2 e3
  rw [List.length_append] at hz
  have hne1 := fun w => eq_nil_ptr w g
  have hne2 := fun w => eq_nil_ptr w gc'
  have c0 := cell_at kg 0
  have c1 := cell_at kg 1
  have c5 := cell_at kg 5
  have d5 := cell_at kc 5
  simp at c0 c1 c5 d5
  have c5' : w.cell? ⟨g, 5, none⟩ = some (.int .i64 (hb : Int)) := by rw [c5, e4]; congr
  have HC := Lib.hid nc
  have HD := Lib.hid nd
  have HA := Lib.hid na
  have hS0 : Hid (∀ k, Fr w (w.drewN k) (fun _ => False) ∧ (w.drewN k).cell? ⟨g, 0, none⟩ = some (ptr gc) ∧ (w.drewN k).cell? ⟨g, 1, none⟩ = some (ptr gd)) := Lib.hid fun k => ⟨Fr.drewN _ _ _, c0, c1⟩
  have hS1 : Hid (∀ j k, Fr w ((w.drewN j).drewN k) (fun _ => False) ∧ ((w.drewN j).drewN k).cell? ⟨g, 0, none⟩ = some (ptr gc) ∧ ((w.drewN j).drewN k).cell? ⟨g, 1, none⟩ = some (ptr gd)) := Lib.hid fun j k => ⟨ff (Fr.drewN _ _ _) (Fr.drewN _ _ _), c0, c1⟩
  have t1 : ¬ ((ha : Int) > (hb : Int)) := by omega
  have t2 : (ha : Int) < (hb : Int) := by omega
  clear na nb kg kc nc nd c5
  go_enter Try.func39, Try.ntmps39
  go_wp2_with fail
  go_quiet (fail)
  go_wp2_with fail
  go_quiet (fail)
  go_wp2_with fail
  go_region_held3 (fun w' => Fr w w' (fun _ => False) ∧ w'.cell? ⟨g, 0, none⟩ = some (ptr gc) ∧ w'.cell? ⟨g, 1, none⟩ = some (ptr gd))
    (first | with_reducible exact kp2 (hS0.out _) (Fr.drew _ _) | with_reducible exact kp2 (hS1.out _ _) (Fr.drew _ _) | with_reducible exact kp2 hS hf6 | with_reducible exact kp2 hS hf5 | with_reducible exact kp2 (hS0.out _) hf5 | with_reducible assumption)
    ((first
      | (go_at_call 46; rename_i hS _ _; refine (even_any n5 (HD.out.keepo hS.1) (by omega) (by omega) (by omega) (by omega) (by simp; omega) (by omega)).mono ?_; rintro e w6 ⟨h6, l6, u6, p6, hf6, v6, rfl, n6⟩)
      | (go_at_call 39; rename_i hS _ _; (first | refine (IH (HA.out.keepo hS.1) (HC.out.keepo hS.1) (by omega) (by omega) (by omega) (by omega)).mono ?_ | refine (IH (HA.out.keepo (hS0.out _).1) (HC.out.keepo (hS0.out _).1) (by omega) (by omega) (by omega) (by omega)).mono ?_); rintro e w5 ⟨h5, l5, u5, hf5, v5, rfl, n5⟩; obtain ⟨g5, x5, y5, z5, rfl, -, -⟩ := n5.block (by omega))))
  rename_i hS
  have HS := Lib.hid hS.1
  have HN6 := Lib.hid n6
  clear hS n6
  go_wp2_with fail
  go_ret
  refine ⟨h6, ?_, ?_, HS.out, _, rfl, HN6.out.cast (by simp)⟩ <;> omega

theorem NodeAt.one {w : World} {B : Nat} {v : Value} {s : Bs} {h : Nat} (n : NodeAt w B v s h) (h1 : h = 1) : ∃ g, v = ptr g ∧ Blk w g 68 #[.pointer none, .pointer none, strV s, .int .i64 (s.length : Int), .int .i64 (feeds s : Int), .int .i64 1] ∧ s ≠ [] ∧ s.length ≤ 128 ∧ g < B := by
  cases n with
  | empty => omega
  | leaf hg hk h0 hl => exact ⟨_, rfl, hk, h0, hl, hg⟩
  | pair hg hk na nb k1 k2 k3 k4 => omega
theorem str_app (a b : Bs) : (⟨a.toArray⟩ : ByteArray) ++ ⟨b.toArray⟩ = ⟨(a ++ b).toArray⟩ := by
  apply ByteArray.ext
  apply Array.toList_inj.1
  simp [ByteArray.data_append]

set_option maxHeartbeats 1000000 in
theorem join_leaves {w : World} {B : Nat} {va vb : Value} {sa sb : Bs} {ha hb : Nat} (na : NodeAt w B va sa ha) (nb : NodeAt w B vb sb hb) (h1 : ha = 1) (h2 : hb = 1) (hz : sa.length + sb.length ≤ 128) :
    Calls Try.prog 39 #[va, vb] w (GivesB w (sa ++ sb) 1) := by
  obtain ⟨ga, rfl, ka, ea, la, -⟩ := na.one h1
  obtain ⟨gb, rfl, kb, eb, lb, -⟩ := nb.one h2
  have hne1 := fun w => eq_nil_ptr w ga
  have hne2 := fun w => eq_nil_ptr w gb
  have c2 := cell_at ka 2
  have c3 := cell_at ka 3
  have c5 := cell_at ka 5
  have d2 := cell_at kb 2
  have d3 := cell_at kb 3
  have d5 := cell_at kb 5
  simp at c2 c3 c5 d2 d3 d5
  have HN := Lib.hid (fun w => nodeOf_leaf (sa ++ sb) w (by simp [ea]) (by simp; omega))
  rw [show strV (sa ++ sb) = .string ((⟨sa.toArray⟩ : ByteArray) ++ ⟨sb.toArray⟩) by rw [str_app]] at HN
  have hS2 : Hid (∀ i j, Fr w ((w.drewN i).drewN j) (fun _ => False) ∧ ((w.drewN i).drewN j).cell? ⟨ga, 2, none⟩ = some (strV sa) ∧ ((w.drewN i).drewN j).cell? ⟨gb, 2, none⟩ = some (strV sb)) := Lib.hid fun i j => ⟨ff (Fr.drewN _ _ _) (Fr.drewN _ _ _), c2, d2⟩
  have hS3 : Hid (∀ i j k, Fr w (((w.drewN i).drewN j).drewN k) (fun _ => False) ∧ (((w.drewN i).drewN j).drewN k).cell? ⟨ga, 2, none⟩ = some (strV sa) ∧ (((w.drewN i).drewN j).drewN k).cell? ⟨gb, 2, none⟩ = some (strV sb)) := Lib.hid fun i j k => ⟨ff (ff (Fr.drewN _ _ _) (Fr.drewN _ _ _)) (Fr.drewN _ _ _), c2, d2⟩
  have hS1 : Hid (∀ k, Fr w (w.drewN k) (fun _ => False) ∧ (w.drewN k).cell? ⟨ga, 2, none⟩ = some (strV sa) ∧ (w.drewN k).cell? ⟨gb, 2, none⟩ = some (strV sb)) := Lib.hid fun k => ⟨Fr.drewN _ _ _, c2, d2⟩
  have za := str_size sa
  have zb := str_size sb
  have wz : IntKind.i64.wrap ((sa.length : Int) + (sb.length : Int)) = (sa.length : Int) + (sb.length : Int) := IntWalk.i64_in _ ⟨by omega, by omega⟩
  have hz' : (sa.length : Int) + (sb.length : Int) ≤ 128 := by omega
  have hadd := fun w => run_string_add_sum (P := Try.prog) w ⟨sa.toArray⟩ ⟨sb.toArray⟩ (by rw [za, zb]; omega)
  clear na nb ka kb ea eb
  go_enter Try.func39, Try.ntmps39
  go_wp2_with fail
  go_quiet (fail)
  go_wp2_with fail
  go_quiet (fail)
  go_wp2_with fail
  go_quiet (fail)
  go_wp2_with fail
  go_region_held3 (fun w' => Fr w w' (fun _ => False) ∧ w'.cell? ⟨ga, 2, none⟩ = some (strV sa) ∧ w'.cell? ⟨gb, 2, none⟩ = some (strV sb))
    (first | with_reducible exact kp2 (hS1.out _) (Fr.drew _ _) | with_reducible exact kp2 (hS2.out _ _) (Fr.drew _ _) | with_reducible exact kp2 (hS3.out _ _ _) (Fr.drew _ _) | with_reducible exact kp2 hS hf6 | with_reducible exact kp2 (hS1.out _) hf6 | with_reducible assumption)
    ((go_at_call 27; rename_i hS _ _; refine (HN.out _).mono ?_; rintro e w6 ⟨hf6, v6, rfl, n6⟩))
  rename_i hS
  have HS := Lib.hid hS.1
  have HN6 := Lib.hid n6
  clear hS n6
  go_wp2_with fail
  go_ret
  exact ⟨1, Nat.le_refl _, by omega, HS.out, _, rfl, HN6.out⟩

set_option maxHeartbeats 1000000 in
theorem join_same {w : World} {B : Nat} {va vb : Value} {sa sb : Bs} {ha hb : Nat} (na : NodeAt w B va sa ha) (nb : NodeAt w B vb sb hb) (h1 : 1 ≤ ha) (he : ha = hb) (hne : ha = 1 → 128 < sa.length + sb.length) (hz : sa.length + sb.length ≤ 100000) (hha : ha ≤ 400) :
    Calls Try.prog 39 #[va, vb] w (GivesB w (sa ++ sb) (max ha hb)) := by
  subst he
  obtain ⟨ga, xa, ya, la, rfl, hga, ka⟩ := na.block h1
  obtain ⟨gb, xb, yb, lb, rfl, hgb, kb⟩ := nb.block h1
  have hne1 := fun w => eq_nil_ptr w ga
  have hne2 := fun w => eq_nil_ptr w gb
  have c3 := cell_at ka 3
  have c5 := cell_at ka 5
  have d3 := cell_at kb 3
  have d5 := cell_at kb 5
  simp at c3 c5 d3 d5
  have HP := Lib.hid (fun W (hf : Fr w W (fun _ => False)) => pair_any (na.keep hf) (nb.keep hf) h1 h1 (by omega) (by omega) (by omega) (by omega) (by omega))
  have wz : IntKind.i64.wrap ((sa.length : Int) + (sb.length : Int)) = (sa.length : Int) + (sb.length : Int) := IntWalk.i64_in _ ⟨by omega, by omega⟩
  have HD := Lib.hid (fun i => Fr.drewN w i (fun _ => False))
  have HD2 := Lib.hid (fun i j => ff (Fr.drewN w i (fun _ => False)) (Fr.drewN _ j (fun _ => False)))
  have HD3 := Lib.hid (fun i j k => ff (ff (Fr.drewN w i (fun _ => False)) (Fr.drewN _ j (fun _ => False))) (Fr.drewN _ k (fun _ => False)))
  clear na nb ka kb
  by_cases h1' : ha = 1
  · have t1 : ((ha : Int) == 1) = true := by simp; omega
    have t2 : ¬ ((sa.length : Int) + (sb.length : Int) ≤ 128) := by have := hne h1'; omega
    clear h1' hne
    go_enter Try.func39, Try.ntmps39
    go_wp2_with fail
    go_quiet (fail)
    go_wp2_with fail
    go_quiet (fail)
    go_wp2_with fail
    go_quiet (fail)
    go_wp2_with fail
    first
      | (with_reducible refine (HP.out _ (HD.out _)).mono ?_)
      | (with_reducible refine (HP.out _ (HD2.out _ _)).mono ?_)
      | (with_reducible refine (HP.out _ (HD3.out _ _ _)).mono ?_)
    rintro e w6 ⟨hf6, v6, rfl, n6⟩
    have HF6 : Hid (Fr w w6 (fun _ => False)) := by
      first
        | with_reducible exact Lib.hid (ff (HD.out _) hf6)
        | with_reducible exact Lib.hid (ff (HD2.out _ _) hf6)
        | with_reducible exact Lib.hid (ff (HD3.out _ _ _) hf6)
    have HN6 := Lib.hid n6
    clear hf6 n6
    go_wp2_with fail
    go_ret
    exact ⟨_, by omega, by omega, HF6.out, _, rfl, HN6.out⟩
  · have t1 : ((ha : Int) == 1) = false := by simp; omega
    clear h1' hne
    go_enter Try.func39, Try.ntmps39
    go_wp2_with fail
    go_quiet (fail)
    go_wp2_with fail
    go_quiet (fail)
    go_wp2_with fail
    go_quiet (fail)
    go_wp2_with fail
    first
      | (with_reducible refine (HP.out _ (HD.out _)).mono ?_)
      | (with_reducible refine (HP.out _ (HD2.out _ _)).mono ?_)
      | (with_reducible refine (HP.out _ (HD3.out _ _ _)).mono ?_)
    rintro e w6 ⟨hf6, v6, rfl, n6⟩
    have HF6 : Hid (Fr w w6 (fun _ => False)) := by
      first
        | with_reducible exact Lib.hid (ff (HD.out _) hf6)
        | with_reducible exact Lib.hid (ff (HD2.out _ _) hf6)
        | with_reducible exact Lib.hid (ff (HD3.out _ _ _) hf6)
    have HN6 := Lib.hid n6
    clear hf6 n6
    go_wp2_with fail
    go_ret
    exact ⟨_, by omega, by omega, HF6.out, _, rfl, HN6.out⟩

theorem join_ok : ∀ n, JoinOk n := by
  intro n
  induction n with
  | zero =>
    intro w B va vb sa sb ha hb na nb hz hha hhb hn
    obtain ⟨rfl, rfl⟩ := na.nil (by omega)
    have := join_nil1 nb
    rwa [show max ha hb = hb by omega]
  | succ n IH =>
    intro w B va vb sa sb ha hb na nb hz hha hhb hn
    rcases Nat.eq_zero_or_pos ha with h0 | h0
    · obtain ⟨rfl, rfl⟩ := na.nil h0
      have := join_nil1 nb
      rwa [show max ha hb = hb by omega]
    · rcases Nat.eq_zero_or_pos hb with h0' | h0'
      · obtain ⟨rfl, rfl⟩ := nb.nil h0'
        have := join_nil2 na h0
        rwa [List.append_nil, show max ha hb = ha by omega]
      · rcases Nat.lt_trichotomy ha hb with h | h | h
        · exact join_low IH na nb h0 h0' hz hha hhb hn h
        · by_cases hl : ha = 1 ∧ sa.length + sb.length ≤ 128
          · have := join_leaves na nb hl.1 (by omega) hl.2
            rwa [show max ha hb = 1 by omega]
          · exact join_same na nb h0 h (by omega) hz hha
        · exact join_high IH na nb h0 h0' hz hha hhb hn h
theorem join_any {w : World} {B : Nat} {va vb : Value} {sa sb : Bs} {ha hb : Nat} (na : NodeAt w B va sa ha) (nb : NodeAt w B vb sb hb) (hz : sa.length + sb.length ≤ 100000) (hha : ha ≤ 400) (hhb : hb ≤ 400) :
    Calls Try.prog 39 #[va, vb] w (GivesB w (sa ++ sb) (max ha hb)) := join_ok _ na nb hz hha hhb (Nat.le_refl _)
end Go.Proofs.Ytffljhieijnakaa
