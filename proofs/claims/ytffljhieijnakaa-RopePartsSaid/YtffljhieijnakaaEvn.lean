import Derived.Test.YtffljhieijnakaaTrn
import Derived.Handy
namespace Go.Proofs.Ytffljhieijnakaa
open Go.RowKit Go.Mem Go.Rope

/-- what even gives: as high as a pair, or, where it turned, perhaps one less -/
def GivesE (w : World) (s : Bs) (ha hb : Nat) (e : Ending) (w' : World) : Prop := ∃ h, max ha hb ≤ h ∧ h ≤ max ha hb + 1 ∧ (ha ≤ hb + 1 → hb ≤ ha + 1 → h = 1 + max ha hb) ∧ Gives w s h e w'

set_option maxHeartbeats 1000000 in
theorem even_l {w : World} {B : Nat} {va vb : Value} {sa sb : Bs} {ha hb : Nat} (na : NodeAt w B va sa ha) (nb : NodeAt w B vb sb hb) (h1 : 1 ≤ ha) (h2 : 1 ≤ hb) (hd : ha = hb + 2) (hz : sa.length + sb.length ≤ 100000) (hhz : ha + hb ≤ 900) :
    Calls Try.prog 46 #[.agg #[va, vb]] w (GivesE w (sa ++ sb) ha hb) := by
  obtain ⟨ga, xa, ya, la, rfl, hga, ka⟩ := na.block h1
  obtain ⟨gb, xb, yb, lb, rfl, hgb, kb⟩ := nb.block h2
  have hN := Fr.new w (.cells #[ptr ga, ptr gb] 66) (fun _ => False)
  have kk := Blk.made w 66 #[ptr ga, ptr gb]
  have m0 := cell_at kk 0
  have m1 := cell_at kk 1
  simp at m0 m1
  have ac := cell_at (hN.blk ka (fun h => h)) 5
  have ad := cell_at (hN.blk kb (fun h => h)) 5
  simp at ac ad
  have HA := Lib.hid na
  have HB := Lib.hid nb
  have HF0 := Lib.hid (fun a => hN.trans (Fr.drewN _ a (fun _ => False)) (fun _ _ h => h) (fun _ _ h => h))
  have wa : IntKind.i64.wrap ((ha : Int) + 2) = (ha : Int) + 2 := IntWalk.i64_in _ ⟨by omega, by omega⟩
  have wb : IntKind.i64.wrap ((hb : Int) + 2) = (hb : Int) + 2 := IntWalk.i64_in _ ⟨by omega, by omega⟩
  have tab : (((ha : Int)) == (hb : Int) + 2) = true := by simp; omega
  have HM := Lib.hid (show max ha hb = ha from Nat.max_eq_left (by omega))
  clear na nb ka kb kk hN
  go_enter Try.func46, Try.ntmps46
  go_wp2_with fail
  refine wp_loop_rounds 3 ?_
  rw [rounds_succ]
  go_wp2_with fail
  go_quiet (fail)
  go_wp2_with fail
  refine (turn0_any (HB.out.keepo (HF0.out _)) (HA.out.keepo (HF0.out _)) h2 hd (by omega) (by omega)).mono ?_
  rintro e w3 ⟨h, l1, l2, hf3, v3, rfl, n3⟩
  have HF3 := Lib.hid (ff (HF0.out _) hf3)
  have HN3 := Lib.hid n3
  clear hf3 n3
  go_wp2_with fail
  go_ret
  refine ⟨h, ?_, ?_, ?_, HF3.out, _, rfl, HN3.out⟩ <;> omega

set_option maxHeartbeats 1000000 in
theorem even_r {w : World} {B : Nat} {va vb : Value} {sa sb : Bs} {ha hb : Nat} (na : NodeAt w B va sa ha) (nb : NodeAt w B vb sb hb) (h1 : 1 ≤ ha) (h2 : 1 ≤ hb) (hd : hb = ha + 2) (hz : sa.length + sb.length ≤ 100000) (hhz : ha + hb ≤ 900) :
    Calls Try.prog 46 #[.agg #[va, vb]] w (GivesE w (sa ++ sb) ha hb) := by
  obtain ⟨ga, xa, ya, la, rfl, hga, ka⟩ := na.block h1
  obtain ⟨gb, xb, yb, lb, rfl, hgb, kb⟩ := nb.block h2
  have hN := Fr.new w (.cells #[ptr ga, ptr gb] 66) (fun _ => False)
  have kk := Blk.made w 66 #[ptr ga, ptr gb]
  have m0 := cell_at kk 0
  have m1 := cell_at kk 1
  simp at m0 m1
  have ac := cell_at (hN.blk ka (fun h => h)) 5
  have ad := cell_at (hN.blk kb (fun h => h)) 5
  simp at ac ad
  have HA := Lib.hid na
  have HB := Lib.hid nb
  have HF0 := Lib.hid (fun a => hN.trans (Fr.drewN _ a (fun _ => False)) (fun _ _ h => h) (fun _ _ h => h))
  have wa : IntKind.i64.wrap ((ha : Int) + 2) = (ha : Int) + 2 := IntWalk.i64_in _ ⟨by omega, by omega⟩
  have wb : IntKind.i64.wrap ((hb : Int) + 2) = (hb : Int) + 2 := IntWalk.i64_in _ ⟨by omega, by omega⟩
  have tab : (((ha : Int)) == (hb : Int) + 2) = false := by simp; omega
  have tba : (((hb : Int)) == (ha : Int) + 2) = true := by simp; omega
  have HM := Lib.hid (show max ha hb = hb from Nat.max_eq_right (by omega))
  clear na nb ka kb kk hN
  go_enter Try.func46, Try.ntmps46
  go_wp2_with fail
  refine wp_loop_rounds 3 ?_
  rw [rounds_succ]
  go_wp2_with fail
  go_quiet (fail)
  go_wp2_with fail
  rw [rounds_succ]
  go_wp2_with fail
  go_quiet (fail)
  go_wp2_with fail
  refine (turn1_any (HA.out.keepo (HF0.out _)) (HB.out.keepo (HF0.out _)) h1 hd (by omega) (by omega)).mono ?_
  rintro e w3 ⟨h, l1, l2, hf3, v3, rfl, n3⟩
  have HF3 := Lib.hid (ff (HF0.out _) hf3)
  have HN3 := Lib.hid n3
  clear hf3 n3
  go_wp2_with fail
  go_ret
  refine ⟨h, ?_, ?_, ?_, HF3.out, _, rfl, HN3.out⟩ <;> omega

set_option maxHeartbeats 1000000 in
theorem even_m {w : World} {B : Nat} {va vb : Value} {sa sb : Bs} {ha hb : Nat} (na : NodeAt w B va sa ha) (nb : NodeAt w B vb sb hb) (h1 : 1 ≤ ha) (h2 : 1 ≤ hb) (h3 : ha ≤ hb + 1) (h4 : hb ≤ ha + 1) (hz : sa.length + sb.length ≤ 100000) (hhz : ha + hb ≤ 900) :
    Calls Try.prog 46 #[.agg #[va, vb]] w (GivesE w (sa ++ sb) ha hb) := by
  obtain ⟨ga, xa, ya, la, rfl, hga, ka⟩ := na.block h1
  obtain ⟨gb, xb, yb, lb, rfl, hgb, kb⟩ := nb.block h2
  have hN := Fr.new w (.cells #[ptr ga, ptr gb] 66) (fun _ => False)
  have kk := Blk.made w 66 #[ptr ga, ptr gb]
  have m0 := cell_at kk 0
  have m1 := cell_at kk 1
  simp at m0 m1
  have ac := cell_at (hN.blk ka (fun h => h)) 5
  have ad := cell_at (hN.blk kb (fun h => h)) 5
  simp at ac ad
  have HA := Lib.hid na
  have HB := Lib.hid nb
  have HF0 := Lib.hid (fun a => hN.trans (Fr.drewN _ a (fun _ => False)) (fun _ _ h => h) (fun _ _ h => h))
  have wa : IntKind.i64.wrap ((ha : Int) + 2) = (ha : Int) + 2 := IntWalk.i64_in _ ⟨by omega, by omega⟩
  have wb : IntKind.i64.wrap ((hb : Int) + 2) = (hb : Int) + 2 := IntWalk.i64_in _ ⟨by omega, by omega⟩
  have tab : (((ha : Int)) == (hb : Int) + 2) = false := by simp; omega
  have tba : (((hb : Int)) == (ha : Int) + 2) = false := by simp; omega
  clear na nb ka kb kk hN
  go_enter Try.func46, Try.ntmps46
  go_wp2_with fail
  refine wp_loop_rounds 3 ?_
  rw [rounds_succ]
  go_wp2_with fail
  go_quiet (fail)
  go_wp2_with fail
  rw [rounds_succ]
  go_wp2_with fail
  go_quiet (fail)
  go_wp2_with fail
  rw [rounds_succ]
  go_wp2_with fail
  refine (pair_any (HA.out.keepo (HF0.out _)) (HB.out.keepo (HF0.out _)) h1 h2 h3 h4 (by omega) (by omega) (by omega)).mono ?_
  rintro e w3 ⟨hf3, v3, rfl, n3⟩
  have HF3 := Lib.hid (ff (HF0.out _) hf3)
  have HN3 := Lib.hid n3
  clear hf3 n3
  go_wp2_with fail
  go_ret
  refine ⟨_, ?_, ?_, ?_, HF3.out, _, rfl, HN3.out⟩ <;> omega

theorem even_any {w : World} {B : Nat} {va vb : Value} {sa sb : Bs} {ha hb : Nat} (na : NodeAt w B va sa ha) (nb : NodeAt w B vb sb hb) (h1 : 1 ≤ ha) (h2 : 1 ≤ hb) (h3 : ha ≤ hb + 2) (h4 : hb ≤ ha + 2) (hz : sa.length + sb.length ≤ 100000) (hhz : ha + hb ≤ 900) :
    Calls Try.prog 46 #[.agg #[va, vb]] w (GivesE w (sa ++ sb) ha hb) := by
  rcases Nat.eq_or_lt_of_le h3 with e | e
  · exact even_l na nb h1 h2 e hz hhz
  · rcases Nat.eq_or_lt_of_le h4 with e' | e'
    · exact even_r na nb h1 h2 e' hz hhz
    · exact even_m na nb h1 h2 (by omega) (by omega) hz hhz
end Go.Proofs.Ytffljhieijnakaa
