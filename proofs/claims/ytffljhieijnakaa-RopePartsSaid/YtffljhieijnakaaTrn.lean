import Derived.Test.YtffljhieijnakaaPar
import Derived.Laws.Rows
namespace Go.Proofs.Ytffljhieijnakaa
open Go.RowKit Go.Mem Go.Rope

theorem infoHalf : (Try.prog.info? 66).map (·.size) = some 2 := by kernel_rfl
theorem NodeAt.two {w : World} {B : Nat} {v : Value} {s : Bs} {h : Nat} (n : NodeAt w B v s h) (h2 : 2 ≤ h) : ∃ (g ga gb : Nat) (sa sb : Bs) (ha hb : Nat), v = ptr g ∧ s = sa ++ sb ∧ h = 1 + max ha hb ∧
    Blk w g 68 #[ptr ga, ptr gb, strV [], .int .i64 ((sa.length + sb.length : Nat) : Int), .int .i64 ((feeds sa + feeds sb : Nat) : Int), .int .i64 ((1 + max ha hb : Nat) : Int)] ∧
    NodeAt w B (ptr ga) sa ha ∧ NodeAt w B (ptr gb) sb hb ∧ 1 ≤ ha ∧ 1 ≤ hb ∧ ha ≤ hb + 1 ∧ hb ≤ ha + 1 ∧ g < B := by
  cases n with
  | empty => omega
  | leaf => omega
  | pair hg hk na nb k1 k2 k3 k4 =>
    obtain ⟨ga, xa, ya, la, rfl, hga, ka⟩ := na.block k1
    obtain ⟨gb, xb, yb, lb, rfl, hgb, kb⟩ := nb.block k2
    exact ⟨_, ga, gb, _, _, _, _, rfl, rfl, rfl, hk, na, nb, k1, k2, k3, k4, hg⟩
theorem NodeAt.cast {w : World} {B : Nat} {v : Value} {s s' : Bs} {h : Nat} (n : NodeAt w B v s h) (e : s = s') : NodeAt w B v s' h := e ▸ n
def GivesB (w : World) (s : Bs) (lo : Nat) (e : Ending) (w' : World) : Prop := ∃ h, lo ≤ h ∧ h ≤ lo + 1 ∧ Gives w s h e w'

theorem halves0_any (w : World) (x y : Option Addr) :
    Calls Try.prog 62 #[.int .i64 0, .pointer x, .pointer y] w fun e w' => e = .returned (.agg #[.pointer x, .pointer y]) ∧ Fr w w' (fun _ => False) := by
  go_enter Try.func62, Try.ntmps62
  go_wp2_with fail
  have hb := Blk.made (w.alloc (.cells #[.pointer x, .pointer y] 66)) 66 #[.pointer x, .pointer y]
  have hf1 := Fr.new w (.cells #[.pointer x, .pointer y] 66) (fun _ => False)
  have hf2 := Fr.new (w.alloc (.cells #[.pointer x, .pointer y] 66)) (.cells #[.pointer x, .pointer y] 66) (fun _ => False)
  have hb1 := hf2.blk (Blk.made w 66 #[.pointer x, .pointer y]) (fun h => h)
  (try simp only [Exit.inBlock, Exit.then])
  have hres := fun (tmps : Array Value) (hp : tmps.getD 6 undef = .pointer (some ⟨w.heap.size, 0, none⟩)) => results_cell_row (P := Try.prog) (fn := Try.f62) (p := 6) (ty := 66) rfl tmps _ w.heap.size 66 #[.pointer x, .pointer y] (0, 0) _ hp hb1 Try.underlying66 rfl infoHalf
  exact bodyPost_ret (hres _ rfl) rfl ⟨rfl, ff hf1 hf2⟩

theorem halves1_any (w : World) (x y : Option Addr) :
    Calls Try.prog 62 #[.int .i64 1, .pointer x, .pointer y] w fun e w' => e = .returned (.agg #[.pointer y, .pointer x]) ∧ Fr w w' (fun _ => False) := by
  go_enter Try.func62, Try.ntmps62
  go_wp2_with fail
  have hb := Blk.made (w.alloc (.cells #[.pointer y, .pointer x] 66)) 66 #[.pointer y, .pointer x]
  have hf1 := Fr.new w (.cells #[.pointer y, .pointer x] 66) (fun _ => False)
  have hf2 := Fr.new (w.alloc (.cells #[.pointer y, .pointer x] 66)) (.cells #[.pointer y, .pointer x] 66) (fun _ => False)
  have hb1 := hf2.blk (Blk.made w 66 #[.pointer y, .pointer x]) (fun h => h)
  (try simp only [Exit.inBlock, Exit.then])
  have hres := fun (tmps : Array Value) (hp : tmps.getD 6 undef = .pointer (some ⟨w.heap.size, 0, none⟩)) => results_cell_row (P := Try.prog) (fn := Try.f62) (p := 6) (ty := 66) rfl tmps _ w.heap.size 66 #[.pointer y, .pointer x] (0, 0) _ hp hb1 Try.underlying66 rfl infoHalf
  exact bodyPost_ret (hres _ rfl) rfl ⟨rfl, ff hf1 hf2⟩

set_option maxHeartbeats 1000000 in
theorem turn0_any {w : World} {B : Nat} {vl vh : Value} {sl sh : Bs} {hl hh : Nat} (nl : NodeAt w B vl sl hl) (nh : NodeAt w B vh sh hh) (h1 : 1 ≤ hl) (hd : hh = hl + 2) (hz : sl.length + sh.length ≤ 100000) (hhz : hh ≤ 900) :
    Calls Try.prog 56 #[.agg #[vh, vl], .int .i64 0] w (GivesB w (sh ++ sl) hh) := by
  cases nh with
  | empty => omega
  | leaf => omega
  | @pair g vc vd sc sd hc hd' hg hk nc nd b1 b2 b3 b4 =>
    rw [List.length_append] at hz
    obtain ⟨gl, xl, yl, ll, rfl, hgl, kl⟩ := nl.block h1
    obtain ⟨gc, xc, yc, lc, rfl, hgc, kc⟩ := nc.block b1
    obtain ⟨gd, xd, yd, ld, rfl, hgd, kd⟩ := nd.block b2
    have hN := Fr.new w (.cells #[ptr g, ptr gl] 66) (fun _ => False)
    have kb := Blk.made w 66 #[ptr g, ptr gl]
    have m0 := cell_at kb 0
    have m1 := cell_at kb 1
    simp at m0 m1
    have a0 := cell_at (hN.blk hk (fun h => h)) 0
    have a1 := cell_at (hN.blk hk (fun h => h)) 1
    have ac := cell_at (hN.blk kc (fun h => h)) 5
    have ad := cell_at (hN.blk kd (fun h => h)) 5
    simp at a0 a1 ac ad
    have HL := Lib.hid nl
    have HC := Lib.hid nc
    have HD := Lib.hid nd
    by_cases hle : hd' ≤ hc
    · have HF0 := Lib.hid (fun a => hN.trans (Fr.drewN _ a (fun _ => False)) (fun _ _ h => h) (fun _ _ h => h))
      clear nl nc nd kl kc kd hk kb hN
      go_enter Try.func56, Try.ntmps56
      go_wp2_with fail
      go_quiet (fail)
      go_wp2_with fail
      go_quiet (fail)
      go_wp2_with fail
      refine (halves0_any _ _ _).mono ?_
      rintro e w2 ⟨rfl, hf2⟩
      have HF2 := Lib.hid (ff (HF0.out _) hf2)
      clear hf2
      go_wp2_with fail
      refine (pair_any (HD.out.keepo HF2.out) (HL.out.keepo HF2.out) (by omega) (by omega) (by omega) (by omega) (by omega) (by omega) (by omega)).mono ?_
      rintro e w3 ⟨hf3, v3, rfl, n3⟩
      obtain ⟨g3, x3, y3, l3, rfl, hg3, k3⟩ := n3.block (by omega)
      have HF3 := Lib.hid (ff HF2.out hf3)
      have HN3 := Lib.hid n3
      clear hf3 n3 k3
      go_wp2_with fail
      refine (halves0_any _ _ _).mono ?_
      rintro e w4 ⟨rfl, hf4⟩
      have HF4 := Lib.hid (ff HF3.out hf4)
      have HN4 := Lib.hid (HN3.out.keepo hf4)
      clear hf4
      go_wp2_with fail
      refine (pair_any (HC.out.keepo HF4.out) HN4.out (by omega) (by omega) (by omega) (by omega) (by first | omega | (simp; omega)) (by first | omega | (simp; omega)) (by omega)).mono ?_
      rintro e w5 ⟨hf5, v5, rfl, n5⟩
      have HF5 := Lib.hid (ff HF4.out hf5)
      have HN5 := Lib.hid n5
      clear hf5 n5
      go_wp2_with fail
      go_ret
      refine ⟨_, ?_, ?_, HF5.out, _, rfl, HN5.out.cast (by simp)⟩ <;> omega
    · obtain ⟨gi, ge, gf, se, sf, he, hf, e1, rfl, rfl, ki, ne, nf, i1, i2, i3, i4, -⟩ := nd.two (by omega)
      obtain rfl : gd = gi := by injection e1 with e1; injection e1 with e1; injection e1
      have aj0 := cell_at (hN.blk ki (fun h => h)) 0
      have aj1 := cell_at (hN.blk ki (fun h => h)) 1
      simp at aj0 aj1
      have HE := Lib.hid ne
      have HF := Lib.hid nf
      have HF0 := Lib.hid (fun a => hN.trans (Fr.drewN _ a (fun _ => False)) (fun _ _ h => h) (fun _ _ h => h))
      rw [List.length_append] at hz
      clear nl nc nd kl kc kd hk kb hN e1 ki ne nf
      go_enter Try.func56, Try.ntmps56
      go_wp2_with fail
      go_quiet (fail)
      go_wp2_with fail
      go_quiet (fail)
      go_wp2_with fail
      go_quiet (fail)
      go_wp2_with fail
      refine (halves0_any _ _ _).mono ?_
      rintro e w2 ⟨rfl, hf2⟩
      have HF2 := Lib.hid (ff (HF0.out _) hf2)
      clear hf2
      go_wp2_with fail
      refine (pair_any (HC.out.keepo HF2.out) (HE.out.keepo HF2.out) (by omega) (by omega) (by omega) (by omega) (by omega) (by omega) (by omega)).mono ?_
      rintro e w3 ⟨hf3, v3, rfl, n3⟩
      obtain ⟨g3, x3, y3, l3, rfl, hg3, k3⟩ := n3.block (by omega)
      have HF3 := Lib.hid (ff HF2.out hf3)
      have HN3 := Lib.hid n3
      clear hf3 n3 k3
      go_wp2_with fail
      refine (halves0_any _ _ _).mono ?_
      rintro e w4 ⟨rfl, hf4⟩
      have HF4 := Lib.hid (ff HF3.out hf4)
      have HN4 := Lib.hid (HN3.out.keepo hf4)
      clear hf4
      go_wp2_with fail
      refine (pair_any (HF.out.keepo HF4.out) (HL.out.keepo HF4.out) (by omega) (by omega) (by omega) (by omega) (by omega) (by omega) (by omega)).mono ?_
      rintro e w5 ⟨hf5, v5, rfl, n5⟩
      obtain ⟨g5, x5, y5, l5, rfl, hg5, k5⟩ := n5.block (by omega)
      have HF5 := Lib.hid (ff HF4.out hf5)
      have HN5 := Lib.hid n5
      have HN45 := Lib.hid (HN4.out.keepo hf5)
      clear hf5 n5 k5
      go_wp2_with fail
      refine (halves0_any _ _ _).mono ?_
      rintro e w6 ⟨rfl, hf6⟩
      have HF6 := Lib.hid (ff HF5.out hf6)
      have HN6 := Lib.hid (HN5.out.keepo hf6)
      have HN46 := Lib.hid (HN45.out.keepo hf6)
      clear hf6
      go_wp2_with fail
      refine (pair_any HN46.out HN6.out (by omega) (by omega) (by omega) (by omega) (by first | omega | (simp; omega)) (by first | omega | (simp; omega)) (by omega)).mono ?_
      rintro e w7 ⟨hf7, v7, rfl, n7⟩
      have HF7 := Lib.hid (ff HF6.out hf7)
      have HN7 := Lib.hid n7
      clear hf7 n7
      go_wp2_with fail
      go_ret
      refine ⟨_, ?_, ?_, HF7.out, _, rfl, HN7.out.cast (by simp)⟩ <;> omega

set_option maxHeartbeats 1000000 in
theorem turn1_any {w : World} {B : Nat} {vl vh : Value} {sl sh : Bs} {hl hh : Nat} (nl : NodeAt w B vl sl hl) (nh : NodeAt w B vh sh hh) (h1 : 1 ≤ hl) (hd : hh = hl + 2) (hz : sl.length + sh.length ≤ 100000) (hhz : hh ≤ 900) :
    Calls Try.prog 56 #[.agg #[vl, vh], .int .i64 1] w (GivesB w (sl ++ sh) hh) := by
  cases nh with
  | empty => omega
  | leaf => omega
  | @pair g vc vd sc sd hc hd' hg hk nc nd b1 b2 b3 b4 =>
    rw [List.length_append] at hz
    obtain ⟨gl, xl, yl, ll, rfl, hgl, kl⟩ := nl.block h1
    obtain ⟨gc, xc, yc, lc, rfl, hgc, kc⟩ := nc.block b1
    obtain ⟨gd, xd, yd, ld, rfl, hgd, kd⟩ := nd.block b2
    have hN := Fr.new w (.cells #[ptr gl, ptr g] 66) (fun _ => False)
    have kb := Blk.made w 66 #[ptr gl, ptr g]
    have m0 := cell_at kb 0
    have m1 := cell_at kb 1
    simp at m0 m1
    have a0 := cell_at (hN.blk hk (fun h => h)) 0
    have a1 := cell_at (hN.blk hk (fun h => h)) 1
    have ac := cell_at (hN.blk kc (fun h => h)) 5
    have ad := cell_at (hN.blk kd (fun h => h)) 5
    simp at a0 a1 ac ad
    have HL := Lib.hid nl
    have HC := Lib.hid nc
    have HD := Lib.hid nd
    by_cases hle : hc ≤ hd'
    · have HF0 := Lib.hid (fun a => hN.trans (Fr.drewN _ a (fun _ => False)) (fun _ _ h => h) (fun _ _ h => h))
      clear nl nc nd kl kc kd hk kb hN
      go_enter Try.func56, Try.ntmps56
      go_wp2_with fail
      go_quiet (fail)
      go_wp2_with fail
      go_quiet (fail)
      go_wp2_with fail
      refine (halves1_any _ _ _).mono ?_
      rintro e w2 ⟨rfl, hf2⟩
      have HF2 := Lib.hid (ff (HF0.out _) hf2)
      clear hf2
      go_wp2_with fail
      refine (pair_any (HL.out.keepo HF2.out) (HC.out.keepo HF2.out) (by omega) (by omega) (by omega) (by omega) (by omega) (by omega) (by omega)).mono ?_
      rintro e w3 ⟨hf3, v3, rfl, n3⟩
      obtain ⟨g3, x3, y3, l3, rfl, hg3, k3⟩ := n3.block (by omega)
      have HF3 := Lib.hid (ff HF2.out hf3)
      have HN3 := Lib.hid n3
      clear hf3 n3 k3
      go_wp2_with fail
      refine (halves1_any _ _ _).mono ?_
      rintro e w4 ⟨rfl, hf4⟩
      have HF4 := Lib.hid (ff HF3.out hf4)
      have HN4 := Lib.hid (HN3.out.keepo hf4)
      clear hf4
      go_wp2_with fail
      refine (pair_any HN4.out (HD.out.keepo HF4.out) (by omega) (by omega) (by omega) (by omega) (by first | omega | (simp; omega)) (by first | omega | (simp; omega)) (by omega)).mono ?_
      rintro e w5 ⟨hf5, v5, rfl, n5⟩
      have HF5 := Lib.hid (ff HF4.out hf5)
      have HN5 := Lib.hid n5
      clear hf5 n5
      go_wp2_with fail
      go_ret
      refine ⟨_, ?_, ?_, HF5.out, _, rfl, HN5.out.cast (by simp)⟩ <;> omega
    · obtain ⟨gi, ge, gf, se, sf, he, hf, e1, rfl, rfl, ki, ne, nf, i1, i2, i3, i4, -⟩ := nc.two (by omega)
      obtain rfl : gc = gi := by injection e1 with e1; injection e1 with e1; injection e1
      have aj0 := cell_at (hN.blk ki (fun h => h)) 0
      have aj1 := cell_at (hN.blk ki (fun h => h)) 1
      simp at aj0 aj1
      have HE := Lib.hid ne
      have HF := Lib.hid nf
      have HF0 := Lib.hid (fun a => hN.trans (Fr.drewN _ a (fun _ => False)) (fun _ _ h => h) (fun _ _ h => h))
      rw [List.length_append] at hz
      clear nl nc nd kl kc kd hk kb hN e1 ki ne nf
      go_enter Try.func56, Try.ntmps56
      go_wp2_with fail
      go_quiet (fail)
      go_wp2_with fail
      go_quiet (fail)
      go_wp2_with fail
      go_quiet (fail)
      go_wp2_with fail
      refine (halves1_any _ _ _).mono ?_
      rintro e w2 ⟨rfl, hf2⟩
      have HF2 := Lib.hid (ff (HF0.out _) hf2)
      clear hf2
      go_wp2_with fail
      refine (pair_any (HF.out.keepo HF2.out) (HD.out.keepo HF2.out) (by omega) (by omega) (by omega) (by omega) (by omega) (by omega) (by omega)).mono ?_
      rintro e w3 ⟨hf3, v3, rfl, n3⟩
      obtain ⟨g3, x3, y3, l3, rfl, hg3, k3⟩ := n3.block (by omega)
      have HF3 := Lib.hid (ff HF2.out hf3)
      have HN3 := Lib.hid n3
      clear hf3 n3 k3
      go_wp2_with fail
      refine (halves1_any _ _ _).mono ?_
      rintro e w4 ⟨rfl, hf4⟩
      have HF4 := Lib.hid (ff HF3.out hf4)
      have HN4 := Lib.hid (HN3.out.keepo hf4)
      clear hf4
      go_wp2_with fail
      refine (pair_any (HL.out.keepo HF4.out) (HE.out.keepo HF4.out) (by omega) (by omega) (by omega) (by omega) (by omega) (by omega) (by omega)).mono ?_
      rintro e w5 ⟨hf5, v5, rfl, n5⟩
      obtain ⟨g5, x5, y5, l5, rfl, hg5, k5⟩ := n5.block (by omega)
      have HF5 := Lib.hid (ff HF4.out hf5)
      have HN5 := Lib.hid n5
      have HN45 := Lib.hid (HN4.out.keepo hf5)
      clear hf5 n5 k5
      go_wp2_with fail
      refine (halves1_any _ _ _).mono ?_
      rintro e w6 ⟨rfl, hf6⟩
      have HF6 := Lib.hid (ff HF5.out hf6)
      have HN6 := Lib.hid (HN5.out.keepo hf6)
      have HN46 := Lib.hid (HN45.out.keepo hf6)
      clear hf6
      go_wp2_with fail
      refine (pair_any HN6.out HN46.out (by omega) (by omega) (by omega) (by omega) (by first | omega | (simp; omega)) (by first | omega | (simp; omega)) (by omega)).mono ?_
      rintro e w7 ⟨hf7, v7, rfl, n7⟩
      have HF7 := Lib.hid (ff HF6.out hf7)
      have HN7 := Lib.hid n7
      clear hf7 n7
      go_wp2_with fail
      go_ret
      refine ⟨_, ?_, ?_, HF7.out, _, rfl, HN7.out.cast (by simp)⟩ <;> omega
end Go.Proofs.Ytffljhieijnakaa
