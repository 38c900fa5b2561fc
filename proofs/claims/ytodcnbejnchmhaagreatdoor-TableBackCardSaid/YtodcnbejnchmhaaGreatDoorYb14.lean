import Derived.Test.YtodcnbejnchmhaaGreatDoorYb13
import Derived.LoopTactic
import Derived.Deep.LoopGhost
import Derived.OwnWalk
namespace Go.Proofs.YtodcnbejnchmhaaGreatDoor.S3
open Go.RowKit Go.Mem Go.Rope

/-- the value v is a rope (nil, or a block) whose root is x; its bytes are l -/
def RopeAt (w : World) (v x : Value) (l : Bs) (h : Nat) : Prop := NodeAt w w.heap.size x l h ∧ ((v = .pointer none ∧ x = .pointer none) ∨ ∃ g, v = ptr g ∧ Blk w g 155 #[x])
theorem RopeAt.keep {w w' : World} {v x : Value} {l : Bs} {h : Nat} (r : RopeAt w v x l h) (hf : Fr w w' (fun _ => False)) : RopeAt w' v x l h := by
  refine ⟨r.1.keepo hf, ?_⟩
  rcases r.2 with h | ⟨g, h1, h2⟩
  · exact .inl h
  · exact .inr ⟨g, h1, hf.blk h2 (fun h => h)⟩
theorem NodeAt.addr {w : World} {B : Nat} {v : Value} {s : Bs} {h : Nat} (n : NodeAt w B v s h) : ∃ a, v = .pointer a := by cases n <;> exact ⟨_, rfl⟩
theorem RopeAt.nil (w : World) : RopeAt w (.pointer none) (.pointer none) [] 0 := ⟨.empty, .inl ⟨rfl, rfl⟩⟩
theorem NodeAt.made {w5 w6 : World} {v : Value} {l : Bs} {h : Nat} (n : NodeAt w5 w5.heap.size v l h) (he : w6 = w5.alloc (.cells #[v] 155)) : RopeAt w6 (ptr w5.heap.size) v l h := by
  subst he
  exact ⟨n.keepo (Fr.new _ _ _), .inr ⟨_, rfl, Blk.made _ _ _⟩⟩
theorem eq_nil_rope (w : World) (g : Nat) : (binOp .eql 72 (ptr g) (.pointer none)).run Tryz.prog w = .ok (.bool false) w := by kernel_rfl

theorem top_any {w : World} {v x : Value} {l : Bs} {h : Nat} (r : RopeAt w v x l h) : Calls Tryz.prog 54 #[v] w fun e w' => e = .returned x ∧ w = w' := by
  rcases r.2 with ⟨rfl, rfl⟩ | ⟨g, rfl, hg⟩
  · clear r
    go_enter Tryz.func54, Tryz.ntmps54
    go_wp2_with fail
    go_ret
    exact ⟨rfl, rfl⟩
  · have c0 := cell_at hg 0
    simp at c0
    have hne := fun w => eq_nil_rope w g
    clear hg r
    go_enter Tryz.func54, Tryz.ntmps54
    go_wp2_with fail
    go_ret
    exact ⟨rfl, rfl⟩
theorem Len_any {w : World} {v x : Value} {l : Bs} {h : Nat} (r : RopeAt w v x l h) : Calls Tryz.prog 61 #[v] w fun e w' => e = .returned (.int .i64 (l.length : Int)) ∧ w = w' := by
  have HT := Lib.hid (top_any r)
  have HB := Lib.hid (bytes_any r.1)
  clear r
  go_enter Tryz.func61, Tryz.ntmps61
  go_wp2_with fail
  refine HT.out.mono ?_
  rintro e w' ⟨rfl, rfl⟩
  go_wp2_with fail
  refine HB.out.mono ?_
  rintro e w' ⟨rfl, rfl⟩
  go_wp2_with fail
  go_ret
  exact ⟨rfl, rfl⟩
theorem Lines_any {w : World} {v x : Value} {l : Bs} {h : Nat} (r : RopeAt w v x l h) (hl : l.length ≤ 20000) : Calls Tryz.prog 53 #[v] w fun e w' => e = .returned (.int .i64 ((feeds l + 1 : Nat) : Int)) ∧ w = w' := by
  have HT := Lib.hid (top_any r)
  have HB := Lib.hid (breaks_any r.1)
  have hf := feeds_le l
  have hb : (feeds l : Int) ≤ 20000 := by omega
  clear r hf
  go_enter Tryz.func53, Tryz.ntmps53
  go_wp2_with fail
  refine HT.out.mono ?_
  rintro e w' ⟨rfl, rfl⟩
  go_wp2_with fail
  refine HB.out.mono ?_
  rintro e w' ⟨rfl, rfl⟩
  go_wp2_with fail
  go_ret
  exact ⟨rfl, rfl⟩
theorem Text_any {w : World} {v x : Value} {l : Bs} {h : Nat} (r : RopeAt w v x l h) (hl : l.length ≤ 20000) : Calls Tryz.prog 37 #[v] w fun e w' => e = .returned (strV l) ∧ Fr w w' (fun _ => False) := by
  have HT := Lib.hid (top_any r)
  have HL := Lib.hid (Len_any r)
  have HX := Lib.hid (text_any (f := 0) (t := l.length) r.1 (by omega) (by omega) (by omega))
  rw [cut_all] at HX
  clear r
  go_enter Tryz.func37, Tryz.ntmps37
  go_wp2_with fail
  refine HT.out.mono ?_
  rintro e w' ⟨rfl, rfl⟩
  go_wp2_with fail
  refine HL.out.mono ?_
  rintro e w' ⟨rfl, rfl⟩
  go_wp2_with fail
  refine HX.out.mono ?_
  rintro e w' ⟨rfl, hf⟩
  have HF := Lib.hid hf
  clear hf
  go_wp2_with fail
  go_ret
  exact ⟨rfl, HF.out⟩

/-- a stretch that is there -/
def InR (l : Bs) (x y : Int) : Prop := 0 ≤ x ∧ x ≤ y ∧ y ≤ (l.length : Int)
instance (l : Bs) (x y : Int) : Decidable (InR l x y) := by unfold InR; infer_instance
theorem has_any {w : World} {v r : Value} {l : Bs} {h : Nat} (ro : RopeAt w v r l h) (x y : Int) (b : Bool) (hb : b = true ↔ InR l x y) : Calls Tryz.prog 85 #[v, .int .i64 x, .int .i64 y] w fun e w' => e = .returned (.bool b) ∧ w = w' := by
  have HL := Lib.hid (Len_any ro)
  have HB := Lib.hid hb
  clear ro hb
  by_cases h1 : 0 ≤ x
  · by_cases h2 : x ≤ y
    · by_cases h3 : y ≤ (l.length : Int)
      · obtain rfl : b = true := HB.out.2 ⟨h1, h2, h3⟩
        go_enter Tryz.func85, Tryz.ntmps85
        go_wp2_with fail
        refine HL.out.mono ?_
        rintro e w' ⟨rfl, rfl⟩
        go_wp2_with fail
        go_ret
        exact ⟨rfl, rfl⟩
      · obtain rfl : b = false := by rw [Bool.eq_false_iff]; intro e; exact h3 (HB.out.1 e).2.2
        go_enter Tryz.func85, Tryz.ntmps85
        go_wp2_with fail
        refine HL.out.mono ?_
        rintro e w' ⟨rfl, rfl⟩
        go_wp2_with fail
        go_ret
        exact ⟨by show Ending.returned (.bool (decide _)) = _; rw [decide_eq_false (by omega)], rfl⟩
    · obtain rfl : b = false := by rw [Bool.eq_false_iff]; intro e; exact h2 (HB.out.1 e).2.1
      go_enter Tryz.func85, Tryz.ntmps85
      go_wp2_with fail
      go_ret
      exact ⟨rfl, rfl⟩
  · obtain rfl : b = false := by rw [Bool.eq_false_iff]; intro e; exact h1 (HB.out.1 e).1
    go_enter Tryz.func85, Tryz.ntmps85
    go_wp2_with fail
    go_ret
    exact ⟨rfl, rfl⟩

/-- a call gives a rope of these bytes, and a kind -/
def GivesR (w : World) (l : Bs) (k : Int) (e : Ending) (w' : World) : Prop := ∃ v x h, e = .returned (.tuple #[v, .int .i64 k]) ∧ RopeAt w' v x l h ∧ Fr w w' (fun _ => False)
/-- what Splice answers -/
def spliceD (l : Bs) (x y : Int) (s : Bs) : Bs × Int := if InR l x y then (if l.length - (y.toNat - x.toNat) + s.length ≤ 20000 then (repl l x.toNat y.toNat s, 0) else ([], 17)) else ([], 2)
set_option maxHeartbeats 400000 in
theorem Splice_any {w : World} {v r : Value} {l : Bs} {h : Nat} (ro : RopeAt w v r l h) (hl : l.length ≤ 20000) (x y : Int) (s : Bs) (hz : s.length ≤ 20100) (t : Bs) (k : Int) (hs : spliceD l x y s = (t, k)) :
    Calls Tryz.prog 52 #[v, .int .i64 x, .int .i64 y, strV s] w (GivesR w t k) := by
  unfold spliceD at hs
  have hss := str_size s
  by_cases hr : InR l x y
  · rw [if_pos hr] at hs
    have HH := Lib.hid (has_any ro x y true (by simp [hr]))
    have HL := Lib.hid (Len_any ro)
    have HT := Lib.hid (top_any ro)
    obtain ⟨r1, r2, r3⟩ := hr
    obtain ⟨f, rfl⟩ : ∃ f : Nat, x = (f : Int) := ⟨x.toNat, by omega⟩
    obtain ⟨u, rfl⟩ : ∃ u : Nat, y = (u : Int) := ⟨y.toNat, by omega⟩
    simp only [Int.toNat_natCast] at hs
    have w1 : (u : Int) - (f : Int) = ((u - f : Nat) : Int) := by omega
    have b1 : ((u - f : Nat) : Int) ≤ (l.length : Int) := by omega
    by_cases hbig : l.length - (u - f) + s.length ≤ 20000
    · rw [if_pos hbig] at hs
      obtain ⟨rfl, rfl⟩ := Prod.mk.inj hs
      have HX := Lib.hid (replace_any s (f := f) (t := u) ro.1 (by omega) (by omega) (by omega))
      have t1 : ¬ (20000 - ((l.length : Int) - ((u : Int) - (f : Int))) < (s.length : Int)) := by omega
      clear ro hs w1 b1
      go_enter Tryz.func52, Tryz.ntmps52
      go_wp2_with fail
      refine HH.out.mono ?_
      rintro e w' ⟨rfl, rfl⟩
      go_wp2_with fail
      refine HL.out.mono ?_
      rintro e w' ⟨rfl, rfl⟩
      go_wp2_with fail
      refine HT.out.mono ?_
      rintro e w' ⟨rfl, rfl⟩
      go_wp2_with fail
      refine HX.out.mono ?_
      rintro e w' ⟨h5, hf, v5, rfl, n⟩
      have HF := Lib.hid hf
      obtain ⟨a, rfl⟩ := n.addr
      have HN := Lib.hid n
      clear hf n
      go_wp2_with fail
      go_ret2
      exact ⟨_, _, _, rfl, HN.out.made rfl, ff HF.out (Fr.new _ _ _)⟩
    · rw [if_neg hbig] at hs
      obtain ⟨rfl, rfl⟩ := Prod.mk.inj hs
      have t1 : (20000 - ((l.length : Int) - ((u : Int) - (f : Int))) < (s.length : Int)) := by omega
      clear ro hs w1 b1
      go_enter Tryz.func52, Tryz.ntmps52
      go_wp2_with fail
      refine HH.out.mono ?_
      rintro e w' ⟨rfl, rfl⟩
      go_wp2_with fail
      refine HL.out.mono ?_
      rintro e w' ⟨rfl, rfl⟩
      go_wp2_with fail
      go_ret2
      exact ⟨_, _, _, rfl, RopeAt.nil _, Fr.refl _ _⟩
  · rw [if_neg hr] at hs
    obtain ⟨rfl, rfl⟩ := Prod.mk.inj hs
    have HH := Lib.hid (has_any ro x y false (by simp [hr]))
    clear ro hs hr
    go_enter Tryz.func52, Tryz.ntmps52
    go_wp2_with fail
    refine HH.out.mono ?_
    rintro e w' ⟨rfl, rfl⟩
    go_wp2_with fail
    go_ret2
    exact ⟨_, _, _, rfl, RopeAt.nil _, Fr.refl _ _⟩
end Go.Proofs.YtodcnbejnchmhaaGreatDoor.S3
namespace Go.Proofs.YtodcnbejnchmhaaGreatDoor.S3
open Go.RowKit Go.Mem Go.Rope

theorem index_behind : ∀ {l : Bs}, 1 ≤ feeds l → Lib.indexByte l 10 + 1 = (behind l 1 : Int) := by
  have key : ∀ {l : Bs}, 1 ≤ feeds l → 0 ≤ Lib.indexByte l 10 ∧ Lib.indexByte l 10 + 1 = (behind l 1 : Int) := by
    intro l
    induction l with
    | nil => intro h; simp [feeds] at h
    | cons c r ih =>
      intro h
      by_cases hc : c = 10
      · subst hc
        simp [Lib.indexByte, behind, behind_zero]
      · rw [feeds_cons hc] at h
        obtain ⟨h1, h2⟩ := ih h
        have e : (Lib.indexByte r 10 == -1) = false := by simp; omega
        have e2 : (c == 10) = false := by simpa using hc
        simp only [Lib.indexByte, e, e2, behind, if_neg hc]
        simp
        omega
  intro l h
  exact (key h).2
theorem behind_step {l : Bs} {k : Nat} (h : k < feeds l) : behind l (k + 1) = behind l k + behind (l.drop (behind l k)) 1 ∧ 1 ≤ feeds (l.drop (behind l k)) := by
  have hp := (behind_pos h).1
  have hle := behind_le l k
  have hf := feeds_take (l := l) (k := k) (n := behind l k) (by omega) (Nat.le_refl _) (fun _ => hp)
  have happ := List.take_append_drop (behind l k) l
  have hfa := feeds_app (l.take (behind l k)) (l.drop (behind l k))
  rw [happ] at hfa
  refine ⟨?_, by omega⟩
  have hr := behind_right (a := l.take (behind l k)) (k := k + 1) (l.drop (behind l k)) (by omega)
  rw [happ, hf, List.length_take, Nat.min_eq_left hle, show k + 1 - k = 1 by omega] at hr
  exact hr

theorem behindBreak_any {w : World} {B : Nat} {v : Value} {s : Bs} {h : Nat} (n : NodeAt w B v s h) (hh : h = 1) (i : Nat) (hi : i ≤ feeds s) :
    Calls Tryz.prog 93 #[v, .int .i64 (i : Int)] w fun e w' => e = .returned (.int .i64 (behind s i : Int)) ∧ w = w' := by
  obtain ⟨g, rfl, kg, -, hs128, -⟩ := n.one hh
  have c2 := cell_at kg 2
  simp at c2
  have hs := str_size s
  have hfl := feeds_le s
  clear n kg
  go_enter Tryz.func93, Tryz.ntmps93
  go_wp2_with fail
  go_loop [5, 7] (fun v5 v7 => ∃ k : Nat, k ≤ i ∧ v7 = .int .i64 (k : Int) ∧ v5 = .int .i64 (behind s k : Int)) (fun _ v7 => i - (intOf v7).toNat)
  case atStart => exact ⟨0, Nat.zero_le _, rfl, by rw [behind_zero]; rfl⟩
  case round =>
    obtain ⟨k, hk, rfl, rfl⟩ := hrel
    by_cases hlt : k < i
    · have hst := behind_step (l := s) (k := k) (by omega)
      have hix := index_behind hst.2
      have hle := behind_le s k
      have hle2 := behind_le s (k + 1)
      have hst1 := hst.1
      obtain ⟨m, hm⟩ : ∃ m, behind s k = m := ⟨_, rfl⟩
      rw [hm] at hst1 hix hle ⊢
      have HI := Lib.hid (Tryz.strings_IndexByte ((⟨s.toArray⟩ : ByteArray).extract m s.length) 10 w)
      have e : ((⟨s.toArray⟩ : ByteArray).extract m s.length).data.toList = s.drop m := by rw [str_ext, str_list, cut]; simp
      rw [e] at HI
      rw [show (10 : Int).toNat.toUInt8 = 10 from rfl] at HI
      obtain ⟨j, hj⟩ : ∃ j, Lib.indexByte (s.drop m) 10 = j := ⟨_, rfl⟩
      rw [hj] at HI hix
      have HN : Hid ((m : Int) + (j + 1) = (behind s (k + 1) : Int)) := Lib.hid (by omega)
      have HM := Lib.hid hm
      have b0 : (0 : Int) ≤ (m : Int) := by omega
      have b1 : (m : Int) ≤ (s.length : Int) := by omega
      have b2 : -1 ≤ j := by omega
      have b3 : j ≤ 128 := by omega
      have b4 : (m : Int) ≤ 128 := by omega
      clear hst hst1 hix hle hle2 hj e hm
      go_wp2_with fail
      refine HI.out.mono ?_
      rintro e w' ⟨rfl, rfl⟩
      go_wp2_with fail
      go_round
      case rel => exact ⟨k + 1, by omega, by go_num, by rw [← HN.out]⟩
      case measure => simp [intOf]; omega
    · obtain rfl : k = i := by omega
      go_wp2_with fail
      go_ret
      exact ⟨rfl, rfl⟩
end Go.Proofs.YtodcnbejnchmhaaGreatDoor.S3
namespace Go.Proofs.YtodcnbejnchmhaaGreatDoor.S3
open Go.RowKit Go.Mem Go.Rope

theorem take_app_r {a b : Bs} {n : Nat} (h : a.length ≤ n) : feeds ((a ++ b).take n) = feeds a + feeds (b.take (n - a.length)) := by
  rw [List.take_append, List.take_of_length_le h, feeds_app]
/-- how the search goes for a line feed, and for a byte -/
def BInv (l : Bs) (a0 : Nat) (s : Bs) (a d : Nat) : Prop := 1 ≤ a ∧ a ≤ feeds s ∧ behind l a0 = d + behind s a ∧ d + s.length ≤ l.length
def PInv (l : Bs) (a0 : Nat) (s : Bs) (a d : Nat) : Prop := a ≤ s.length ∧ feeds (l.take a0) = d + feeds (s.take a) ∧ d + feeds s ≤ feeds l ∧ s.length ≤ l.length
theorem BInv.left {l sc sd : Bs} {a0 a d : Nat} (h : BInv l a0 (sc ++ sd) a d) (hl : a ≤ feeds sc) : BInv l a0 sc a d := by
  obtain ⟨h1, h2, h3, h4⟩ := h
  rw [behind_left sd hl] at h3
  rw [List.length_append] at h4
  exact ⟨h1, hl, h3, by omega⟩
theorem BInv.right {l sc sd : Bs} {a0 a d : Nat} (h : BInv l a0 (sc ++ sd) a d) (hl : feeds sc < a) : BInv l a0 sd (a - feeds sc) (d + sc.length) := by
  obtain ⟨h1, h2, h3, h4⟩ := h
  rw [behind_right sd hl] at h3
  rw [feeds_app] at h2
  rw [List.length_append] at h4
  exact ⟨by omega, by omega, by omega, by omega⟩
theorem PInv.left {l sc sd : Bs} {a0 a d : Nat} (h : PInv l a0 (sc ++ sd) a d) (hl : a ≤ sc.length) : PInv l a0 sc a d := by
  obtain ⟨h1, h2, h3, h4⟩ := h
  rw [List.take_append_of_le_length hl] at h2
  rw [feeds_app] at h3
  rw [List.length_append] at h4
  exact ⟨hl, h2, by omega, by omega⟩
theorem PInv.right {l sc sd : Bs} {a0 a d : Nat} (h : PInv l a0 (sc ++ sd) a d) (hl : sc.length < a) : PInv l a0 sd (a - sc.length) (d + feeds sc) := by
  obtain ⟨h1, h2, h3, h4⟩ := h
  rw [take_app_r (by omega)] at h2
  rw [feeds_app] at h3
  rw [List.length_append] at h1 h4
  exact ⟨by omega, by omega, by omega, by omega⟩

def SB (w : World) (B : Nat) (l : Bs) (a0 g : Nat) (v0 v1 v10 : Value) (wr : World) : Prop := w = wr ∧ ∃ (s : Bs) (a d : Nat), NodeAt w B v0 s g ∧ v1 = .int .i64 (a : Int) ∧ v10 = .int .i64 (d : Int) ∧ BInv l a0 s a d
def SeekB (w : World) (B : Nat) (l : Bs) (a0 : Nat) (e : Ending) (w' : World) : Prop := ∃ (v : Value) (s : Bs) (a d g : Nat), e = .returned (.tuple #[v, .int .i64 (a : Int), .int .i64 (d : Int)]) ∧ NodeAt w B v s g ∧ g ≤ 1 ∧ BInv l a0 s a d ∧ w = w'
set_option maxHeartbeats 1000000 in
theorem seekB_any {w : World} {B : Nat} {v : Value} {l : Bs} {h : Nat} (n : NodeAt w B v l h) (hl : l.length ≤ 100000) (a0 : Nat) (hi : BInv l a0 l a0 0) :
    Calls Tryz.prog 91 #[v, .int .i64 (a0 : Int), .func (.func 87) #[] #[], .func (.func 92) #[] #[]] w (SeekB w B l a0) := by
  have HN := Lib.hid n
  have HI := Lib.hid hi
  have hfl := feeds_le l
  clear n hi
  go_enter Tryz.func91, Tryz.ntmps91
  go_wp2_with fail
  go_loopg [0, 1, 10] h (fun g v0 v1 v10 wr => SB w B l a0 g v0 v1 v10 wr)
  case atStart => exact ⟨rfl, l, a0, 0, HN.out, rfl, rfl, HI.out⟩
  case round =>
    obtain ⟨rfl, s, a, d, n, rfl, rfl, hinv⟩ := hrel
    have HH := Lib.hid (height_any n)
    by_cases hg : gk ≤ 1
    · have t1 : ¬ ((gk : Int) > 1) := by omega
      have HN1 := Lib.hid n
      have HV := Lib.hid hinv
      clear n hinv
      go_wp2_with fail
      refine HH.out.mono ?_
      rintro e w' ⟨rfl, rfl⟩
      go_wp2_with fail
      go_ret3
      exact ⟨_, s, a, d, gk, rfl, HN1.out, hg, HV.out, rfl⟩
    · obtain ⟨g, gc, gd, sc, sd, hc, hd, rfl, rfl, e4, kg, nc, nd, i1, i2, i3, i4, -⟩ := n.two (by omega)
      have c0 := cell_at kg 0
      have c1 := cell_at kg 1
      simp at c0 c1
      have t1 : ((gk : Int) > 1) := by omega
      have HB := Lib.hid (breaks_any nc)
      have HO := Lib.hid (bytes_any nc)
      have HC := Lib.hid nc
      have HD := Lib.hid nd
      have hb1 : feeds (sc ++ sd) ≤ 100000 ∧ feeds sc ≤ 100000 ∧ sc.length ≤ 100000 ∧ a ≤ 100000 ∧ d ≤ 100000 := by
        have x1 := feeds_le sc
        have x2 := feeds_le (sc ++ sd)
        have x3 := feeds_app sc sd
        have x4 := hinv
        unfold BInv at x4
        rw [List.length_append] at *
        omega
      obtain ⟨p, hp⟩ : ∃ p : Nat, p = feeds sc := ⟨_, rfl⟩
      obtain ⟨q, hq⟩ : ∃ q : Nat, q = sc.length := ⟨_, rfl⟩
      rw [← hp] at HB hb1
      rw [← hq] at HO hb1
      obtain ⟨y1, y2, y3, y4, y5⟩ := hb1
      have HE := Lib.hid e4
      by_cases hle : a ≤ p
      · have t2 : ((a : Int) ≤ (p : Int)) := by omega
        have HV := Lib.hid (hinv.left (hp ▸ hle))
        clear n hinv kg nc nd e4 hp hq hg y1 hle
        go_wp2_with fail
        refine HH.out.mono ?_
        rintro e w' ⟨rfl, rfl⟩
        go_wp2_with fail
        refine HB.out.mono ?_
        rintro e w' ⟨rfl, rfl⟩
        go_wp2_with fail
        go_roundg hc
        case rel => exact ⟨rfl, sc, a, d, HC.out, rfl, rfl, HV.out⟩
        case measure => have := HE.out; omega
      · have t2 : ¬ ((a : Int) ≤ (p : Int)) := by omega
        have HV := Lib.hid (hinv.right (hp ▸ (show p < a by omega)))
        rw [← hp, ← hq] at HV
        have w1 : ((a - p : Nat) : Int) = (a : Int) - (p : Int) := by omega
        have W1 := Lib.hid w1
        have b1 : (p : Int) ≤ 100000 := by omega
        have b2 : (q : Int) ≤ 100000 := by omega
        have b3 : (a : Int) ≤ 100000 := by omega
        have b4 : (d : Int) ≤ 100000 := by omega
        clear n hinv kg nc nd e4 hp hq hg hle w1
        go_wp2_with fail
        refine HH.out.mono ?_
        rintro e w' ⟨rfl, rfl⟩
        go_wp2_with fail
        refine HB.out.mono ?_
        rintro e w' ⟨rfl, rfl⟩
        go_wp2_with fail
        refine HB.out.mono ?_
        rintro e w' ⟨rfl, rfl⟩
        go_wp2_with fail
        refine HO.out.mono ?_
        rintro e w' ⟨rfl, rfl⟩
        go_wp2_with fail
        go_roundg hd
        case rel => exact ⟨rfl, sd, a - p, d + q, HD.out, by rw [W1.out], by push_cast; rfl, HV.out⟩
        case measure => have := HE.out; omega

end Go.Proofs.YtodcnbejnchmhaaGreatDoor.S3
namespace Go.Proofs.YtodcnbejnchmhaaGreatDoor.S3
open Go.RowKit Go.Mem Go.Rope

theorem begin_any {w : World} {v x : Value} {l : Bs} {h : Nat} (r : RopeAt w v x l h) (hl : l.length ≤ 20000) (i : Nat) (hi : i ≤ feeds l) :
    Calls Tryz.prog 56 #[v, .int .i64 (i : Int)] w fun e w' => e = .returned (.int .i64 (behind l i : Int)) ∧ w = w' := by
  rcases Nat.eq_zero_or_pos i with h0 | h0
  · subst h0
    rw [behind_zero]
    clear r
    go_enter Tryz.func56, Tryz.ntmps56
    go_wp2_with fail
    go_ret
    exact ⟨rfl, rfl⟩
  · have HT := Lib.hid (top_any r)
    have HS := Lib.hid (seekB_any r.1 (by omega) i ⟨h0, hi, by omega, by omega⟩)
    have t0 : ((i : Int) == 0) = false := by simp; omega
    have hbl := behind_le l i
    clear r
    go_enter Tryz.func56, Tryz.ntmps56
    go_wp2_with fail
    refine HT.out.mono ?_
    rintro e w' ⟨rfl, rfl⟩
    go_wp2_with fail
    refine HS.out.mono ?_
    rintro e w' ⟨v2, s, a, d, g, rfl, n, hg, ⟨k1, k2, k3, k4⟩, rfl⟩
    have hg1 : g = 1 := by
      have := n.zero
      rcases Nat.eq_zero_or_pos g with e | e
      · have e2 := this.1 e
        rw [e2] at k2
        simp [feeds] at k2
        omega
      · omega
    have HB := Lib.hid (behindBreak_any n hg1 a k2)
    have HK := Lib.hid k3
    have b1 := behind_le s a
    have b2 : (d : Int) ≤ 20000 := by omega
    have b3 : (behind s a : Int) ≤ 20000 := by omega
    clear n k3 k2 k4 b1
    go_wp2_with fail
    refine HB.out.mono ?_
    rintro e w' ⟨rfl, rfl⟩
    go_wp2_with fail
    go_ret
    exact ⟨by rw [HK.out]; push_cast; rfl, rfl⟩
theorem end_any {w : World} {v x : Value} {l : Bs} {h : Nat} (r : RopeAt w v x l h) (hl : l.length ≤ 20000) (i : Nat) (hi : i ≤ feeds l) :
    Calls Tryz.prog 57 #[v, .int .i64 (i : Int)] w fun e w' => e = .returned (.int .i64 (endOf l i : Int)) ∧ w = w' := by
  have HL := Lib.hid (Lines_any r hl)
  have HN := Lib.hid (Len_any r)
  have hfl := feeds_le l
  rcases Nat.eq_or_lt_of_le hi with e | e
  · have HE := Lib.hid (show endOf l i = l.length by unfold endOf; rw [if_pos e])
    have t0 : ((i : Int) == (feeds l : Int)) = true := by simp; omega
    clear r
    go_enter Tryz.func57, Tryz.ntmps57
    go_wp2_with fail
    refine HL.out.mono ?_
    rintro e w' ⟨rfl, rfl⟩
    go_wp2_with fail
    refine HN.out.mono ?_
    rintro e w' ⟨rfl, rfl⟩
    go_wp2_with fail
    go_ret
    exact ⟨by rw [HE.out]; rfl, rfl⟩
  · have hp := (behind_pos e).1
    have hb := behind_le l (i + 1)
    have HE := Lib.hid (show (endOf l i : Int) = (behind l (i + 1) : Int) - 1 by unfold endOf; rw [if_neg (by omega)]; omega)
    have HB : Hid (∀ z : Int, z = ((i + 1 : Nat) : Int) → Calls Tryz.prog 56 #[v, .int .i64 z] w fun e w' => e = .returned (.int .i64 (behind l (i + 1) : Int)) ∧ w = w') := Lib.hid (by rintro z rfl; exact begin_any r hl (i + 1) (by omega))
    have t0 : ((i : Int) == (feeds l : Int)) = false := by simp; omega
    have b1 : (behind l (i + 1) : Int) ≤ 20000 := by omega
    have b2 : (i : Int) ≤ 20000 := by omega
    clear r hp
    go_enter Tryz.func57, Tryz.ntmps57
    go_wp2_with fail
    refine HL.out.mono ?_
    rintro e w' ⟨rfl, rfl⟩
    go_wp2_with fail
    refine (HB.out _ (by first | omega | (push_cast; rfl) | (simp; omega))).mono ?_
    rintro e w' ⟨rfl, rfl⟩
    go_wp2_with fail
    go_ret
    exact ⟨by rw [HE.out]; rfl, rfl⟩

/-- what Line, Offset, Place answer -/
def lineD (l : Bs) (i : Int) : Bs × Int := if 0 ≤ i ∧ i ≤ (feeds l : Int) then (cut l (behind l i.toNat) (endOf l i.toNat), 0) else ([], 2)
def offsetD (l : Bs) (i c : Int) : Int × Int := if 0 ≤ i ∧ i ≤ (feeds l : Int) ∧ 0 ≤ c ∧ c ≤ (endOf l i.toNat : Int) - (behind l i.toNat : Int) then ((behind l i.toNat : Int) + c, 0) else (0, 2)
theorem Line_any {w : World} {v x : Value} {l : Bs} {h : Nat} (r : RopeAt w v x l h) (hl : l.length ≤ 20000) (i : Int) (s : Bs) (k : Int) (hs : lineD l i = (s, k)) :
    Calls Tryz.prog 34 #[v, .int .i64 i] w fun e w' => e = .returned (.tuple #[strV s, .int .i64 k]) ∧ Fr w w' (fun _ => False) := by
  unfold lineD at hs
  have HL := Lib.hid (Lines_any r hl)
  have HT := Lib.hid (top_any r)
  have hfl := feeds_le l
  by_cases h0 : 0 ≤ i
  · obtain ⟨n, rfl⟩ : ∃ n : Nat, i = (n : Int) := ⟨i.toNat, by omega⟩
    by_cases h1 : n ≤ feeds l
    · rw [if_pos ⟨h0, by omega⟩, Int.toNat_natCast] at hs
      obtain ⟨rfl, rfl⟩ := Prod.mk.inj hs
      have hbe := begin_end h1
      have hel := endOf_le l n
      have HB := Lib.hid (begin_any r hl n h1)
      have HE := Lib.hid (end_any r hl n h1)
      have HX := Lib.hid (text_any r.1 hbe hel (by omega))
      generalize cut l (behind l n) (endOf l n) = c at HX ⊢
      have t1 : ¬ ((n : Int) ≥ ((feeds l + 1 : Nat) : Int)) := by omega
      have t2 : ¬ (feeds l + 1 ≤ n) := by omega
      clear r hs
      go_enter Tryz.func34, Tryz.ntmps34
      go_wp2_with fail
      refine HL.out.mono ?_
      rintro e w' ⟨rfl, rfl⟩
      go_wp2_with fail
      refine HT.out.mono ?_
      rintro e w' ⟨rfl, rfl⟩
      go_wp2_with fail
      refine HB.out.mono ?_
      rintro e w' ⟨rfl, rfl⟩
      go_wp2_with fail
      refine HE.out.mono ?_
      rintro e w' ⟨rfl, rfl⟩
      go_wp2_with fail
      refine HX.out.mono ?_
      rintro e w' ⟨rfl, hf⟩
      have HF := Lib.hid hf
      clear hf
      go_wp2_with fail
      go_ret2
      exact ⟨rfl, HF.out⟩
    · rw [if_neg (by omega)] at hs
      obtain ⟨rfl, rfl⟩ := Prod.mk.inj hs
      have t1 : ((n : Int) ≥ ((feeds l + 1 : Nat) : Int)) := by omega
      have t2 : feeds l + 1 ≤ n := by omega
      clear r hs
      go_enter Tryz.func34, Tryz.ntmps34
      go_wp2_with fail
      refine HL.out.mono ?_
      rintro e w' ⟨rfl, rfl⟩
      go_wp2_with fail
      go_ret2
      exact ⟨rfl, Fr.refl _ _⟩
  · rw [if_neg (by omega)] at hs
    obtain ⟨rfl, rfl⟩ := Prod.mk.inj hs
    have t0 : i < 0 := by omega
    clear r hs h0
    go_enter Tryz.func34, Tryz.ntmps34
    go_wp2_with fail
    go_ret2
    exact ⟨rfl, Fr.refl _ _⟩

theorem Offset_any {w : World} {v x : Value} {l : Bs} {h : Nat} (r : RopeAt w v x l h) (hl : l.length ≤ 20000) (i c : Int) (o k : Int) (hs : offsetD l i c = (o, k)) :
    Calls Tryz.prog 51 #[v, .int .i64 i, .int .i64 c] w fun e w' => e = .returned (.tuple #[.int .i64 o, .int .i64 k]) ∧ w = w' := by
  unfold offsetD at hs
  have HL := Lib.hid (Lines_any r hl)
  have hfl := feeds_le l
  by_cases h0 : 0 ≤ i
  · obtain ⟨n, rfl⟩ : ∃ n : Nat, i = (n : Int) := ⟨i.toNat, by omega⟩
    simp only [Int.toNat_natCast] at hs
    by_cases h1 : n ≤ feeds l
    · have hbe := begin_end h1
      have hel := endOf_le l n
      have HB := Lib.hid (begin_any r hl n h1)
      have HE := Lib.hid (end_any r hl n h1)
      have t1 : ¬ ((n : Int) ≥ ((feeds l + 1 : Nat) : Int)) := by omega
      have t2 : ¬ (feeds l + 1 ≤ n) := by omega
      generalize behind l n = b at *
      generalize endOf l n = z at *
      have b1 : (b : Int) ≤ 20000 := by omega
      have b2 : (z : Int) ≤ 20000 := by omega
      by_cases hc : 0 ≤ c
      · by_cases hz : c ≤ (z : Int) - (b : Int)
        · rw [if_pos ⟨h0, by omega, hc, hz⟩] at hs
          obtain ⟨rfl, rfl⟩ := Prod.mk.inj hs
          have t3 : ¬ (c < 0) := by omega
          clear r hs hbe hel
          go_enter Tryz.func51, Tryz.ntmps51
          go_wp2_with fail
          refine HL.out.mono ?_
          rintro e w' ⟨rfl, rfl⟩
          go_wp2_with fail
          refine HB.out.mono ?_
          rintro e w' ⟨rfl, rfl⟩
          go_wp2_with fail
          refine HE.out.mono ?_
          rintro e w' ⟨rfl, rfl⟩
          go_wp2_with fail
          go_ret2
          exact ⟨rfl, rfl⟩
        · rw [if_neg (by omega)] at hs
          obtain ⟨rfl, rfl⟩ := Prod.mk.inj hs
          have t3 : ¬ (c < 0) := by omega
          clear r hs hbe hel
          go_enter Tryz.func51, Tryz.ntmps51
          go_wp2_with fail
          refine HL.out.mono ?_
          rintro e w' ⟨rfl, rfl⟩
          go_wp2_with fail
          refine HB.out.mono ?_
          rintro e w' ⟨rfl, rfl⟩
          go_wp2_with fail
          refine HE.out.mono ?_
          rintro e w' ⟨rfl, rfl⟩
          go_wp2_with fail
          go_ret2
          exact ⟨rfl, rfl⟩
      · rw [if_neg (by omega)] at hs
        obtain ⟨rfl, rfl⟩ := Prod.mk.inj hs
        have t3 : c < 0 := by omega
        clear r hs hbe hel hc
        go_enter Tryz.func51, Tryz.ntmps51
        go_wp2_with fail
        refine HL.out.mono ?_
        rintro e w' ⟨rfl, rfl⟩
        go_wp2_with fail
        refine HB.out.mono ?_
        rintro e w' ⟨rfl, rfl⟩
        go_wp2_with fail
        go_ret2
        exact ⟨rfl, rfl⟩
    · rw [if_neg (by omega)] at hs
      obtain ⟨rfl, rfl⟩ := Prod.mk.inj hs
      have t1 : ((n : Int) ≥ ((feeds l + 1 : Nat) : Int)) := by omega
      have t2 : feeds l + 1 ≤ n := by omega
      clear r hs
      go_enter Tryz.func51, Tryz.ntmps51
      go_wp2_with fail
      refine HL.out.mono ?_
      rintro e w' ⟨rfl, rfl⟩
      go_wp2_with fail
      go_ret2
      exact ⟨rfl, rfl⟩
  · rw [if_neg (by omega)] at hs
    obtain ⟨rfl, rfl⟩ := Prod.mk.inj hs
    have t0 : i < 0 := by omega
    clear r hs h0
    go_enter Tryz.func51, Tryz.ntmps51
    go_wp2_with fail
    go_ret2
    exact ⟨rfl, rfl⟩

end Go.Proofs.YtodcnbejnchmhaaGreatDoor.S3
namespace Go.Proofs.YtodcnbejnchmhaaGreatDoor.S3
open Go.RowKit Go.Mem Go.Rope

set_option maxHeartbeats 400000 in
theorem rSplice_any (l : Bs) (x y : Int) (s : Bs) (w : World) (hl : l.length ≤ 20000) (hz : s.length ≤ 20100) (t : Bs) (k : Int) (hs : spliceD l x y s = (t, k)) :
    Calls Tryz.prog 31 #[strV l, .int .i64 x, .int .i64 y, strV s] w fun e w' => e = .returned (.tuple #[strV t, .int .i64 k]) ∧ Fr w w' (fun _ => False) := by
  unfold spliceD at hs
  have hzl := str_size l
  have hzs := str_size s
  by_cases hr : InR l x y
  · rw [if_pos hr] at hs
    obtain ⟨r1, r2, r3⟩ := hr
    obtain ⟨f, rfl⟩ : ∃ f : Nat, x = (f : Int) := ⟨x.toNat, by omega⟩
    obtain ⟨u, rfl⟩ : ∃ u : Nat, y = (u : Int) := ⟨y.toNat, by omega⟩
    simp only [Int.toNat_natCast] at hs
    have t1 : ¬ ((f : Int) < 0) := by omega
    have t2 : ¬ ((f : Int) > (u : Int)) := by omega
    have t3 : ¬ ((u : Int) > (l.length : Int)) := by omega
    have t4 : ¬ (u < f) := by omega
    have t5 : ¬ (l.length < u) := by omega
    by_cases hbig : l.length - (u - f) + s.length ≤ 20000
    · rw [if_pos hbig] at hs
      obtain ⟨rfl, rfl⟩ := Prod.mk.inj hs
      have e1 : ((⟨l.toArray⟩ : ByteArray).extract 0 f).size = f := by rw [str_ext, str_size, cut_len (by omega) (by omega)]; omega
      have e2 : ((⟨l.toArray⟩ : ByteArray).extract u l.length).size = l.length - u := by rw [str_ext, str_size, cut_len (by omega) (by omega)]
      have a1 := fun w => run_string_add_sum (P := Tryz.prog) w ((⟨l.toArray⟩ : ByteArray).extract 0 f) ⟨s.toArray⟩ (by rw [e1, hzs]; omega)
      have a2 := fun w => run_string_add_sum (P := Tryz.prog) w ((⟨l.toArray⟩ : ByteArray).extract 0 f ++ ⟨s.toArray⟩) ((⟨l.toArray⟩ : ByteArray).extract u l.length) (by rw [ByteArray.size_append, e1, e2, hzs]; omega)
      have HE := Lib.hid (show strV (repl l f u s) = .string ((⟨l.toArray⟩ : ByteArray).extract 0 f ++ ⟨s.toArray⟩ ++ (⟨l.toArray⟩ : ByteArray).extract u l.length) by rw [str_ext, str_ext, str_app, str_app]; simp [repl, cut])
      have t6 : ¬ ((s.length : Int) > 20000) := by omega
      have t6' : ¬ (20000 < (s.length : Int)) := by omega
      have t7 : ¬ (20000 - (s.length : Int) < (l.length : Int) - ((u : Int) - (f : Int))) := by omega
      have i0 : (0 : Int) ≤ (f : Int) := by omega
      have i1 : (f : Int) ≤ (l.length : Int) := by omega
      have i2 : (0 : Int) ≤ (u : Int) := by omega
      have i3 : (u : Int) ≤ (l.length : Int) := by omega
      clear hs e1 e2
      go_enter Tryz.func31, Tryz.ntmps31
      go_wp2_with fail
      go_quiet (fail)
      go_wp2_with fail
      go_ret2
      exact ⟨by rw [HE.out]; rfl, Fr.drewN _ _ _⟩
    · rw [if_neg hbig] at hs
      obtain ⟨rfl, rfl⟩ := Prod.mk.inj hs
      clear hs
      by_cases h6 : 20000 < (s.length : Int)
      · go_enter Tryz.func31, Tryz.ntmps31
        go_wp2_with fail
        go_ret2
        exact ⟨rfl, Fr.refl _ _⟩
      · have t7 : (20000 - (s.length : Int) < (l.length : Int) - ((u : Int) - (f : Int))) := by omega
        go_enter Tryz.func31, Tryz.ntmps31
        go_wp2_with fail
        go_ret2
        exact ⟨rfl, Fr.refl _ _⟩
  · rw [if_neg hr] at hs
    obtain ⟨rfl, rfl⟩ := Prod.mk.inj hs
    unfold InR at hr
    clear hs
    by_cases h1 : x < 0
    · go_enter Tryz.func31, Tryz.ntmps31
      go_wp2_with fail
      go_ret2
      exact ⟨rfl, Fr.refl _ _⟩
    · by_cases h2 : y < x
      · go_enter Tryz.func31, Tryz.ntmps31
        go_wp2_with fail
        go_ret2
        exact ⟨rfl, Fr.refl _ _⟩
      · have h3 : (l.length : Int) < y := by omega
        clear hr
        go_enter Tryz.func31, Tryz.ntmps31
        go_wp2_with fail
        go_ret2
        exact ⟨rfl, Fr.refl _ _⟩

theorem World.ownsRow.keepNew {w : World} {base : Nat} {e : TypeId} {size n : Nat} {v : Value} {xs : List Value} (h : w.ownsRow base e size v n xs) (o : Obj) : (w.alloc o).ownsRow base e size v n xs := (Fr.new w o (fun _ => False)).own h (fun _ _ h => h)
/-- the slice v is the call's own and holds these texts -/
def Strs (w : World) (base : Nat) (v : Value) (vs : List Bs) : Prop := w.ownsRow base 9 1 v vs.length (vs.map strV)
theorem strs_next {l : Bs} {f i : Nat} {done : List Bs} (h1 : f ≤ i) (h2 : l[i]? = some 10) (hd : linesL l = done ++ linesL (l.drop f)) (h0 : feeds (cut l f i) = 0) :
    linesL l = (done ++ [cut l f i]) ++ linesL (l.drop (i + 1)) ∧ feeds (cut l (i + 1) (i + 1)) = 0 := by
  obtain ⟨h3, h4⟩ := List.getElem?_eq_some_iff.1 h2
  have e : l.drop f = cut l f i ++ 10 :: l.drop (i + 1) := by
    have e1 := List.take_append_drop (i - f) (l.drop f)
    rw [List.drop_drop, show f + (i - f) = i by omega, ← cut_eq, List.drop_eq_getElem_cons h3, h4] at e1
    exact e1.symm
  refine ⟨?_, by simp [cut_eq, feeds]⟩
  rw [hd, e, lines_cut h0]
  simp
theorem strs_same {l : Bs} {f i : Nat} {c : UInt8} (h1 : f ≤ i) (h2 : l[i]? = some c) (hc : c ≠ 10) (h0 : feeds (cut l f i) = 0) : feeds (cut l f (i + 1)) = 0 := by
  obtain ⟨h3, h4⟩ := List.getElem?_eq_some_iff.1 h2
  have e : cut l f (i + 1) = cut l f i ++ [c] := by
    rw [cut, List.take_succ_eq_append_getElem h3, h4, List.drop_append_of_le_length (by rw [List.length_take]; omega)]
    rfl
  rw [e, feeds_app, h0]
  simp [feeds, hc]
def LinesOf (w : World) (l : Bs) (e : Ending) (w' : World) : Prop := ∃ v, e = .returned v ∧ Strs w' w.heap.size v (linesL l) ∧ Fr w w' (fun _ => False)
def LInv (w : World) (l : Bs) (v3 v4 v5 : Value) (wr : World) : Prop := ∃ (i f : Nat) (done : List Bs), f ≤ i ∧ i ≤ l.length ∧ v5 = .int .i64 (i : Int) ∧ v4 = .int .i64 (f : Int) ∧ Strs wr w.heap.size v3 done ∧
  linesL l = done ++ linesL (l.drop f) ∧ feeds (cut l f i) = 0 ∧ done.length ≤ i ∧ Fr w wr (fun _ => False)
set_option maxHeartbeats 1000000 in
theorem rLines_any (l : Bs) (w : World) (hl : l.length ≤ 20000) : Calls Tryz.prog 25 #[strV l] w (LinesOf w l) := by
  have hz := str_size l
  go_enter Tryz.func25, Tryz.ntmps25
  go_wp2_with fail
  go_loopw [3, 4, 5] (fun v3 v4 v5 wr => LInv w l v3 v4 v5 wr) (fun _ _ v5 _ => l.length - (intOf v5).toNat)
  case atStart => exact ⟨0, 0, [], Nat.le_refl _, Nat.zero_le _, rfl, rfl, ⟨rfl, .inr ⟨w.heap.size, 0, #[], rfl, Nat.le_refl _, heap_alloc_new w _, Nat.le_refl _, by unfold maxLen; omega, rfl, rfl⟩⟩, by simp, by simp [cut, feeds], by simp, Fr.new _ _ _⟩
  case round =>
    obtain ⟨i, f, done, hfi, hil, rfl, rfl, hown, hd, h0, hdl, hf⟩ := hrel
    obtain ⟨i0, hi0, hz0, hz1, hz2⟩ := info_parts infoS
    have HO := Lib.hid hown
    have HF := Lib.hid hf
    have HD := Lib.hid hd
    have H0 := Lib.hid h0
    have hws := hf.size
    obtain ⟨A3, c3, rfl⟩ := own_slice hown
    clear hown hd h0 hf
    have b0 : (0 : Int) ≤ (f : Int) := by omega
    have b1 : (f : Int) ≤ (i : Int) := by omega
    have b2 : (i : Int) ≤ (l.length : Int) := by omega
    by_cases hlt : i < l.length
    · have hlt' : i < (⟨l.toArray⟩ : ByteArray).size := by rw [hz]; exact hlt
      have hget : (⟨l.toArray⟩ : ByteArray)[i]'hlt' = l[i]'hlt := rfl
      have hget? : l[i]? = some (l[i]'hlt) := List.getElem?_eq_getElem hlt
      obtain ⟨c, hc⟩ : ∃ c, l[i]'hlt = c := ⟨_, rfl⟩
      rw [hc] at hget hget?
      by_cases hc10 : c = 10
      · subst hc10
        have e10 : (((((⟨l.toArray⟩ : ByteArray)[i]'hlt').toNat : Nat) : Int) == 10) = true := by rw [hget]; rfl
        have HS := Lib.hid (strs_next hfi hget? HD.out H0.out)
        have HS5 := Lib.hid (World.ownsRow.keepNew HO.out (.cells #[.string ((⟨l.toArray⟩ : ByteArray).extract f i)] 9))
        have HCE := Lib.hid (show Value.string ((⟨l.toArray⟩ : ByteArray).extract f i) = strV (cut l f i) by rw [str_ext])
        clear hget hget? hc
        go_wp2_with (at_builtin; refine wpList_append_rd _ rfl (.tmp 17) (.tmp 22) 75 rfl w.heap.size 9 i0 _ 1 16 Tryz.underlying75 hi0 hz0 hz1 hz2 rfl (by decide) _ _ _ rfl HS5.out _ 1 1 [.string ((⟨l.toArray⟩ : ByteArray).extract f i)] rfl (rd_new wr 9 (0, 0) [.string ((⟨l.toArray⟩ : ByteArray).extract f i)]) (by intro u hu; simp at hu; subst hu; rfl) (by simp only [maxLen]; omega) (by omega) (by simp; omega) ?_; intro v6 w6 hown6 hg6 _)
        have hf6 := ((Fr.new wr (.cells #[.string ((⟨l.toArray⟩ : ByteArray).extract f i)] 9) (fun _ => False))).trans (Fr.ofGrown hg6) (U := fun k => w.heap.size ≤ k) (fun _ _ h => h.elim) (fun k _ e => (HS5.out.lt k e.symm).1)
        have HF6 := Lib.hid (HF.out.fresh hf6 (fun k hk => hk))
        have HO6 := Lib.hid hown6
        clear hf6 hown6 hg6
        go_wp2_with fail
        go_roundw
        case measure => simp [intOf]; omega
        case rel =>
          refine ⟨i + 1, i + 1, done ++ [cut l f i], Nat.le_refl _, by omega, by go_num, by go_num, ?_, HS.out.1, HS.out.2, by simp; omega, HF6.out⟩
          have := HO6.out
          rw [HCE.out] at this
          show World.ownsRow _ _ _ _ _ _ _
          simpa using this
      · have e10 : (((((⟨l.toArray⟩ : ByteArray)[i]'hlt').toNat : Nat) : Int) == 10) = false := by
          rw [hget, beq_eq_false_iff_ne]
          intro e
          exact hc10 (UInt8.toNat_inj.1 (by have : (10 : UInt8).toNat = 10 := rfl; omega))
        have HS := Lib.hid (strs_same hfi hget? hc10 H0.out)
        clear hget hget? hc
        go_wp2_with fail
        go_roundw
        case measure => simp [intOf]; omega
        case rel => exact ⟨i + 1, f, done, by omega, by omega, by go_num, rfl, HO.out, HD.out, HS.out, by omega, HF.out⟩
    · have hil' : i = l.length := by omega
      have HS := Lib.hid (show linesL l = done ++ [l.drop f] by
        rw [HD.out, lines_one (x := l.drop f)]
        have := H0.out
        rw [hil', cut_eq] at this
        rwa [List.take_of_length_le (by rw [List.length_drop]; omega)] at this)
      have HS5 := Lib.hid (World.ownsRow.keepNew HO.out (.cells #[.string ((⟨l.toArray⟩ : ByteArray).extract f l.length)] 9))
      have HCE := Lib.hid (show Value.string ((⟨l.toArray⟩ : ByteArray).extract f l.length) = strV (l.drop f) by rw [str_ext, cut_eq, List.take_of_length_le (by rw [List.length_drop]; omega)])
      go_wp2_with (at_builtin; refine wpList_append_rd _ rfl (.tmp 26) (.tmp 30) 75 rfl w.heap.size 9 i0 _ 1 16 Tryz.underlying75 hi0 hz0 hz1 hz2 rfl (by decide) _ _ _ rfl HS5.out _ 1 1 [.string ((⟨l.toArray⟩ : ByteArray).extract f l.length)] rfl (rd_new wr 9 (0, 0) [.string ((⟨l.toArray⟩ : ByteArray).extract f l.length)]) (by intro u hu; simp at hu; subst hu; rfl) (by simp only [maxLen]; omega) (by omega) (by simp; omega) ?_; intro v6 w6 hown6 hg6 _)
      have hf6 := ((Fr.new wr (.cells #[.string ((⟨l.toArray⟩ : ByteArray).extract f l.length)] 9) (fun _ => False))).trans (Fr.ofGrown hg6) (U := fun k => w.heap.size ≤ k) (fun _ _ h => h.elim) (fun k _ e => (HS5.out.lt k e.symm).1)
      have HF6 := Lib.hid (HF.out.fresh hf6 (fun k hk => hk))
      have HO6 := Lib.hid hown6
      clear hf6 hown6 hg6
      go_wp2_with fail
      go_ret
      refine ⟨_, rfl, ?_, HF6.out⟩
      have := HO6.out
      rw [HCE.out] at this
      show World.ownsRow _ _ _ _ _ _ _
      rw [HS.out]
      simpa using this
end Go.Proofs.YtodcnbejnchmhaaGreatDoor.S3
namespace Go.Proofs.YtodcnbejnchmhaaGreatDoor.S3
open Go.RowKit Go.Mem Go.Rope

theorem strs_rd {w : World} {B : Nat} {v : Value} {vs : List Bs} (h : Strs w B v vs) : ∃ A c, v = .slice A vs.length c ∧ vs.length ≤ c ∧ c ≤ maxLen ∧ Rd w 1 A vs.length (vs.map strV) := by
  obtain ⟨A, c, h1, h2, h3, h4, -⟩ := own_rd h
  exact ⟨A, c, h1, h2, h3, h4⟩
theorem strs_at {w : World} {A : Option Addr} {n : Nat} {ls : List Bs} (h : Rd w 1 A n (ls.map strV)) {k : Nat} (hk : k < n) :
    ∃ b off x, A = some ⟨b, off, none⟩ ∧ ls[k]? = some x ∧ w.cell? ⟨b, off + k, none⟩ = some (strV x) := by
  obtain ⟨b, off, u, e, hu, hc⟩ := h.at_ hk
  rw [List.getElem?_map] at hu
  obtain ⟨x, hx, rfl⟩ := Option.map_eq_some_iff.1 hu
  exact ⟨b, off, x, e, hx, hc⟩

set_option maxHeartbeats 1000000 in
theorem rOffset_any (l : Bs) (i c : Int) (w : World) (hl : l.length ≤ 20000) (o k : Int) (hs : offsetD l i c = (o, k)) :
    Calls Tryz.prog 30 #[strV l, .int .i64 i, .int .i64 c] w fun e w' => e = .returned (.tuple #[.int .i64 o, .int .i64 k]) ∧ Fr w w' (fun _ => False) := by
  unfold offsetD at hs
  have HL := Lib.hid (rLines_any l w hl)
  have hfl := feeds_le l
  have hll := lines_len l
  by_cases h0 : 0 ≤ i
  · obtain ⟨n, rfl⟩ : ∃ n : Nat, i = (n : Int) := ⟨i.toNat, by omega⟩
    simp only [Int.toNat_natCast] at hs
    have t0 : ¬ ((n : Int) < 0) := by omega
    by_cases h1 : n ≤ feeds l
    · have hbe := begin_end h1
      have hel := endOf_le l n
      have hla := line_at h1
      have hcl := cut_len hbe hel
      have HNX := Lib.hid (fun (k : Nat) (h : k < feeds l) => line_next h)
      have HBL := Lib.hid (fun k => behind_le l k)
      by_cases hc : 0 ≤ c
      · have t1 : ¬ (c < 0) := by omega
        by_cases hz : c ≤ (endOf l n : Int) - (behind l n : Int)
        · rw [if_pos ⟨h0, by omega, hc, hz⟩] at hs
          obtain ⟨rfl, rfl⟩ := Prod.mk.inj hs
          clear hs
          go_enter Tryz.func30, Tryz.ntmps30
          go_wp2_with fail
          refine HL.out.mono ?_
          rintro e w2 ⟨v, rfl, hstr, hf⟩
          obtain ⟨A, cp, rfl, -, -, hrd⟩ := strs_rd hstr
          obtain ⟨b, off, x, rfl, hx, hcell⟩ := strs_at hrd (k := n) (by omega)
          rw [hla] at hx
          obtain rfl := Option.some.inj hx
          have HLA := Lib.hid hla
          have HCL := Lib.hid hcl
          rw [hll] at hrd ⊢
          have hsx := str_size (cut l (behind l n) (endOf l n))
          rw [hcl] at hsx
          have HF := Lib.hid hf
          have HRD := Lib.hid hrd
          have t2 : ¬ ((n : Int) ≥ ((feeds l + 1 : Nat) : Int)) := by omega
          have t3 : ¬ (feeds l + 1 ≤ n) := by omega
          have i0 : (0 : Int) ≤ (n : Int) := by omega
          have i1 : (n : Int) < ((feeds l + 1 : Nat) : Int) := by omega
          generalize cut l (behind l n) (endOf l n) = x at hcell hsx HLA HCL
          obtain ⟨xl, hxl⟩ : ∃ xl : Nat, xl = endOf l n - behind l n := ⟨_, rfl⟩
          rw [← hxl] at hsx HCL
          have HSX := Lib.hid hsx
          have hxlen : x.length = xl := HCL.out
          have t5 : ¬ ((xl : Int) < c) := by omega
          have hbl := HBL.out n
          clear hstr hrd hf hx hla hcl
          go_wp2_with fail
          go_loop [9, 10] (fun v9 v10 => ∃ k : Nat, k ≤ n ∧ v10 = .int .i64 (k : Int) ∧ v9 = .int .i64 (behind l k : Int)) (fun _ v10 => n - (intOf v10).toNat)
          case atStart => exact ⟨0, Nat.zero_le _, rfl, by rw [behind_zero]; rfl⟩
          case round =>
            obtain ⟨k, hk, rfl, rfl⟩ := hrel
            by_cases hlt : k < n
            · obtain ⟨b', off', y, hA, hy, hcell'⟩ := strs_at HRD.out (k := k) (by omega)
              injection hA with hA
              injection hA with hA1 hA2
              subst hA1 hA2
              have hn := HNX.out k (by omega)
              rw [hy] at hn
              have hn : behind l (k + 1) = behind l k + y.length + 1 := hn
              have hsy := str_size y
              have HB := Lib.hid (show ((behind l k : Int) + (y.length : Int)) + 1 = (behind l (k + 1) : Int) by omega)
              have hb1 := HBL.out k
              have hb2 := HBL.out (k + 1)
              have c1 : (behind l k : Int) ≤ 20000 := by omega
              have c2 : (y.length : Int) ≤ 20000 := by omega
              have c3 : (k : Int) < (feeds l : Int) + 1 := by omega
              generalize behind l k = bk at *
              clear hy hn hb1 hb2
              go_wp2_with fail
              go_round
              case rel => exact ⟨k + 1, by omega, by go_num, by rw [← HB.out]⟩
              case measure => simp [intOf]; omega
            · obtain rfl : k = n := by omega
              have c1 : (behind l k : Int) ≤ 20000 := by omega
              have c2 : (c : Int) ≤ 20000 := by omega
              go_wp2_with fail
              go_ret2
              exact ⟨rfl, HF.out⟩
        · rw [if_neg (by omega)] at hs
          obtain ⟨rfl, rfl⟩ := Prod.mk.inj hs
          clear hs
          go_enter Tryz.func30, Tryz.ntmps30
          go_wp2_with fail
          refine HL.out.mono ?_
          rintro e w2 ⟨v, rfl, hstr, hf⟩
          obtain ⟨A, cp, rfl, -, -, hrd⟩ := strs_rd hstr
          obtain ⟨b, off, x, rfl, hx, hcell⟩ := strs_at hrd (k := n) (by omega)
          rw [hla] at hx
          obtain rfl := Option.some.inj hx
          have HCL := Lib.hid hcl
          rw [hll] at hrd ⊢
          have hsx := str_size (cut l (behind l n) (endOf l n))
          rw [hcl] at hsx
          have HF := Lib.hid hf
          have t3 : ¬ (feeds l + 1 ≤ n) := by omega
          have i0 : (0 : Int) ≤ (n : Int) := by omega
          have i1 : (n : Int) < ((feeds l + 1 : Nat) : Int) := by omega
          generalize cut l (behind l n) (endOf l n) = x at hcell hsx HCL
          obtain ⟨xl, hxl⟩ : ∃ xl : Nat, xl = endOf l n - behind l n := ⟨_, rfl⟩
          rw [← hxl] at hsx HCL
          have hxlen : x.length = xl := HCL.out
          have t5 : ((xl : Int) < c) := by omega
          clear hstr hrd hf hx hla hcl
          go_wp2_with fail
          go_ret2
          exact ⟨rfl, HF.out⟩
      · rw [if_neg (by omega)] at hs
        obtain ⟨rfl, rfl⟩ := Prod.mk.inj hs
        have t1 : (c < 0) := by omega
        clear hs
        go_enter Tryz.func30, Tryz.ntmps30
        go_wp2_with fail
        refine HL.out.mono ?_
        rintro e w2 ⟨v, rfl, hstr, hf⟩
        obtain ⟨A, cp, rfl, -, -, hrd⟩ := strs_rd hstr
        rw [hll] at hrd ⊢
        have HF := Lib.hid hf
        have t3 : ¬ (feeds l + 1 ≤ n) := by omega
        clear hstr hrd hf hla hcl
        go_wp2_with fail
        go_ret2
        exact ⟨rfl, HF.out⟩
    · rw [if_neg (by omega)] at hs
      obtain ⟨rfl, rfl⟩ := Prod.mk.inj hs
      clear hs
      go_enter Tryz.func30, Tryz.ntmps30
      go_wp2_with fail
      refine HL.out.mono ?_
      rintro e w2 ⟨v, rfl, hstr, hf⟩
      obtain ⟨A, cp, rfl, -, -, hrd⟩ := strs_rd hstr
      rw [hll] at hrd ⊢
      have HF := Lib.hid hf
      have t3 : (feeds l + 1 ≤ n) := by omega
      clear hstr hrd hf
      go_wp2_with fail
      go_ret2
      exact ⟨rfl, HF.out⟩
  · rw [if_neg (by omega)] at hs
    obtain ⟨rfl, rfl⟩ := Prod.mk.inj hs
    have t0 : (i < 0) := by omega
    clear hs h0
    go_enter Tryz.func30, Tryz.ntmps30
    go_wp2_with fail
    refine HL.out.mono ?_
    rintro e w2 ⟨v, rfl, hstr, hf⟩
    have HF := Lib.hid hf
    clear hstr hf
    go_wp2_with fail
    go_ret2
    exact ⟨rfl, HF.out⟩

end Go.Proofs.YtodcnbejnchmhaaGreatDoor.S3
