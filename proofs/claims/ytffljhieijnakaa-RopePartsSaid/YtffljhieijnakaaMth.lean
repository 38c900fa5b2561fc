import Derived.Test.YtffljhieijnakaaRep
namespace Go.Proofs.Ytffljhieijnakaa
open Go.RowKit Go.Mem Go.Rope

/-- the value v is a rope (nil, or a block) whose root is x; its bytes are l -/
def RopeAt (w : World) (v x : Value) (l : Bs) (h : Nat) : Prop := NodeAt w w.heap.size x l h ∧ ((v = .pointer none ∧ x = .pointer none) ∨ ∃ g, v = ptr g ∧ Blk w g 54 #[x])
theorem RopeAt.keep {w w' : World} {v x : Value} {l : Bs} {h : Nat} (r : RopeAt w v x l h) (hf : Fr w w' (fun _ => False)) : RopeAt w' v x l h := by
  refine ⟨r.1.keepo hf, ?_⟩
  rcases r.2 with h | ⟨g, h1, h2⟩
  · exact .inl h
  · exact .inr ⟨g, h1, hf.blk h2 (fun h => h)⟩
theorem NodeAt.addr {w : World} {B : Nat} {v : Value} {s : Bs} {h : Nat} (n : NodeAt w B v s h) : ∃ a, v = .pointer a := by cases n <;> exact ⟨_, rfl⟩
theorem RopeAt.nil (w : World) : RopeAt w (.pointer none) (.pointer none) [] 0 := ⟨.empty, .inl ⟨rfl, rfl⟩⟩
theorem NodeAt.made {w5 w6 : World} {v : Value} {l : Bs} {h : Nat} (n : NodeAt w5 w5.heap.size v l h) (he : w6 = w5.alloc (.cells #[v] 54)) : RopeAt w6 (ptr w5.heap.size) v l h := by
  subst he
  exact ⟨n.keepo (Fr.new _ _ _), .inr ⟨_, rfl, Blk.made _ _ _⟩⟩
theorem eq_nil_rope (w : World) (g : Nat) : (binOp .eql 25 (ptr g) (.pointer none)).run Try.prog w = .ok (.bool false) w := by kernel_rfl

theorem top_any {w : World} {v x : Value} {l : Bs} {h : Nat} (r : RopeAt w v x l h) : Calls Try.prog 28 #[v] w fun e w' => e = .returned x ∧ w = w' := by
  rcases r.2 with ⟨rfl, rfl⟩ | ⟨g, rfl, hg⟩
  · clear r
    go_enter Try.func28, Try.ntmps28
    go_wp2_with fail
    go_ret
    exact ⟨rfl, rfl⟩
  · have c0 := cell_at hg 0
    simp at c0
    have hne := fun w => eq_nil_rope w g
    clear hg r
    go_enter Try.func28, Try.ntmps28
    go_wp2_with fail
    go_ret
    exact ⟨rfl, rfl⟩
theorem Len_any {w : World} {v x : Value} {l : Bs} {h : Nat} (r : RopeAt w v x l h) : Calls Try.prog 12 #[v] w fun e w' => e = .returned (.int .i64 (l.length : Int)) ∧ w = w' := by
  have HT := Lib.hid (top_any r)
  have HB := Lib.hid (bytes_any r.1)
  clear r
  go_enter Try.func12, Try.ntmps12
  go_wp2_with fail
  refine HT.out.mono ?_
  rintro e w' ⟨rfl, rfl⟩
  go_wp2_with fail
  refine HB.out.mono ?_
  rintro e w' ⟨rfl, rfl⟩
  go_wp2_with fail
  go_ret
  exact ⟨rfl, rfl⟩
theorem Height_any {w : World} {v x : Value} {l : Bs} {h : Nat} (r : RopeAt w v x l h) : Calls Try.prog 26 #[v] w fun e w' => e = .returned (.int .i64 (h : Int)) ∧ w = w' := by
  have HT := Lib.hid (top_any r)
  have HB := Lib.hid (height_any r.1)
  clear r
  go_enter Try.func26, Try.ntmps26
  go_wp2_with fail
  refine HT.out.mono ?_
  rintro e w' ⟨rfl, rfl⟩
  go_wp2_with fail
  refine HB.out.mono ?_
  rintro e w' ⟨rfl, rfl⟩
  go_wp2_with fail
  go_ret
  exact ⟨rfl, rfl⟩
theorem Lines_any {w : World} {v x : Value} {l : Bs} {h : Nat} (r : RopeAt w v x l h) (hl : l.length ≤ 20000) : Calls Try.prog 16 #[v] w fun e w' => e = .returned (.int .i64 ((feeds l + 1 : Nat) : Int)) ∧ w = w' := by
  have HT := Lib.hid (top_any r)
  have HB := Lib.hid (breaks_any r.1)
  have hf := feeds_le l
  have hb : (feeds l : Int) ≤ 20000 := by omega
  clear r hf
  go_enter Try.func16, Try.ntmps16
  go_wp2_with fail
  refine HT.out.mono ?_
  rintro e w' ⟨rfl, rfl⟩
  go_wp2_with fail
  refine HB.out.mono ?_
  rintro e w' ⟨rfl, rfl⟩
  go_wp2_with fail
  go_ret
  exact ⟨rfl, rfl⟩
theorem Text_any {w : World} {v x : Value} {l : Bs} {h : Nat} (r : RopeAt w v x l h) (hl : l.length ≤ 20000) : Calls Try.prog 15 #[v] w fun e w' => e = .returned (strV l) ∧ Fr w w' (fun _ => False) := by
  have HT := Lib.hid (top_any r)
  have HL := Lib.hid (Len_any r)
  have HX := Lib.hid (text_any (f := 0) (t := l.length) r.1 (by omega) (by omega) (by omega))
  rw [cut_all] at HX
  clear r
  go_enter Try.func15, Try.ntmps15
  go_wp2_with fail
  refine HT.out.mono ?_
  rintro e w' ⟨rfl, rfl⟩
  go_wp2_with fail
  refine HL.out.mono ?_
  rintro e w' ⟨rfl, rfl⟩
  go_wp2_with fail
  refine HX.out.mono ?_
  rintro e w' ⟨rfl, hf⟩
  have HF := Lib.hid hf
  clear hf
  go_wp2_with fail
  go_ret
  exact ⟨rfl, HF.out⟩

/-- a stretch that is there -/
def InR (l : Bs) (x y : Int) : Prop := 0 ≤ x ∧ x ≤ y ∧ y ≤ (l.length : Int)
instance (l : Bs) (x y : Int) : Decidable (InR l x y) := by unfold InR; infer_instance
theorem has_any {w : World} {v r : Value} {l : Bs} {h : Nat} (ro : RopeAt w v r l h) (x y : Int) (b : Bool) (hb : b = true ↔ InR l x y) : Calls Try.prog 30 #[v, .int .i64 x, .int .i64 y] w fun e w' => e = .returned (.bool b) ∧ w = w' := by
  have HL := Lib.hid (Len_any ro)
  have HB := Lib.hid hb
  clear ro hb
  by_cases h1 : 0 ≤ x
  · by_cases h2 : x ≤ y
    · by_cases h3 : y ≤ (l.length : Int)
      · obtain rfl : b = true := HB.out.2 ⟨h1, h2, h3⟩
        go_enter Try.func30, Try.ntmps30
        go_wp2_with fail
        refine HL.out.mono ?_
        rintro e w' ⟨rfl, rfl⟩
        go_wp2_with fail
        go_ret
        exact ⟨rfl, rfl⟩
      · obtain rfl : b = false := by rw [Bool.eq_false_iff]; intro e; exact h3 (HB.out.1 e).2.2
        go_enter Try.func30, Try.ntmps30
        go_wp2_with fail
        refine HL.out.mono ?_
        rintro e w' ⟨rfl, rfl⟩
        go_wp2_with fail
        go_ret
        exact ⟨by show Ending.returned (.bool (decide _)) = _; rw [decide_eq_false (by omega)], rfl⟩
    · obtain rfl : b = false := by rw [Bool.eq_false_iff]; intro e; exact h2 (HB.out.1 e).2.1
      go_enter Try.func30, Try.ntmps30
      go_wp2_with fail
      go_ret
      exact ⟨rfl, rfl⟩
  · obtain rfl : b = false := by rw [Bool.eq_false_iff]; intro e; exact h1 (HB.out.1 e).1
    go_enter Try.func30, Try.ntmps30
    go_wp2_with fail
    go_ret
    exact ⟨rfl, rfl⟩

/-- what Slice answers -/
def sliceD (l : Bs) (x y : Int) : Bs × Int := if InR l x y then (cut l x.toNat y.toNat, 0) else ([], 2)
theorem Slice_any {w : World} {v r : Value} {l : Bs} {h : Nat} (ro : RopeAt w v r l h) (hl : l.length ≤ 20000) (x y : Int) (s : Bs) (k : Int) (hs : sliceD l x y = (s, k)) :
    Calls Try.prog 19 #[v, .int .i64 x, .int .i64 y] w fun e w' => e = .returned (.tuple #[strV s, .int .i64 k]) ∧ Fr w w' (fun _ => False) := by
  unfold sliceD at hs
  by_cases hr : InR l x y
  · rw [if_pos hr] at hs
    obtain ⟨rfl, rfl⟩ := Prod.mk.inj hs
    have HH := Lib.hid (has_any ro x y true (by simp [hr]))
    have HT := Lib.hid (top_any ro)
    obtain ⟨r1, r2, r3⟩ := hr
    have ex : ((x.toNat : Nat) : Int) = x := by omega
    have ey : ((y.toNat : Nat) : Int) = y := by omega
    have HX := Lib.hid (text_any (f := x.toNat) (t := y.toNat) ro.1 (by omega) (by omega) (by omega))
    rw [ex, ey] at HX
    generalize cut l x.toNat y.toNat = c at HX ⊢
    clear ro hs ex ey
    go_enter Try.func19, Try.ntmps19
    go_wp2_with fail
    refine HH.out.mono ?_
    rintro e w' ⟨rfl, rfl⟩
    go_wp2_with fail
    refine HT.out.mono ?_
    rintro e w' ⟨rfl, rfl⟩
    go_wp2_with fail
    refine HX.out.mono ?_
    rintro e w' ⟨rfl, hf⟩
    have HF := Lib.hid hf
    clear hf
    go_wp2_with fail
    go_ret2
    exact ⟨rfl, HF.out⟩
  · rw [if_neg hr] at hs
    obtain ⟨rfl, rfl⟩ := Prod.mk.inj hs
    have HH := Lib.hid (has_any ro x y false (by simp [hr]))
    clear ro hs hr
    go_enter Try.func19, Try.ntmps19
    go_wp2_with fail
    refine HH.out.mono ?_
    rintro e w' ⟨rfl, rfl⟩
    go_wp2_with fail
    go_ret2
    exact ⟨rfl, Fr.refl _ _⟩

/-- a call gives a rope of these bytes, and a kind -/
def GivesR (w : World) (l : Bs) (k : Int) (e : Ending) (w' : World) : Prop := ∃ v x h, e = .returned (.tuple #[v, .int .i64 k]) ∧ RopeAt w' v x l h ∧ Fr w w' (fun _ => False)
def makeD (l : Bs) : Bs × Int := if l.length ≤ 20000 then (l, 0) else ([], 17)
theorem Make_any (w : World) (l s : Bs) (k : Int) (hs : makeD l = (s, k)) : Calls Try.prog 11 #[strV l] w (GivesR w s k) := by
  unfold makeD at hs
  have hz := str_size l
  by_cases hl : l.length ≤ 20000
  · rw [if_pos hl] at hs
    obtain ⟨rfl, rfl⟩ := Prod.mk.inj hs
    have HN := Lib.hid (nodeOf_any l (by omega) w)
    clear hs
    go_enter Try.func11, Try.ntmps11
    go_wp2_with fail
    refine HN.out.mono ?_
    rintro e w' ⟨h, hf, v, rfl, n⟩
    have HF := Lib.hid hf
    obtain ⟨a, rfl⟩ := n.addr
    have HN := Lib.hid n
    clear hf n
    go_wp2_with fail
    go_ret2
    exact ⟨_, _, _, rfl, HN.out.made rfl, ff HF.out (Fr.new _ _ _)⟩
  · rw [if_neg hl] at hs
    obtain ⟨rfl, rfl⟩ := Prod.mk.inj hs
    clear hs
    go_enter Try.func11, Try.ntmps11
    go_wp2_with fail
    go_ret2
    exact ⟨_, _, _, rfl, RopeAt.nil _, Fr.refl _ _⟩

/-- what Splice answers -/
def spliceD (l : Bs) (x y : Int) (s : Bs) : Bs × Int := if InR l x y then (if l.length - (y.toNat - x.toNat) + s.length ≤ 20000 then (repl l x.toNat y.toNat s, 0) else ([], 17)) else ([], 2)
set_option maxHeartbeats 400000 in
theorem Splice_any {w : World} {v r : Value} {l : Bs} {h : Nat} (ro : RopeAt w v r l h) (hl : l.length ≤ 20000) (x y : Int) (s : Bs) (hz : s.length ≤ 20100) (t : Bs) (k : Int) (hs : spliceD l x y s = (t, k)) :
    Calls Try.prog 13 #[v, .int .i64 x, .int .i64 y, strV s] w (GivesR w t k) := by
  unfold spliceD at hs
  have hss := str_size s
  by_cases hr : InR l x y
  · rw [if_pos hr] at hs
    have HH := Lib.hid (has_any ro x y true (by simp [hr]))
    have HL := Lib.hid (Len_any ro)
    have HT := Lib.hid (top_any ro)
    obtain ⟨r1, r2, r3⟩ := hr
    obtain ⟨f, rfl⟩ : ∃ f : Nat, x = (f : Int) := ⟨x.toNat, by omega⟩
    obtain ⟨u, rfl⟩ : ∃ u : Nat, y = (u : Int) := ⟨y.toNat, by omega⟩
    simp only [Int.toNat_natCast] at hs
    have w1 : (u : Int) - (f : Int) = ((u - f : Nat) : Int) := by omega
    have b1 : ((u - f : Nat) : Int) ≤ (l.length : Int) := by omega
    by_cases hbig : l.length - (u - f) + s.length ≤ 20000
    · rw [if_pos hbig] at hs
      obtain ⟨rfl, rfl⟩ := Prod.mk.inj hs
      have HX := Lib.hid (replace_any s (f := f) (t := u) ro.1 (by omega) (by omega) (by omega))
      have t1 : ¬ (20000 - ((l.length : Int) - ((u : Int) - (f : Int))) < (s.length : Int)) := by omega
      clear ro hs w1 b1
      go_enter Try.func13, Try.ntmps13
      go_wp2_with fail
      refine HH.out.mono ?_
      rintro e w' ⟨rfl, rfl⟩
      go_wp2_with fail
      refine HL.out.mono ?_
      rintro e w' ⟨rfl, rfl⟩
      go_wp2_with fail
      refine HT.out.mono ?_
      rintro e w' ⟨rfl, rfl⟩
      go_wp2_with fail
      refine HX.out.mono ?_
      rintro e w' ⟨h5, hf, v5, rfl, n⟩
      have HF := Lib.hid hf
      obtain ⟨a, rfl⟩ := n.addr
      have HN := Lib.hid n
      clear hf n
      go_wp2_with fail
      go_ret2
      exact ⟨_, _, _, rfl, HN.out.made rfl, ff HF.out (Fr.new _ _ _)⟩
    · rw [if_neg hbig] at hs
      obtain ⟨rfl, rfl⟩ := Prod.mk.inj hs
      have t1 : (20000 - ((l.length : Int) - ((u : Int) - (f : Int))) < (s.length : Int)) := by omega
      clear ro hs w1 b1
      go_enter Try.func13, Try.ntmps13
      go_wp2_with fail
      refine HH.out.mono ?_
      rintro e w' ⟨rfl, rfl⟩
      go_wp2_with fail
      refine HL.out.mono ?_
      rintro e w' ⟨rfl, rfl⟩
      go_wp2_with fail
      go_ret2
      exact ⟨_, _, _, rfl, RopeAt.nil _, Fr.refl _ _⟩
  · rw [if_neg hr] at hs
    obtain ⟨rfl, rfl⟩ := Prod.mk.inj hs
    have HH := Lib.hid (has_any ro x y false (by simp [hr]))
    clear ro hs hr
    go_enter Try.func13, Try.ntmps13
    go_wp2_with fail
    refine HH.out.mono ?_
    rintro e w' ⟨rfl, rfl⟩
    go_wp2_with fail
    go_ret2
    exact ⟨_, _, _, rfl, RopeAt.nil _, Fr.refl _ _⟩
end Go.Proofs.Ytffljhieijnakaa
