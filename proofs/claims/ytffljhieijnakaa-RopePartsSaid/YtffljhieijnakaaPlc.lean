import Derived.Test.YtffljhieijnakaaSee
namespace Go.Proofs.Ytffljhieijnakaa
open Go.RowKit Go.Mem Go.Rope

theorem begin_any {w : World} {v x : Value} {l : Bs} {h : Nat} (r : RopeAt w v x l h) (hl : l.length ≤ 20000) (i : Nat) (hi : i ≤ feeds l) :
    Calls Try.prog 34 #[v, .int .i64 (i : Int)] w fun e w' => e = .returned (.int .i64 (behind l i : Int)) ∧ w = w' := by
  rcases Nat.eq_zero_or_pos i with h0 | h0
  · subst h0
    rw [behind_zero]
    clear r
    go_enter Try.func34, Try.ntmps34
    go_wp2_with fail
    go_ret
    exact ⟨rfl, rfl⟩
  · have HT := Lib.hid (top_any r)
    have HS := Lib.hid (seekB_any r.1 (by omega) i ⟨h0, hi, by omega, by omega⟩)
    have t0 : ((i : Int) == 0) = false := by simp; omega
    have hbl := behind_le l i
    clear r
    go_enter Try.func34, Try.ntmps34
    go_wp2_with fail
    refine HT.out.mono ?_
    rintro e w' ⟨rfl, rfl⟩
    go_wp2_with fail
    refine HS.out.mono ?_
    rintro e w' ⟨v2, s, a, d, g, rfl, n, hg, ⟨k1, k2, k3, k4⟩, rfl⟩
    have hg1 : g = 1 := by
      have := n.zero
      rcases Nat.eq_zero_or_pos g with e | e
      · have e2 := this.1 e
        rw [e2] at k2
        simp [feeds] at k2
        omega
      · omega
    have HB := Lib.hid (behindBreak_any n hg1 a k2)
    have HK := Lib.hid k3
    have b1 := behind_le s a
    have b2 : (d : Int) ≤ 20000 := by omega
    have b3 : (behind s a : Int) ≤ 20000 := by omega
    clear n k3 k2 k4 b1
    go_wp2_with fail
    refine HB.out.mono ?_
    rintro e w' ⟨rfl, rfl⟩
    go_wp2_with fail
    go_ret
    exact ⟨by rw [HK.out]; push_cast; rfl, rfl⟩
theorem end_any {w : World} {v x : Value} {l : Bs} {h : Nat} (r : RopeAt w v x l h) (hl : l.length ≤ 20000) (i : Nat) (hi : i ≤ feeds l) :
    Calls Try.prog 35 #[v, .int .i64 (i : Int)] w fun e w' => e = .returned (.int .i64 (endOf l i : Int)) ∧ w = w' := by
  have HL := Lib.hid (Lines_any r hl)
  have HN := Lib.hid (Len_any r)
  have hfl := feeds_le l
  rcases Nat.eq_or_lt_of_le hi with e | e
  · have HE := Lib.hid (show endOf l i = l.length by unfold endOf; rw [if_pos e])
    have t0 : ((i : Int) == (feeds l : Int)) = true := by simp; omega
    clear r
    go_enter Try.func35, Try.ntmps35
    go_wp2_with fail
    refine HL.out.mono ?_
    rintro e w' ⟨rfl, rfl⟩
    go_wp2_with fail
    refine HN.out.mono ?_
    rintro e w' ⟨rfl, rfl⟩
    go_wp2_with fail
    go_ret
    exact ⟨by rw [HE.out]; rfl, rfl⟩
  · have hp := (behind_pos e).1
    have hb := behind_le l (i + 1)
    have HE := Lib.hid (show (endOf l i : Int) = (behind l (i + 1) : Int) - 1 by unfold endOf; rw [if_neg (by omega)]; omega)
    have HB : Hid (∀ z : Int, z = ((i + 1 : Nat) : Int) → Calls Try.prog 34 #[v, .int .i64 z] w fun e w' => e = .returned (.int .i64 (behind l (i + 1) : Int)) ∧ w = w') := Lib.hid (by rintro z rfl; exact begin_any r hl (i + 1) (by omega))
    have t0 : ((i : Int) == (feeds l : Int)) = false := by simp; omega
    have b1 : (behind l (i + 1) : Int) ≤ 20000 := by omega
    have b2 : (i : Int) ≤ 20000 := by omega
    clear r hp
    go_enter Try.func35, Try.ntmps35
    go_wp2_with fail
    refine HL.out.mono ?_
    rintro e w' ⟨rfl, rfl⟩
    go_wp2_with fail
    refine (HB.out _ (by first | omega | (push_cast; rfl) | (simp; omega))).mono ?_
    rintro e w' ⟨rfl, rfl⟩
    go_wp2_with fail
    go_ret
    exact ⟨by rw [HE.out]; rfl, rfl⟩

/-- what Line, Offset, Place answer -/
def lineD (l : Bs) (i : Int) : Bs × Int := if 0 ≤ i ∧ i ≤ (feeds l : Int) then (cut l (behind l i.toNat) (endOf l i.toNat), 0) else ([], 2)
def offsetD (l : Bs) (i c : Int) : Int × Int := if 0 ≤ i ∧ i ≤ (feeds l : Int) ∧ 0 ≤ c ∧ c ≤ (endOf l i.toNat : Int) - (behind l i.toNat : Int) then ((behind l i.toNat : Int) + c, 0) else (0, 2)
def placeD (l : Bs) (a : Int) : Int × Int × Int := if 0 ≤ a ∧ a ≤ (l.length : Int) then ((feeds (l.take a.toNat) : Int), a - (behind l (feeds (l.take a.toNat)) : Int), 0) else (0, 0, 2)

theorem Line_any {w : World} {v x : Value} {l : Bs} {h : Nat} (r : RopeAt w v x l h) (hl : l.length ≤ 20000) (i : Int) (s : Bs) (k : Int) (hs : lineD l i = (s, k)) :
    Calls Try.prog 25 #[v, .int .i64 i] w fun e w' => e = .returned (.tuple #[strV s, .int .i64 k]) ∧ Fr w w' (fun _ => False) := by
  unfold lineD at hs
  have HL := Lib.hid (Lines_any r hl)
  have HT := Lib.hid (top_any r)
  have hfl := feeds_le l
  by_cases h0 : 0 ≤ i
  · obtain ⟨n, rfl⟩ : ∃ n : Nat, i = (n : Int) := ⟨i.toNat, by omega⟩
    by_cases h1 : n ≤ feeds l
    · rw [if_pos ⟨h0, by omega⟩, Int.toNat_natCast] at hs
      obtain ⟨rfl, rfl⟩ := Prod.mk.inj hs
      have hbe := begin_end h1
      have hel := endOf_le l n
      have HB := Lib.hid (begin_any r hl n h1)
      have HE := Lib.hid (end_any r hl n h1)
      have HX := Lib.hid (text_any r.1 hbe hel (by omega))
      generalize cut l (behind l n) (endOf l n) = c at HX ⊢
      have t1 : ¬ ((n : Int) ≥ ((feeds l + 1 : Nat) : Int)) := by omega
      have t2 : ¬ (feeds l + 1 ≤ n) := by omega
      clear r hs
      go_enter Try.func25, Try.ntmps25
      go_wp2_with fail
      refine HL.out.mono ?_
      rintro e w' ⟨rfl, rfl⟩
      go_wp2_with fail
      refine HT.out.mono ?_
      rintro e w' ⟨rfl, rfl⟩
      go_wp2_with fail
      refine HB.out.mono ?_
      rintro e w' ⟨rfl, rfl⟩
      go_wp2_with fail
      refine HE.out.mono ?_
      rintro e w' ⟨rfl, rfl⟩
      go_wp2_with fail
      refine HX.out.mono ?_
      rintro e w' ⟨rfl, hf⟩
      have HF := Lib.hid hf
      clear hf
      go_wp2_with fail
      go_ret2
      exact ⟨rfl, HF.out⟩
    · rw [if_neg (by omega)] at hs
      obtain ⟨rfl, rfl⟩ := Prod.mk.inj hs
      have t1 : ((n : Int) ≥ ((feeds l + 1 : Nat) : Int)) := by omega
      have t2 : feeds l + 1 ≤ n := by omega
      clear r hs
      go_enter Try.func25, Try.ntmps25
      go_wp2_with fail
      refine HL.out.mono ?_
      rintro e w' ⟨rfl, rfl⟩
      go_wp2_with fail
      go_ret2
      exact ⟨rfl, Fr.refl _ _⟩
  · rw [if_neg (by omega)] at hs
    obtain ⟨rfl, rfl⟩ := Prod.mk.inj hs
    have t0 : i < 0 := by omega
    clear r hs h0
    go_enter Try.func25, Try.ntmps25
    go_wp2_with fail
    go_ret2
    exact ⟨rfl, Fr.refl _ _⟩

theorem Offset_any {w : World} {v x : Value} {l : Bs} {h : Nat} (r : RopeAt w v x l h) (hl : l.length ≤ 20000) (i c : Int) (o k : Int) (hs : offsetD l i c = (o, k)) :
    Calls Try.prog 21 #[v, .int .i64 i, .int .i64 c] w fun e w' => e = .returned (.tuple #[.int .i64 o, .int .i64 k]) ∧ w = w' := by
  unfold offsetD at hs
  have HL := Lib.hid (Lines_any r hl)
  have hfl := feeds_le l
  by_cases h0 : 0 ≤ i
  · obtain ⟨n, rfl⟩ : ∃ n : Nat, i = (n : Int) := ⟨i.toNat, by omega⟩
    simp only [Int.toNat_natCast] at hs
    by_cases h1 : n ≤ feeds l
    · have hbe := begin_end h1
      have hel := endOf_le l n
      have HB := Lib.hid (begin_any r hl n h1)
      have HE := Lib.hid (end_any r hl n h1)
      have t1 : ¬ ((n : Int) ≥ ((feeds l + 1 : Nat) : Int)) := by omega
      have t2 : ¬ (feeds l + 1 ≤ n) := by omega
      generalize behind l n = b at *
      generalize endOf l n = z at *
      have b1 : (b : Int) ≤ 20000 := by omega
      have b2 : (z : Int) ≤ 20000 := by omega
      by_cases hc : 0 ≤ c
      · by_cases hz : c ≤ (z : Int) - (b : Int)
        · rw [if_pos ⟨h0, by omega, hc, hz⟩] at hs
          obtain ⟨rfl, rfl⟩ := Prod.mk.inj hs
          have t3 : ¬ (c < 0) := by omega
          clear r hs hbe hel
          go_enter Try.func21, Try.ntmps21
          go_wp2_with fail
          refine HL.out.mono ?_
          rintro e w' ⟨rfl, rfl⟩
          go_wp2_with fail
          refine HB.out.mono ?_
          rintro e w' ⟨rfl, rfl⟩
          go_wp2_with fail
          refine HE.out.mono ?_
          rintro e w' ⟨rfl, rfl⟩
          go_wp2_with fail
          go_ret2
          exact ⟨rfl, rfl⟩
        · rw [if_neg (by omega)] at hs
          obtain ⟨rfl, rfl⟩ := Prod.mk.inj hs
          have t3 : ¬ (c < 0) := by omega
          clear r hs hbe hel
          go_enter Try.func21, Try.ntmps21
          go_wp2_with fail
          refine HL.out.mono ?_
          rintro e w' ⟨rfl, rfl⟩
          go_wp2_with fail
          refine HB.out.mono ?_
          rintro e w' ⟨rfl, rfl⟩
          go_wp2_with fail
          refine HE.out.mono ?_
          rintro e w' ⟨rfl, rfl⟩
          go_wp2_with fail
          go_ret2
          exact ⟨rfl, rfl⟩
      · rw [if_neg (by omega)] at hs
        obtain ⟨rfl, rfl⟩ := Prod.mk.inj hs
        have t3 : c < 0 := by omega
        clear r hs hbe hel hc
        go_enter Try.func21, Try.ntmps21
        go_wp2_with fail
        refine HL.out.mono ?_
        rintro e w' ⟨rfl, rfl⟩
        go_wp2_with fail
        refine HB.out.mono ?_
        rintro e w' ⟨rfl, rfl⟩
        go_wp2_with fail
        go_ret2
        exact ⟨rfl, rfl⟩
    · rw [if_neg (by omega)] at hs
      obtain ⟨rfl, rfl⟩ := Prod.mk.inj hs
      have t1 : ((n : Int) ≥ ((feeds l + 1 : Nat) : Int)) := by omega
      have t2 : feeds l + 1 ≤ n := by omega
      clear r hs
      go_enter Try.func21, Try.ntmps21
      go_wp2_with fail
      refine HL.out.mono ?_
      rintro e w' ⟨rfl, rfl⟩
      go_wp2_with fail
      go_ret2
      exact ⟨rfl, rfl⟩
  · rw [if_neg (by omega)] at hs
    obtain ⟨rfl, rfl⟩ := Prod.mk.inj hs
    have t0 : i < 0 := by omega
    clear r hs h0
    go_enter Try.func21, Try.ntmps21
    go_wp2_with fail
    go_ret2
    exact ⟨rfl, rfl⟩

theorem Place_any {w : World} {v x : Value} {l : Bs} {h : Nat} (r : RopeAt w v x l h) (hl : l.length ≤ 20000) (a : Int) (p q k : Int) (hs : placeD l a = (p, q, k)) :
    Calls Try.prog 23 #[v, .int .i64 a] w fun e w' => e = .returned (.tuple #[.int .i64 p, .int .i64 q, .int .i64 k]) ∧ w = w' := by
  unfold placeD at hs
  have HL := Lib.hid (Len_any r)
  have HT := Lib.hid (top_any r)
  have hfl := feeds_le l
  by_cases h0 : 0 ≤ a
  · obtain ⟨n, rfl⟩ : ∃ n : Nat, a = (n : Int) := ⟨a.toNat, by omega⟩
    simp only [Int.toNat_natCast] at hs
    by_cases h1 : n ≤ l.length
    · rw [if_pos ⟨h0, by omega⟩] at hs
      obtain ⟨rfl, hs2⟩ := Prod.mk.inj hs
      obtain ⟨rfl, rfl⟩ := Prod.mk.inj hs2
      have hft := feeds_take_le l n
      have HS := Lib.hid (seekP_any r.1 (by omega) n ⟨h1, by omega, by omega, Nat.le_refl _⟩)
      have HB := Lib.hid (begin_any r hl (feeds (l.take n)) hft)
      have hbl := (place_ends l n h1).1
      have t1 : ¬ ((n : Int) > (l.length : Int)) := by omega
      have t2 : ¬ (l.length < n) := by omega
      obtain ⟨f, hf⟩ : ∃ f, feeds (l.take n) = f := ⟨_, rfl⟩
      obtain ⟨b, hb⟩ : ∃ b, behind l f = b := ⟨_, rfl⟩
      rw [hf] at HB hft hbl ⊢
      rw [hb] at HB hbl ⊢
      have b1 : (f : Int) ≤ 20000 := by omega
      have b2 : (b : Int) ≤ 20000 := by omega
      have b3 : (n : Int) ≤ 20000 := by omega
      have HFF := Lib.hid hf
      clear r hs hs2 hf hb
      go_enter Try.func23, Try.ntmps23
      go_wp2_with fail
      refine HL.out.mono ?_
      rintro e w' ⟨rfl, rfl⟩
      go_wp2_with fail
      refine HT.out.mono ?_
      rintro e w' ⟨rfl, rfl⟩
      go_wp2_with fail
      refine HS.out.mono ?_
      rintro e w' ⟨v2, s, a, d, g, rfl, n2, hg, ⟨k1, k2, k3, k4⟩, rfl⟩
      have HK := Lib.hid (breaksIn_any n2 hg a k1)
      have hfa := feeds_le (s.take a)
      obtain ⟨z, hz⟩ : ∃ z, feeds (s.take a) = z := ⟨_, rfl⟩
      rw [hz] at HK k2 hfa
      rw [HFF.out] at k2
      subst k2
      have b4 : (d : Int) ≤ 20000 := by omega
      have b5 : (z : Int) ≤ 20000 := by omega
      clear n2 k3 k4 hfa hz
      go_wp2_with fail
      refine HK.out.mono ?_
      rintro e w' ⟨rfl, rfl⟩
      go_wp2_with fail
      refine HB.out.mono ?_
      rintro e w' ⟨rfl, rfl⟩
      go_wp2_with fail
      go_ret3
      exact ⟨rfl, rfl⟩
    · rw [if_neg (by omega)] at hs
      obtain ⟨rfl, hs2⟩ := Prod.mk.inj hs
      obtain ⟨rfl, rfl⟩ := Prod.mk.inj hs2
      have t1 : ((n : Int) > (l.length : Int)) := by omega
      have t2 : l.length < n := by omega
      clear r hs hs2
      go_enter Try.func23, Try.ntmps23
      go_wp2_with fail
      refine HL.out.mono ?_
      rintro e w' ⟨rfl, rfl⟩
      go_wp2_with fail
      go_ret3
      exact ⟨rfl, rfl⟩
  · rw [if_neg (by omega)] at hs
    obtain ⟨rfl, hs2⟩ := Prod.mk.inj hs
    obtain ⟨rfl, rfl⟩ := Prod.mk.inj hs2
    have t0 : a < 0 := by omega
    clear r hs hs2 h0
    go_enter Try.func23, Try.ntmps23
    go_wp2_with fail
    go_ret3
    exact ⟨rfl, rfl⟩
end Go.Proofs.Ytffljhieijnakaa
