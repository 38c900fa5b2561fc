import Derived.Test.YtbolgodoifbnnaaDoorBld
import Derived.BigQuiet
import Derived.Deep.QuietTactic
import Derived.WalkLawsBesides
import Derived.IntWalk
namespace Go.Proofs.YtbolgodoifbnnaaDoor
open Go.RowKit Go.Mem Go.Esc

/-- block b is a reader of s that has l still to read -/
def RdAt (w : World) (b : Nat) (s : ByteArray) (l : Bs) : Prop := ∃ a : Nat, a ≤ s.size ∧ s.data.toList.drop a = l ∧ Blk w b 66 #[.string s, .int .i64 (a : Int)]
theorem RdAt.fr {w w' : World} {b : Nat} {s : ByteArray} {l : Bs} {S : Nat → Prop} (h : RdAt w b s l) (hf : Fr w w' S) (hs : ¬ S b) : RdAt w' b s l := by
  obtain ⟨a, h1, h2, h3⟩ := h
  exact ⟨a, h1, h2, hf.blk h3 hs⟩
theorem RdAt.lt {w : World} {b : Nat} {s : ByteArray} {l : Bs} (h : RdAt w b s l) : b < w.heap.size := by
  obtain ⟨a, h1, h2, h3⟩ := h
  exact h3.lt
theorem drop_empty {s : ByteArray} {a : Nat} (ha : a ≤ s.size) {l : Bs} (h : s.data.toList.drop a = l) : (l = [] ↔ a = s.size) ∧ l.length = s.size - a := by
  have hl : s.data.toList.length = s.size := by rw [Array.length_toList]; rfl
  have : l.length = s.size - a := by rw [← h, List.length_drop, hl]
  refine ⟨?_, this⟩
  rw [← List.length_eq_zero_iff]
  omega
theorem drop_cons {s : ByteArray} {a : Nat} {c : UInt8} {l : Bs} (h : s.data.toList.drop a = c :: l) : ∃ hs : a < s.size, s[a] = c ∧ s.data.toList.drop (a + 1) = l := by
  have hl : s.data.toList.length = s.size := by rw [Array.length_toList]; rfl
  have hs : a < s.size := by
    rw [← hl]
    rcases Nat.lt_or_ge a s.data.toList.length with h1 | h1
    · exact h1
    · rw [List.drop_eq_nil_of_le h1] at h
      cases h
  refine ⟨hs, ?_, ?_⟩
  · rw [List.drop_eq_getElem_cons (by rw [hl]; exact hs)] at h
    have := (List.cons.inj h).1
    rw [← this]
    rfl
  · rw [List.drop_eq_getElem_cons (by rw [hl]; exact hs)] at h
    exact (List.cons.inj h).2

theorem ended_any (w : World) (b : Nat) (s : ByteArray) (l : Bs) (x : Bool) (h : RdAt w b s l) (hx : l.isEmpty = x) (hz : s.size ≤ 1000000) :
    Calls Tryd.prog 42 #[.pointer (some ⟨b, 0, none⟩)] w fun e w' => e = .returned (.bool x) ∧ ∃ n, w' = w.drewN n := by
  obtain ⟨a, ha, hd, hb⟩ := h
  obtain ⟨hm, -⟩ := drop_empty ha hd
  have c0 := cell_at hb 0
  have c1 := cell_at hb 1
  simp at c0 c1
  have hx' : ((a : Int) == (s.size : Int)) = x := by
    subst hx
    rw [Bool.eq_iff_iff, beq_iff_eq, List.isEmpty_iff, hm]
    omega
  have HX := Lib.hid hx'
  clear hx' hm hd hx hb
  go_enter Tryd.func42, Tryd.ntmps42
  go_wp2
  go_quiet (fail)
  go_wp2
  go_ret
  exact ⟨by rw [← HX.out]; rfl, _, rfl⟩

theorem sees_no (w : World) (b : Nat) (s : ByteArray) (d : Int) (h : RdAt w b s []) (hz : s.size ≤ 1000000) :
    Calls Tryd.prog 56 #[.pointer (some ⟨b, 0, none⟩), .int .u8 d] w fun e w' => e = .returned (.bool false) ∧ ∃ n, w' = w.drewN n := by
  have HE := Lib.hid (fun W => fun (e : ∃ m, W = w.drewN m) => ended_any W b s [] true (by obtain ⟨m, rfl⟩ := e; exact h) rfl hz)
  clear h
  go_enter Tryd.func56, Tryd.ntmps56
  go_wp2
  go_quiet ((go_at_call 42; exact Calls.quiet_of (HE.out _ ⟨_, rfl⟩)))
  go_wp2
  go_ret
  exact ⟨rfl, _, rfl⟩

theorem sees_any (w : World) (b : Nat) (s : ByteArray) (c : UInt8) (l : Bs) (d : Int) (x : Bool) (h : RdAt w b s (c :: l)) (hx : ((c.toNat : Int) == d) = x) (hz : s.size ≤ 1000000) :
    Calls Tryd.prog 56 #[.pointer (some ⟨b, 0, none⟩), .int .u8 d] w fun e w' => e = .returned (.bool x) ∧ ∃ n, w' = w.drewN n := by
  have HE := Lib.hid (fun W => fun (e : ∃ m, W = w.drewN m) => ended_any W b s (c :: l) false (by obtain ⟨m, rfl⟩ := e; exact h) rfl hz)
  obtain ⟨a, ha, hd, hb⟩ := h
  obtain ⟨hlt, hc, -⟩ := drop_cons hd
  have c0 := cell_at hb 0
  have c1 := cell_at hb 1
  simp at c0 c1
  have hx' : ((s[a].toNat : Int) == d) = x := by rw [hc]; exact hx
  have h1 : (a : Int) < (s.size : Int) := by omega
  have h2 : (0 : Int) ≤ (a : Int) := by omega
  clear hd hx hb hc
  go_enter Tryd.func56, Tryd.ntmps56
  go_wp2
  go_quiet ((go_at_call 42; exact Calls.quiet_of (HE.out _ ⟨_, rfl⟩)))
  go_wp2
  go_ret
  exact ⟨rfl, _, rfl⟩

/-- the panic with a kind -/
abbrev Raised (k : Int) : Ending := .panicked [{ v := .iface 23 (.int .i64 k), recovered := false }]
/-- what a method of the reader answers -/
def Ran {α : Type} (g : Got α) (V : α → Value) (b : Nat) (s : ByteArray) (w : World) (e : Ending) (w' : World) : Prop :=
  match g with
  | .err k => e = Raised k ∧ Fr w w' (· = b)
  | .got v r => e = .returned (V v) ∧ RdAt w' b s r ∧ Fr w w' (· = b)
theorem fr_put (w : World) (b n i : Nat) (v : Value) : Fr w ((w.drewN n).setCell ⟨b, i, none⟩ v) (· = b) :=
  (Fr.drewN w n (· = b)).trans (Fr.set (S := (· = b)) rfl) (fun _ _ h => h) (fun _ _ h => h)
theorem next_got (w : World) (b : Nat) (s : ByteArray) (c : UInt8) (l : Bs) (h : RdAt w b s (c :: l)) (hz : s.size ≤ 1000000) :
    Calls Tryd.prog 38 #[.pointer (some ⟨b, 0, none⟩)] w fun e w' => e = .returned (.int .u8 (c.toNat : Int)) ∧ RdAt w' b s l ∧ Fr w w' (· = b) := by
  have HE := Lib.hid (ended_any w b s (c :: l) false h rfl hz)
  obtain ⟨a, ha, hd, hb⟩ := h
  obtain ⟨hlt, hc, hd'⟩ := drop_cons hd
  have c0 := cell_at hb 0
  have c1 := cell_at hb 1
  simp at c0 c1
  have h1 : (a : Int) < (s.size : Int) := by omega
  have h2 : (0 : Int) ≤ (a : Int) := by omega
  have f1 := free_at hb 1
  have HB := Lib.hid hb
  have HC := Lib.hid hc
  have HD := Lib.hid hd'
  clear hd hb hc hd'
  go_enter Tryd.func38, Tryd.ntmps38
  go_wp2_with fail
  refine HE.out.mono ?_
  rintro e w1 ⟨rfl, n, rfl⟩
  go_wp2_with fail
  go_quiet (fail)
  go_wp2_with fail
  go_ret
  refine ⟨by rw [← HC.out]; rfl, ⟨a + 1, by omega, HD.out, ?_⟩, ?_⟩
  · exact Blk.put' (HB.out : Blk (w.drewN _) b _ _) 1 _ (by simp)
  · exact fr_put _ _ _ _ _

theorem next_none (w : World) (b : Nat) (s : ByteArray) (h : RdAt w b s []) (hz : s.size ≤ 1000000) :
    Calls Tryd.prog 38 #[.pointer (some ⟨b, 0, none⟩)] w fun e w' => e = Raised 9 ∧ Fr w w' (· = b) := by
  have HE := Lib.hid (ended_any w b s [] true h rfl hz)
  clear h
  go_enter Tryd.func38, Tryd.ntmps38
  go_wp2_with fail
  refine HE.out.mono ?_
  rintro e w1 ⟨rfl, n, rfl⟩
  go_wp2_with fail
  exact ⟨rfl, rfl, Fr.drewN _ _ _⟩

theorem expect_got (w : World) (b : Nat) (s : ByteArray) (c : UInt8) (l : Bs) (d : Int) (h : RdAt w b s (c :: l)) (hd : (c.toNat : Int) = d) (hz : s.size ≤ 1000000) :
    Calls Tryd.prog 37 #[.pointer (some ⟨b, 0, none⟩), .int .u8 d] w fun e w' => e = .returned (.tuple #[]) ∧ RdAt w' b s l ∧ Fr w w' (· = b) := by
  have HE := Lib.hid (sees_any w b s c l d true h (by simp [hd]) hz)
  clear hd
  obtain ⟨a, ha, hd, hb⟩ := h
  obtain ⟨hlt, hc, hd'⟩ := drop_cons hd
  have c0 := cell_at hb 0
  have c1 := cell_at hb 1
  simp at c0 c1
  have h1 : (a : Int) < (s.size : Int) := by omega
  have h2 : (0 : Int) ≤ (a : Int) := by omega
  have f1 := free_at hb 1
  have HB := Lib.hid hb
  have HD := Lib.hid hd'
  clear hd hb hc hd'
  go_enter Tryd.func37, Tryd.ntmps37
  go_wp2_with fail
  refine HE.out.mono ?_
  rintro e w1 ⟨rfl, n, rfl⟩
  go_wp2_with fail
  go_end0
  exact ⟨rfl, ⟨a + 1, by omega, HD.out, Blk.put' (HB.out : Blk (w.drewN _) b _ _) 1 _ (by simp)⟩, fr_put _ _ _ _ _⟩
theorem expect_none (w : World) (b : Nat) (s : ByteArray) (l : Bs) (d : UInt8) (n : Int) (hn : n = d.toNat) (h : RdAt w b s l) (hd : l.head? ≠ some d) (hz : s.size ≤ 1000000) :
    Calls Tryd.prog 37 #[.pointer (some ⟨b, 0, none⟩), .int .u8 n] w fun e w' => e = Raised 3 ∧ Fr w w' (· = b) := by
  have HE : Hid (Calls Tryd.prog 56 #[.pointer (some ⟨b, 0, none⟩), .int .u8 n] w fun e w' => e = .returned (.bool false) ∧ ∃ n, w' = w.drewN n) := by
    cases l with
    | nil => exact Lib.hid (sees_no w b s n h hz)
    | cons c l =>
      refine Lib.hid (sees_any w b s c l n false h ?_ hz)
      subst hn
      simp at hd
      simp
      intro e
      exact hd (UInt8.toNat_inj.1 (by omega))
  clear hd h hn
  go_enter Tryd.func37, Tryd.ntmps37
  go_wp2_with fail
  refine HE.out.mono ?_
  rintro e w1 ⟨rfl, n, rfl⟩
  go_wp2_with fail
  exact ⟨rfl, rfl, Fr.drewN _ _ _⟩

theorem isPlain_any (w : World) (c : UInt8) (n : Int) (hn : n = c.toNat) : Calls Tryd.prog 40 #[.int .u8 n] w fun e w' => e = .returned (.bool (plainB c)) ∧ w = w' := by
  have hp : plainB c = (decide ((33 : Int) ≤ n) && decide (n ≤ 126)) := by
    subst hn
    simp [plainB, UInt8.le_iff_toNat_le]
    congr 1 <;> simp <;> omega
  have HP := Lib.hid hp
  clear hp hn
  by_cases h1 : (33 : Int) ≤ n
  all_goals by_cases h2 : n ≤ 126
  all_goals
    go_enter Tryd.func40, Tryd.ntmps40
    go_wp2_with fail
    go_ret
    exact ⟨by rw [HP.out]; simp [h1, h2], rfl⟩
end Go.Proofs.YtbolgodoifbnnaaDoor
