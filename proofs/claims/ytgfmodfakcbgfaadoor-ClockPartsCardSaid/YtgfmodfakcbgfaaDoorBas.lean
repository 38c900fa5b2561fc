import Derived.Test.YtgfmodfakcbgfaaDoorProg
import Derived.Test.YtgfmodfakcbgfaaDoorMem
import Derived.Test.YtgfmodfakcbgfaaDoorPlain
import Derived.BigQuiet
import Derived.Deep.QuietTactic
import Derived.WalkLawsBesides
import Derived.IntWalk
import Derived.Lib.Hide
import Derived.Tactics2
namespace Go.Proofs.YtgfmodfakcbgfaaDoor
open Go.RowKit Go.Mem Go.Clk

abbrev strV (l : Bs) : Value := .string ⟨l.toArray⟩
theorem infoB : (Tryd.prog.info? 5).map (fun i => (i.zero, i.size, i.bytes)) = some (some (.int .u8 0), 1, 1) := by kernel_rfl
theorem infoS : (Tryd.prog.info? 9).map (fun i => (i.zero, i.size, i.bytes)) = some (some (.string ⟨#[]⟩), 1, 16) := by kernel_rfl
theorem str_size (l : Bs) : (⟨l.toArray⟩ : ByteArray).size = l.length := by show l.toArray.size = _; simp
theorem bytes_len (s : ByteArray) : s.data.toList.length = s.size := by rw [Array.length_toList]; rfl
theorem strV_of (s : ByteArray) : Value.string s = strV s.data.toList := by
  show Value.string s = .string ⟨s.data.toList.toArray⟩
  congr
theorem run_add_str {P : Program} (w : World) (a b : Bs) (h : a.length + b.length ≤ 1000000) : (Op.stringOp .add ⟨a.toArray⟩ ⟨b.toArray⟩).run P w = .ok (strV (a ++ b)) w := by
  rw [run_string_add_sum w _ _ (by show a.toArray.size + b.toArray.size ≤ _; simp; omega)]
  show Result.ok (Value.string ((⟨a.toArray⟩ : ByteArray) ++ ⟨b.toArray⟩)) w = .ok (.string ⟨(a ++ b).toArray⟩) w
  congr 2
theorem ff {a c d : World} (h : Fr a c (fun _ => False)) (h2 : Fr c d (fun _ => False)) : Fr a d (fun _ => False) := h.trans h2 (fun _ _ h => h) (fun _ _ h => h)
theorem fd {a b : World} (h : Fr a b (fun _ => False)) (n : Nat) : Fr a (b.drewN n) (fun _ => False) := ff h (Fr.drewN _ _ _)
theorem _root_.Go.Mem.Fr.cell0 {a c : World} {b o : Nat} {v : Value} (h : Fr a c (fun _ => False)) (hc : a.cell? ⟨b, o, none⟩ = some v) : c.cell? ⟨b, o, none⟩ = some v :=
  (World.cell?_of_block (w := a) (h.block b (World.block_lt_of_cell? a _ hc) (fun h => h))).trans hc
theorem fb {a c d : World} {b : Nat} (h : Fr a c (· = b)) (h2 : Fr c d (· = b)) : Fr a d (· = b) := h.trans h2 (fun _ _ h => h) (fun _ _ h => h)
theorem fbn {a d : World} {b n : Nat} (h : Fr (a.drewN n) d (· = b)) : Fr a d (· = b) := fb (Fr.drewN _ _ _) h

/-- block b is a reader of s that has l still to read -/
def RdAt (w : World) (b : Nat) (s : ByteArray) (l : Bs) : Prop := ∃ a : Nat, a ≤ s.size ∧ s.data.toList.drop a = l ∧ Blk w b 51 #[.string s, .int .i64 (a : Int)]
theorem RdAt.fr {w w' : World} {b : Nat} {s : ByteArray} {l : Bs} {S : Nat → Prop} (h : RdAt w b s l) (hf : Fr w w' S) (hs : ¬ S b) : RdAt w' b s l := by
  obtain ⟨a, h1, h2, h3⟩ := h
  exact ⟨a, h1, h2, hf.blk h3 hs⟩
theorem RdAt.lt {w : World} {b : Nat} {s : ByteArray} {l : Bs} (h : RdAt w b s l) : b < w.heap.size := by
  obtain ⟨a, h1, h2, h3⟩ := h
  exact h3.lt
theorem drop_empty {s : ByteArray} {a : Nat} (ha : a ≤ s.size) {l : Bs} (h : s.data.toList.drop a = l) : (l = [] ↔ a = s.size) ∧ l.length = s.size - a := by
  have hl : s.data.toList.length = s.size := bytes_len s
  have : l.length = s.size - a := by rw [← h, List.length_drop, hl]
  refine ⟨?_, this⟩
  rw [← List.length_eq_zero_iff]
  omega
theorem drop_cons {s : ByteArray} {a : Nat} {c : UInt8} {l : Bs} (h : s.data.toList.drop a = c :: l) : ∃ hs : a < s.size, s[a] = c ∧ s.data.toList.drop (a + 1) = l := by
  have hl : s.data.toList.length = s.size := bytes_len s
  have hs : a < s.size := by
    rw [← hl]
    rcases Nat.lt_or_ge a s.data.toList.length with h1 | h1
    · exact h1
    · rw [List.drop_eq_nil_of_le h1] at h
      cases h
  refine ⟨hs, ?_, ?_⟩
  · rw [List.drop_eq_getElem_cons (by rw [hl]; exact hs)] at h
    have := (List.cons.inj h).1
    rw [← this]
    rfl
  · rw [List.drop_eq_getElem_cons (by rw [hl]; exact hs)] at h
    exact (List.cons.inj h).2

theorem ended_any (w : World) (b : Nat) (s : ByteArray) (l : Bs) (x : Bool) (h : RdAt w b s l) (hx : l.isEmpty = x) (_hz : s.size ≤ 1000000) :
    Calls Tryd.prog 38 #[.pointer (some ⟨b, 0, none⟩)] w fun e w' => e = .returned (.bool x) ∧ ∃ n, w' = w.drewN n := by
  obtain ⟨a, ha, hd, hb⟩ := h
  obtain ⟨hm, -⟩ := drop_empty ha hd
  have c0 := cell_at hb 0
  have c1 := cell_at hb 1
  simp at c0 c1
  have hx' : ((a : Int) == (s.size : Int)) = x := by
    subst hx
    rw [Bool.eq_iff_iff, beq_iff_eq, List.isEmpty_iff, hm]
    omega
  have HX := Lib.hid hx'
  clear hx' hm hd hx hb
  go_enter Tryd.func38, Tryd.ntmps38
  go_wp2
  go_quiet (fail)
  go_wp2
  go_ret
  exact ⟨by rw [← HX.out]; rfl, _, rfl⟩

/-- the panic with BadTime -/
abbrev Raised : Ending := .panicked [{ v := .iface 25 (.int .i64 7), recovered := false }]
/-- what a method of the reader answers -/
def Ran {α : Type} (g : Option (α × Bs)) (V : α → Value) (b : Nat) (s : ByteArray) (w : World) (e : Ending) (w' : World) : Prop :=
  match g with
  | none => e = Raised ∧ Fr w w' (· = b)
  | some (v, r) => e = .returned (V v) ∧ RdAt w' b s r ∧ Fr w w' (· = b)
abbrev natV (n : Nat) : Value := .int .i64 (n : Int)
theorem fr_put (w : World) (b n i : Nat) (v : Value) : Fr w ((w.drewN n).setCell ⟨b, i, none⟩ v) (· = b) :=
  (Fr.drewN w n (· = b)).trans (Fr.set (S := (· = b)) rfl) (fun _ _ h => h) (fun _ _ h => h)

theorem next_got (w : World) (b : Nat) (s : ByteArray) (c : UInt8) (l : Bs) (h : RdAt w b s (c :: l)) (hz : s.size ≤ 1000000) :
    Calls Tryd.prog 41 #[.pointer (some ⟨b, 0, none⟩)] w fun e w' => e = .returned (.int .u8 (c.toNat : Int)) ∧ RdAt w' b s l ∧ Fr w w' (· = b) := by
  obtain ⟨a, ha, hd, hb⟩ := h
  obtain ⟨hlt, hc, hd'⟩ := drop_cons hd
  have c0 := cell_at hb 0
  have c1 := cell_at hb 1
  simp at c0 c1
  have h1 : (a : Int) < (s.size : Int) := by omega
  have h2 : (0 : Int) ≤ (a : Int) := by omega
  have f1 := free_at hb 1
  have HB := Lib.hid hb
  have HC := Lib.hid hc
  have HD := Lib.hid hd'
  clear hd hb hc hd'
  go_enter Tryd.func41, Tryd.ntmps41
  go_wp2_with fail
  go_quiet (fail)
  go_wp2_with fail
  go_ret
  refine ⟨by rw [← HC.out]; rfl, ⟨a + 1, by omega, HD.out, ?_⟩, ?_⟩
  · exact Blk.put' (HB.out : Blk (w.drewN _) b _ _) 1 _ (by simp)
  · exact fr_put _ _ _ _ _

theorem takes_none (w : World) (b : Nat) (s : ByteArray) (d : Int) (h : RdAt w b s []) (hz : s.size ≤ 1000000) :
    Calls Tryd.prog 39 #[.pointer (some ⟨b, 0, none⟩), .int .u8 d] w fun e w' => e = .returned (.bool false) ∧ ∃ n, w' = w.drewN n := by
  have HE := Lib.hid (fun W => fun (e : ∃ m, W = w.drewN m) => ended_any W b s [] true (by obtain ⟨m, rfl⟩ := e; exact h) rfl hz)
  clear h
  go_enter Tryd.func39, Tryd.ntmps39
  go_wp2_with fail
  go_quiet ((go_at_call 38; exact Calls.quiet_of (HE.out _ ⟨_, rfl⟩)))
  go_wp2_with fail
  go_ret
  exact ⟨rfl, _, rfl⟩
theorem takes_no (w : World) (b : Nat) (s : ByteArray) (c : UInt8) (l : Bs) (d : Int) (h : RdAt w b s (c :: l)) (hx : ((c.toNat : Int) == d) = false) (hz : s.size ≤ 1000000) :
    Calls Tryd.prog 39 #[.pointer (some ⟨b, 0, none⟩), .int .u8 d] w fun e w' => e = .returned (.bool false) ∧ ∃ n, w' = w.drewN n := by
  have HE := Lib.hid (fun W => fun (e : ∃ m, W = w.drewN m) => ended_any W b s (c :: l) false (by obtain ⟨m, rfl⟩ := e; exact h) rfl hz)
  obtain ⟨a, ha, hd, hb⟩ := h
  obtain ⟨hlt, hc, -⟩ := drop_cons hd
  have c0 := cell_at hb 0
  have c1 := cell_at hb 1
  simp at c0 c1
  have hx' : ((s[a].toNat : Int) == d) = false := by rw [hc]; exact hx
  have hx2 : ((s[a].toNat : Int) != d) = true := by simp [bne, hx']
  have h1 : (a : Int) < (s.size : Int) := by omega
  have h2 : (0 : Int) ≤ (a : Int) := by omega
  clear hd hx hb hc
  go_enter Tryd.func39, Tryd.ntmps39
  go_wp2_with fail
  go_quiet ((go_at_call 38; exact Calls.quiet_of (HE.out _ ⟨_, rfl⟩)))
  go_wp2_with fail
  go_ret
  exact ⟨rfl, _, rfl⟩
theorem takes_yes (w : World) (b : Nat) (s : ByteArray) (c : UInt8) (l : Bs) (d : Int) (h : RdAt w b s (c :: l)) (hx : (c.toNat : Int) = d) (hz : s.size ≤ 1000000) :
    Calls Tryd.prog 39 #[.pointer (some ⟨b, 0, none⟩), .int .u8 d] w fun e w' => e = .returned (.bool true) ∧ RdAt w' b s l ∧ Fr w w' (· = b) := by
  have HE := Lib.hid (fun W => fun (e : ∃ m, W = w.drewN m) => ended_any W b s (c :: l) false (by obtain ⟨m, rfl⟩ := e; exact h) rfl hz)
  obtain ⟨a, ha, hd, hb⟩ := h
  obtain ⟨hlt, hc, hd'⟩ := drop_cons hd
  have c0 := cell_at hb 0
  have c1 := cell_at hb 1
  simp at c0 c1
  have hx' : ((s[a].toNat : Int) == d) = true := by rw [hc]; simpa using hx
  have hx2 : ((s[a].toNat : Int) != d) = false := by simp [bne, hx']
  have h1 : (a : Int) < (s.size : Int) := by omega
  have h2 : (0 : Int) ≤ (a : Int) := by omega
  have f1 := free_at hb 1
  have HB := Lib.hid hb
  have HD := Lib.hid hd'
  clear hd hx hb hc hd'
  go_enter Tryd.func39, Tryd.ntmps39
  go_wp2_with fail
  go_quiet ((go_at_call 38; exact Calls.quiet_of (HE.out _ ⟨_, rfl⟩)))
  go_wp2_with fail
  go_ret
  refine ⟨rfl, ⟨a + 1, by omega, HD.out, ?_⟩, ?_⟩
  · exact Blk.put' (HB.out : Blk (w.drewN _) b _ _) 1 _ (by simp)
  · exact fr_put _ _ _ _ _

theorem sees_none (w : World) (b : Nat) (s : ByteArray) (h : RdAt w b s []) (hz : s.size ≤ 1000000) :
    Calls Tryd.prog 49 #[.pointer (some ⟨b, 0, none⟩)] w fun e w' => e = .returned (.bool false) ∧ ∃ n, w' = w.drewN n := by
  have HE := Lib.hid (fun W => fun (e : ∃ m, W = w.drewN m) => ended_any W b s [] true (by obtain ⟨m, rfl⟩ := e; exact h) rfl hz)
  clear h
  go_enter Tryd.func49, Tryd.ntmps49
  go_wp2_with fail
  go_quiet ((go_at_call 38; exact Calls.quiet_of (HE.out _ ⟨_, rfl⟩)))
  go_wp2_with fail
  go_ret
  exact ⟨rfl, _, rfl⟩
theorem sees_some (w : World) (b : Nat) (s : ByteArray) (c : UInt8) (l : Bs) (x : Bool) (h : RdAt w b s (c :: l)) (hx : digB c = x) (hz : s.size ≤ 1000000) :
    Calls Tryd.prog 49 #[.pointer (some ⟨b, 0, none⟩)] w fun e w' => e = .returned (.bool x) ∧ ∃ n, w' = w.drewN n := by
  have HE := Lib.hid (fun W => fun (e : ∃ m, W = w.drewN m) => ended_any W b s (c :: l) false (by obtain ⟨m, rfl⟩ := e; exact h) rfl hz)
  obtain ⟨a, ha, hd, hb⟩ := h
  obtain ⟨hlt, hc, -⟩ := drop_cons hd
  have c0 := cell_at hb 0
  have c1 := cell_at hb 1
  simp at c0 c1
  have h1 : (a : Int) < (s.size : Int) := by omega
  have h2 : (0 : Int) ≤ (a : Int) := by omega
  by_cases p1 : 48 ≤ c.toNat
  · have q1 : decide ((48 : Int) ≤ (s[a].toNat : Int)) = true := by rw [hc]; simp; omega
    by_cases p2 : c.toNat ≤ 57
    · have q2 : decide ((s[a].toNat : Int) ≤ 57) = true := by rw [hc]; simp; omega
      have hf : x = true := by rw [← hx]; exact (digB_iff c).2 ⟨p1, p2⟩
      subst hf
      clear hd hx hb hc p1 p2
      go_enter Tryd.func49, Tryd.ntmps49
      go_wp2_with fail
      go_quiet ((go_at_call 38; exact Calls.quiet_of (HE.out _ ⟨_, rfl⟩)))
      go_wp2_with fail
      go_ret
      exact ⟨rfl, _, rfl⟩
    · have q2 : decide ((s[a].toNat : Int) ≤ 57) = false := by rw [hc]; simp; omega
      have hf : x = false := by
        rw [← hx, Bool.eq_false_iff]
        intro e
        exact p2 ((digB_iff c).1 e).2
      subst hf
      clear hd hx hb hc p1 p2
      go_enter Tryd.func49, Tryd.ntmps49
      go_wp2_with fail
      go_quiet ((go_at_call 38; exact Calls.quiet_of (HE.out _ ⟨_, rfl⟩)))
      go_wp2_with fail
      go_ret
      exact ⟨rfl, _, rfl⟩
  · have q1 : decide ((48 : Int) ≤ (s[a].toNat : Int)) = false := by rw [hc]; simp; omega
    have hf : x = false := by
      rw [← hx, Bool.eq_false_iff]
      intro e
      exact p1 ((digB_iff c).1 e).1
    subst hf
    clear hd hx hb hc p1
    go_enter Tryd.func49, Tryd.ntmps49
    go_wp2_with fail
    go_quiet ((go_at_call 38; exact Calls.quiet_of (HE.out _ ⟨_, rfl⟩)))
    go_wp2_with fail
    go_ret
    exact ⟨rfl, _, rfl⟩
end Go.Proofs.YtgfmodfakcbgfaaDoor
