import Derived.Test.YtognobpgagaamaaDoorProg
import Derived.Test.YtognobpgagaamaaDoorMem
import Derived.Test.YtognobpgagaamaaDoorPla
import Derived.BigQuiet
import Derived.Deep.QuietTactic
import Derived.Deep.DeepCutAuto
import Derived.WalkLawsBesides
import Derived.IntWalk
import Derived.Lib.Hide
import Derived.Tactics2
import Derived.Deep.LoopGhost
import Derived.Lib.ConvBytes
import Derived.Lib.AppendIntMem
import Derived.SliceStrings
namespace Go.Proofs.YtognobpgagaamaaDoor
open Go.RowKit Go.Mem Go.Kwd

abbrev strV (l : Bs) : Value := .string ⟨l.toArray⟩
abbrev u8V (c : UInt8) : Value := .int .u8 (c.toNat : Int)
theorem infoB : (Tryd.prog.info? 5).map (fun i => (i.zero, i.size, i.bytes)) = some (some (.int .u8 0), 1, 1) := by kernel_rfl
theorem infoS : (Tryd.prog.info? 9).map (fun i => (i.zero, i.size, i.bytes)) = some (some (.string ⟨#[]⟩), 1, 16) := by kernel_rfl
theorem str_size (l : Bs) : (⟨l.toArray⟩ : ByteArray).size = l.length := by show l.toArray.size = _; simp
theorem bytes_len (s : ByteArray) : s.data.toList.length = s.size := by rw [Array.length_toList]; rfl
theorem strV_of (s : ByteArray) : Value.string s = strV s.data.toList := by
  show Value.string s = .string ⟨s.data.toList.toArray⟩
  congr
theorem run_add_str {P : Program} (w : World) (a b : Bs) (h : a.length + b.length ≤ 1000000) : (Op.stringOp .add ⟨a.toArray⟩ ⟨b.toArray⟩).run P w = .ok (strV (a ++ b)) w := by
  rw [run_string_add_sum w _ _ (by show a.toArray.size + b.toArray.size ≤ _; simp; omega)]
  show Result.ok (Value.string ((⟨a.toArray⟩ : ByteArray) ++ ⟨b.toArray⟩)) w = .ok (.string ⟨(a ++ b).toArray⟩) w
  congr 2
theorem ff {a c d : World} (h : Fr a c (fun _ => False)) (h2 : Fr c d (fun _ => False)) : Fr a d (fun _ => False) := h.trans h2 (fun _ _ h => h) (fun _ _ h => h)
theorem fd {a b : World} (h : Fr a b (fun _ => False)) (n : Nat) : Fr a (b.drewN n) (fun _ => False) := ff h (Fr.drewN _ _ _)
theorem _root_.Go.Mem.Fr.cell0 {a c : World} {b o : Nat} {v : Value} (h : Fr a c (fun _ => False)) (hc : a.cell? ⟨b, o, none⟩ = some v) : c.cell? ⟨b, o, none⟩ = some v :=
  (World.cell?_of_block (w := a) (h.block b (World.block_lt_of_cell? a _ hc) (fun h => h))).trans hc
theorem drop_cons {s : ByteArray} {a : Nat} {c : UInt8} {l : Bs} (h : s.data.toList.drop a = c :: l) : ∃ hs : a < s.size, s[a] = c ∧ s.data.toList.drop (a + 1) = l := by
  have hl : s.data.toList.length = s.size := bytes_len s
  have hs : a < s.size := by
    rw [← hl]
    rcases Nat.lt_or_ge a s.data.toList.length with h1 | h1
    · exact h1
    · rw [List.drop_eq_nil_of_le h1] at h
      cases h
  refine ⟨hs, ?_, ?_⟩
  · rw [List.drop_eq_getElem_cons (by rw [hl]; exact hs)] at h
    have := (List.cons.inj h).1
    rw [← this]
    rfl
  · rw [List.drop_eq_getElem_cons (by rw [hl]; exact hs)] at h
    exact (List.cons.inj h).2
theorem get_str {s : ByteArray} {l : Bs} (h : s.data.toList = l) {k : Nat} (hk : k < s.size) : l[k]? = some s[k] := by
  subst h
  rw [List.getElem?_eq_getElem (by rw [bytes_len]; exact hk)]
  rfl
theorem toNat_ne {c : UInt8} {n : Int} {k : UInt8} (h : c ≠ k) (hn : n = c.toNat) : (n == (k.toNat : Int)) = false := by
  rw [beq_eq_false_iff_ne]
  intro e
  exact h (UInt8.toNat_inj.1 (by omega))
theorem byte_lt (c : UInt8) : (c.toNat : Int) < 256 := by have := c.toNat_lt; omega
theorem strV_ne {x y : Bs} (h : x ≠ y) : (x == y) = false := by simpa using h

/-- a slice of texts at a place -/
theorem strs_at {w : World} {A : Option Addr} {n : Nat} {ls : List Bs} (h : Rd w 1 A n (ls.map strV)) {k : Nat} (hk : k < n) :
    ∃ b off x, A = some ⟨b, off, none⟩ ∧ ls[k]? = some x ∧ w.cell? ⟨b, off + k, none⟩ = some (strV x) := by
  obtain ⟨b, off, u, e, hu, hc⟩ := h.at_ hk
  rw [List.getElem?_map] at hu
  obtain ⟨x, hx, rfl⟩ := Option.map_eq_some_iff.1 hu
  exact ⟨b, off, x, e, hx, hc⟩
theorem strs_len {w : World} {A : Option Addr} {n : Nat} {ls : List Bs} (h : Rd w 1 A n (ls.map strV)) : ls.length = n := by have := h.1; simpa using this
theorem strs_fr {w w' : World} {A : Option Addr} {n : Nat} {ls : List Bs} (h : Rd w 1 A n (ls.map strV)) (hf : Fr w w' (fun _ => False)) : Rd w' 1 A n (ls.map strV) := Rd.fr h hf (fun _ _ _ _ h => h)
/-- an extract of a text as a list -/
theorem ext_take (l : Bs) (k : Nat) : (⟨l.toArray⟩ : ByteArray).extract 0 k = ⟨(l.take k).toArray⟩ := by
  apply ByteArray.ext
  apply Array.toList_inj.1
  simp [List.extract]

/-- the variables that the code reads hold what the program's text lays -/
structure WOk (w : World) : Prop where
  pow : ∃ B, B ≤ w.heap.size ∧ Lib.TabBelow Tryd.prog B w "internal/strconv.uint64pow10" .u64 Lib.pow10Tab
  max : ∃ m, w.cell? ⟨3, 0, none⟩ = some (.int .i64 m)
  ran : ∃ t p, w.cell? ⟨1, 0, none⟩ = some (.iface t p)
theorem WOk.fr {w w' : World} (h : WOk w) (f : Fr w w' (fun _ => False)) : WOk w' := by
  refine ⟨?_, ?_, ?_⟩
  · obtain ⟨B, hB, ht⟩ := h.pow
    exact ⟨B, Nat.le_trans hB f.size, ht.on (f.below hB (fun _ h => h.elim))⟩
  · obtain ⟨m, hm⟩ := h.max
    exact ⟨m, f.cell0 hm⟩
  · obtain ⟨t, p, hm⟩ := h.ran
    exact ⟨t, p, f.cell0 hm⟩
end Go.Proofs.YtognobpgagaamaaDoor
