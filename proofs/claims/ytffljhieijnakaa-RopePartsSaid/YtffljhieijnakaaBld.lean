import Derived.Test.YtffljhieijnakaaProg
import Derived.Test.YtffljhieijnakaaMem
import Derived.Test.YtffljhieijnakaaNof
import Derived.Shelf.Strings.BuilderK
import Derived.Lib.FrozenHead2
import Derived.Lib.Hide
namespace Go.Proofs.Ytffljhieijnakaa
open Go.RowKit Go.Mem Go.Rope

theorem infoB : (Try.prog.info? 5).map (fun i => (i.zero, i.size, i.bytes)) = some (some (.int .u8 0), 1, 1) := by kernel_rfl
theorem infoS : (Try.prog.info? 9).map (fun i => (i.zero, i.size, i.bytes)) = some (some (.string ⟨#[]⟩), 1, 16) := by kernel_rfl
theorem infoBuilder : (Try.prog.info? 72).map (fun i => i.size) = some 2 := by kernel_rfl

/-- block b is a Builder that holds the bytes l -/
def IsB (w : World) (b : Nat) (l : Bs) : Prop := Lib.IsBuilderF 72 5 b b (Lib.byteCells l) w
theorem IsB.lt {w : World} {b : Nat} {l : Bs} (h : IsB w b l) : b < w.heap.size := h.elim (fun x => x.lt) (fun x => x.lt)

theorem IsB.fr {w w' : World} {b : Nat} {l : Bs} {S : Nat → Prop} (h : IsB w b l) (hf : Fr w w' S) (hs : ∀ k, b ≤ k → ¬ S k) : IsB w' b l := by
  have each : ∀ p, Lib.BuilderAtF 72 5 b b p (Lib.byteCells l) w → Lib.BuilderAtF 72 5 b b p (Lib.byteCells l) w' := by
    rintro p ⟨hB, v, hb, hown, hne⟩
    refine ⟨hB, v, (hf.block b (Array.getElem?_eq_some_iff.1 hb).1 (hs b (Nat.le_refl _))).trans hb, ?_, hne⟩
    refine ⟨hown.1, ?_⟩
    rcases hown.2 with hn | ⟨g, cap, cur, fz, rfl, hbg, hgg, rest⟩
    · exact .inl hn
    · exact .inr ⟨g, cap, cur, fz, rfl, hbg, (hf.block g (Array.getElem?_eq_some_iff.1 hgg).1 (hs g hbg)).trans hgg, rest⟩
  exact h.imp (each _) (each _)
theorem isB_new (w : World) : IsB (w.alloc (.cells #[.pointer none, .slice none 0 0] 72)) w.heap.size [] :=
  .inl ⟨Nat.le_refl _, _, heap_alloc_new w _, ⟨rfl, .inl ⟨rfl, rfl⟩⟩, by simp [Value.ownBlock]⟩

theorem copyCheck_any (B b : Nat) (bs : List Value) (w : World) (h : Lib.IsBuilderF 72 5 B b bs w) :
    Calls Try.prog 52 #[.pointer (some ⟨b, 0, none⟩)] w fun e w' => e = .returned (.tuple #[]) ∧ (Lib.BuilderAtF 72 5 B b (.pointer (some ⟨b, 0, none⟩)) bs w' ∧ Below B w w') := by
  obtain ⟨j, hj, hjs⟩ : ∃ j, Try.prog.info? 72 = some j ∧ j.size = 2 := by
    have := infoBuilder
    cases hi : Try.prog.info? 72 with
    | none => rw [hi] at this; cases this
    | some j => rw [hi] at this; exact ⟨j, rfl, by simpa using this⟩
  rcases h with h | h
  · have c0 := h.cell0
    have f0 := h.frozen0
    have hsh := h.shape
    have he : ∀ w, (binOp .eql 69 (.pointer none) (.pointer none)).run Try.prog w = .ok (.bool true) w := fun w => by kernel_rfl
    have hto := Lib.run_to_unsafe (P := Try.prog) w (src := 69) (dst := 85) ⟨b, 0, none⟩ Try.underlying69 Try.underlying85 hj (by omega) hsh (by show (0 : Nat) < 2; decide)
    have hfrom := Lib.run_from_unsafe (P := Try.prog) w (src := 85) (dst := 69) ⟨b, 0, none⟩ Try.underlying85 Try.underlying69 hj hsh (by kernel_rfl)
    have hne : ∀ w, (callFunc 59 #[.pointer (some ⟨b, 0, none⟩)]).run Try.prog w = .ok (.value (.pointer (some ⟨b, 0, none⟩))) w := fun w => by kernel_rfl
    have hb2 := h.used (.pointer (some ⟨b, 0, none⟩))
    have c2 := hb2.cell0
    have hs2 := fun (w : World) => Lib.run_neq_ptr_same (P := Try.prog) w (tp := 69) ⟨b, 0, none⟩ Try.underlying69 hj
    have HX := Lib.hid hb2
    have HB := Lib.hid h.1
    clear hb2 h
    go_enter Try.func52, Try.ntmps52
    go_wp2
    go_end0
    exact ⟨rfl, HX.out, (Below.refl B w).setCell (p := ⟨b, 0, none⟩) HB.out _⟩
  · have c0 := h.cell0
    have hs2 := fun (w : World) => Lib.run_neq_ptr_same (P := Try.prog) w (tp := 69) ⟨b, 0, none⟩ Try.underlying69 hj
    have he : ∀ w, (binOp .eql 69 (.pointer (some ⟨b, 0, none⟩)) (.pointer none)).run Try.prog w = .ok (.bool false) w := fun w => by kernel_rfl
    have HX := Lib.hid h
    clear h
    go_enter Try.func52, Try.ntmps52
    go_wp2
    go_end0
    exact ⟨rfl, HX.out, Below.refl B _⟩

set_option maxHeartbeats 400000 in
theorem btext_any (b : Nat) (l t : Bs) (s : ByteArray) (w : World) (h : IsB w b l) (hlen : l.length + t.length ≤ 1000000) (hs : s.data.toList = t) :
    Calls Try.prog 54 #[.pointer (some ⟨b, 0, none⟩), .string s] w fun e w' => e = .returned (.tuple #[.int .i64 s.size, .nilIface]) ∧ IsB w' b (l ++ t) ∧ Fr w w' (fun k => b ≤ k) := by
  obtain ⟨i0, hi, hz0, hz1, hz2⟩ := info_parts infoB
  have hl : (Lib.byteCells l).length = l.length := by simp [Lib.byteCells]
  have HBC := Lib.hid (show Lib.byteCells (l ++ t) = Lib.byteCells l ++ Lib.strCells s by simp [Lib.byteCells, Lib.strCells, hs])
  have hss : s.size = t.length := by rw [← hs]; rfl
  have hlt := h.lt
  have h' : Lib.IsBuilderF 72 5 b b (Lib.byteCells l) w := h
  clear h
  generalize Lib.byteCells l = bs at h' hl HBC
  rw [← hl, ← hss] at hlen
  clear hl hs hss
  go_enter Try.func54, Try.ntmps54
  go_wp2_with fail
  refine (copyCheck_any b b bs w h').mono ?_
  rintro e w1 ⟨rfl, h1, hb1⟩
  obtain ⟨hB, v, hbk, hown, hne⟩ := h1
  have c1 : w1.cell? ⟨b, 1, none⟩ = some v := by rw [Lib.cell_of_heap hbk]; rfl
  have hsz := hb1.size
  go_wp2_with (at_builtin; refine Lib.wpList_append_own_stringF _ rfl _ _ 70 9 rfl b 5 i0 Try.underlying70 Try.underlying9 hi hz0 hz1 hz2 _ _ _ rfl hown s rfl ?c3 ?c4 ?c5 ?_)
  case c3 => unfold maxLen; omega
  case c4 => omega
  case c5 => omega
  intro v' w2 hown' hgrow _
  have hlt1 : b < w1.heap.size := by omega
  have hb2 : w2.heap[b]? = some (.cells #[.pointer (some ⟨b, 0, none⟩), v] 72 (0, 0)) := by
    rw [hgrow.block b hlt1 (fun e => hne e.symm)]
    exact hbk
  have d0 : w2.cell? ⟨b, 0, none⟩ = some (.pointer (some ⟨b, 0, none⟩)) := by rw [Lib.cell_of_heap hb2]; rfl
  have d1 : w2.cell? ⟨b, 1, none⟩ = some v := by rw [Lib.cell_of_heap hb2]; rfl
  have f1 : w2.frozen? ⟨b, 1, none⟩ = false := Lib.frozen_of_heap hb2 1
  obtain ⟨ao, n', cap, rfl⟩ : ∃ ao n' cap, v' = .slice ao n' cap := by
    rcases hown'.2 with ⟨hv, _⟩ | ⟨g, cap, cur, fz, hv, _⟩
    · exact ⟨_, _, _, hv⟩
    · exact ⟨_, _, _, hv⟩
  go_wp2
  go_ret2
  refine ⟨rfl, ?_, ?_⟩
  · exact .inr (HBC.out ▸ Lib.BuilderAtF.put (T := 72) (e := 5) hB hb2 (bs' := bs ++ Lib.strCells s) (by simpa [Lib.strCells_length] using hown') (by decide))
  · exact Fr.ofBelow ((hb1.grown hgrow (by omega) (fun k hk => (hown.lt k hk).1)).setCell (p := ⟨b, 1, none⟩) hB _)

theorem bstring_any (b : Nat) (l : Bs) (w : World) (h : IsB w b l) :
    Calls Try.prog 44 #[.pointer (some ⟨b, 0, none⟩)] w fun e w' => e = .returned (.string ⟨l.toArray⟩) ∧ Fr w w' (fun k => b ≤ k) :=
  (Try.Builder_String_any_k b b l w h (Nat.le_of_lt h.lt)).mono fun _ _ ⟨he, _, hb, _⟩ => ⟨he, Fr.ofBelow hb⟩
theorem bgrow_any (w : World) (n : Nat) (hn : n ≤ 1000000) :
    Calls Try.prog 42 #[.pointer (some ⟨w.heap.size, 0, none⟩), .int .i64 (n : Int)] (w.alloc (.cells #[.pointer none, .slice none 0 0] 72)) fun e w' => e = .returned (.tuple #[]) ∧ IsB w' w.heap.size [] ∧ Fr w w' (fun _ => False) :=
  (Try.Builder_Grow_fresh w.heap.size w.heap.size n _ (Nat.le_refl _) (heap_alloc_new w _) (by simp) (by omega)).mono fun _ _ ⟨he, hB, hb⟩ =>
    ⟨he, .inr (Lib.BuilderAtF.of hB), (Fr.new w _ (fun _ => False)).fresh (Fr.ofBelow hb) (fun k hk => hk)⟩

def Wrote (b : Nat) (l : Bs) (w : World) (e : Ending) (w' : World) : Prop := e = .returned (.tuple #[]) ∧ IsB w' b l ∧ Fr w w' (fun k => b ≤ k)
theorem bb {b : Nat} {a c d : World} (h : Fr a c (fun k => b ≤ k)) (h2 : Fr c d (fun k => b ≤ k)) : Fr a d (fun k => b ≤ k) := h.trans h2 (fun _ _ h => h) (fun _ _ h => h)
theorem NodeAt.kept {w w' : World} {B b : Nat} {v : Value} {s : Bs} {h : Nat} (n : NodeAt w B v s h) (hf : Fr w w' (fun k => b ≤ k)) (hB : B ≤ b) : NodeAt w' B v s h := n.fr hf (fun k hk hb => by omega) (Nat.le_refl _)
def WriteOk (m : Nat) : Prop := ∀ {w : World} {B b : Nat} {v : Value} {s acc : Bs} {h f t : Nat}, NodeAt w B v s h → B ≤ b → IsB w b acc → f ≤ t → t ≤ s.length → acc.length + s.length ≤ 500000 → h ≤ m →
    Calls Try.prog 43 #[v, .pointer (some ⟨b, 0, none⟩), .int .i64 (f : Int), .int .i64 (t : Int)] w (Wrote b (acc ++ cut s f t) w)

theorem write_none {w : World} {b : Nat} {v : Value} {s acc : Bs} {f : Nat} (hb : IsB w b acc) : Calls Try.prog 43 #[v, .pointer (some ⟨b, 0, none⟩), .int .i64 (f : Int), .int .i64 (f : Int)] w (Wrote b (acc ++ cut s f f) w) := by
  have e : acc ++ cut s f f = acc := by simp [cut_eq]
  rw [e]
  have HB := Lib.hid hb
  have t1 : ((f : Int) == (f : Int)) = true := by simp
  clear hb e
  go_enter Try.func43, Try.ntmps43
  go_wp2_with fail
  go_end0
  exact ⟨rfl, HB.out, Fr.refl _ _⟩
theorem write_leaf {w : World} {B b : Nat} {v : Value} {s acc : Bs} {h f t : Nat} (n : NodeAt w B v s h) (hb : IsB w b acc) (h1 : f < t) (h2 : t ≤ s.length) (hl : acc.length + s.length ≤ 500000) (hh : h = 1) :
    Calls Try.prog 43 #[v, .pointer (some ⟨b, 0, none⟩), .int .i64 (f : Int), .int .i64 (t : Int)] w (Wrote b (acc ++ cut s f t) w) := by
  obtain ⟨g, rfl, kg, -, -, -⟩ := n.one hh
  have c2 := cell_at kg 2
  have c5 := cell_at kg 5
  simp at c2 c5
  have hs := str_size s
  have HT := Lib.hid (btext_any b acc (cut s f t) ((⟨s.toArray⟩ : ByteArray).extract f t) w hb (by rw [cut_len (by omega) h2]; omega) (by rw [str_ext]))
  have t1 : ((f : Int) == (t : Int)) = false := by simp; omega
  have i0 : (0 : Int) ≤ (f : Int) := by omega
  have i1 : (f : Int) ≤ (t : Int) := by omega
  have i2 : (t : Int) ≤ (s.length : Int) := by omega
  clear n hb kg
  go_enter Try.func43, Try.ntmps43
  go_wp2_with fail
  refine HT.out.mono ?_
  rintro e w2 ⟨rfl, hb2, hf2⟩
  have HB2 := Lib.hid hb2
  have HF2 := Lib.hid hf2
  clear hb2 hf2
  go_wp2_with fail
  go_end0
  exact ⟨rfl, HB2.out, HF2.out⟩
end Go.Proofs.Ytffljhieijnakaa
