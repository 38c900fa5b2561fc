import Derived.Test.YtbolgodoifbnnaaDoorProg
import Derived.Test.YtbolgodoifbnnaaDoorMem
import Derived.Test.YtbolgodoifbnnaaDoorPlain
import Derived.Test.YtbolgodoifbnnaaDoorShelf
import Derived.Shelf.Strings.BuilderK
import Derived.Lib.FrozenHead2
import Derived.Lib.Hide
namespace Go.Proofs.YtbolgodoifbnnaaDoor
open Go.RowKit Go.Mem Go.Esc

theorem infoB : (Tryd.prog.info? 5).map (fun i => (i.zero, i.size, i.bytes)) = some (some (.int .u8 0), 1, 1) := by kernel_rfl
theorem infoS : (Tryd.prog.info? 9).map (fun i => (i.zero, i.size, i.bytes)) = some (some (.string ⟨#[]⟩), 1, 16) := by kernel_rfl
theorem infoBuilder : (Tryd.prog.info? 48).map (fun i => i.size) = some 2 := by kernel_rfl

/-- block b is a Builder that holds the bytes l -/
def IsB (w : World) (b : Nat) (l : Bs) : Prop := Lib.IsBuilderF 48 5 b b (Lib.byteCells l) w
theorem IsB.lt {w : World} {b : Nat} {l : Bs} (h : IsB w b l) : b < w.heap.size := h.elim (fun x => x.lt) (fun x => x.lt)

theorem IsB.fr {w w' : World} {b : Nat} {l : Bs} {S : Nat → Prop} (h : IsB w b l) (hf : Fr w w' S) (hs : ∀ k, b ≤ k → ¬ S k) : IsB w' b l := by
  have each : ∀ p, Lib.BuilderAtF 48 5 b b p (Lib.byteCells l) w → Lib.BuilderAtF 48 5 b b p (Lib.byteCells l) w' := by
    rintro p ⟨hB, v, hb, hown, hne⟩
    refine ⟨hB, v, (hf.block b (Array.getElem?_eq_some_iff.1 hb).1 (hs b (Nat.le_refl _))).trans hb, ?_, hne⟩
    refine ⟨hown.1, ?_⟩
    rcases hown.2 with hn | ⟨g, cap, cur, fz, rfl, hbg, hgg, rest⟩
    · exact .inl hn
    · exact .inr ⟨g, cap, cur, fz, rfl, hbg, (hf.block g (Array.getElem?_eq_some_iff.1 hgg).1 (hs g hbg)).trans hgg, rest⟩
  exact h.imp (each _) (each _)
theorem isB_new (w : World) : IsB (w.alloc (.cells #[.pointer none, .slice none 0 0] 48)) w.heap.size [] :=
  .inl ⟨Nat.le_refl _, _, heap_alloc_new w _, ⟨rfl, .inl ⟨rfl, rfl⟩⟩, by simp [Value.ownBlock]⟩

theorem copyCheck_any (B b : Nat) (bs : List Value) (w : World) (h : Lib.IsBuilderF 48 5 B b bs w) :
    Calls Tryd.prog 44 #[.pointer (some ⟨b, 0, none⟩)] w fun e w' => e = .returned (.tuple #[]) ∧ (Lib.BuilderAtF 48 5 B b (.pointer (some ⟨b, 0, none⟩)) bs w' ∧ Below B w w') := by
  obtain ⟨j, hj, hjs⟩ : ∃ j, Tryd.prog.info? 48 = some j ∧ j.size = 2 := by
    have := infoBuilder
    cases hi : Tryd.prog.info? 48 with
    | none => rw [hi] at this; cases this
    | some j => rw [hi] at this; exact ⟨j, rfl, by simpa using this⟩
  rcases h with h | h
  · have c0 := h.cell0
    have f0 := h.frozen0
    have hsh := h.shape
    have he : ∀ w, (binOp .eql 45 (.pointer none) (.pointer none)).run Tryd.prog w = .ok (.bool true) w := fun w => by kernel_rfl
    have hto := Lib.run_to_unsafe (P := Tryd.prog) w (src := 45) (dst := 84) ⟨b, 0, none⟩ Tryd.underlying45 Tryd.underlying84 hj (by omega) hsh (by show (0 : Nat) < 2; decide)
    have hfrom := Lib.run_from_unsafe (P := Tryd.prog) w (src := 84) (dst := 45) ⟨b, 0, none⟩ Tryd.underlying84 Tryd.underlying45 hj hsh (by kernel_rfl)
    have hne : ∀ w, (callFunc 59 #[.pointer (some ⟨b, 0, none⟩)]).run Tryd.prog w = .ok (.value (.pointer (some ⟨b, 0, none⟩))) w := fun w => by kernel_rfl
    have hb2 := h.used (.pointer (some ⟨b, 0, none⟩))
    have c2 := hb2.cell0
    have hs2 := fun (w : World) => Lib.run_neq_ptr_same (P := Tryd.prog) w (tp := 45) ⟨b, 0, none⟩ Tryd.underlying45 hj
    have HX := Lib.hid hb2
    have HB := Lib.hid h.1
    clear hb2 h
    go_enter Tryd.func44, Tryd.ntmps44
    go_wp2
    go_end0
    exact ⟨rfl, HX.out, (Below.refl B w).setCell (p := ⟨b, 0, none⟩) HB.out _⟩
  · have c0 := h.cell0
    have hs2 := fun (w : World) => Lib.run_neq_ptr_same (P := Tryd.prog) w (tp := 45) ⟨b, 0, none⟩ Tryd.underlying45 hj
    have he : ∀ w, (binOp .eql 45 (.pointer (some ⟨b, 0, none⟩)) (.pointer none)).run Tryd.prog w = .ok (.bool false) w := fun w => by kernel_rfl
    have HX := Lib.hid h
    clear h
    go_enter Tryd.func44, Tryd.ntmps44
    go_wp2
    go_end0
    exact ⟨rfl, HX.out, Below.refl B _⟩

set_option maxHeartbeats 400000 in
theorem bbyte_any (b : Nat) (l : Bs) (c : UInt8) (n : Int) (w : World) (h : IsB w b l) (hlen : l.length ≤ 1000000) (hn : n = (c.toNat : Int)) :
    Calls Tryd.prog 28 #[.pointer (some ⟨b, 0, none⟩), .int .u8 n] w fun e w' => e = .returned .nilIface ∧ IsB w' b (l ++ [c]) ∧ Fr w w' (fun k => b ≤ k) := by
  subst hn
  obtain ⟨i0, hi, hz0, hz1, hz2⟩ := info_parts infoB
  have hl : (Lib.byteCells l).length = l.length := by simp [Lib.byteCells]
  have HBC := Lib.hid (show Lib.byteCells (l ++ [c]) = Lib.byteCells l ++ [.int .u8 c.toNat] by simp [Lib.byteCells])
  have hlt := h.lt
  have h' : Lib.IsBuilderF 48 5 b b (Lib.byteCells l) w := h
  clear h
  generalize Lib.byteCells l = bs at h' hl HBC
  rw [← hl] at hlen
  have HL := Lib.hid hl
  clear hl
  go_enter Tryd.func28, Tryd.ntmps28
  go_wp2_with fail
  refine (copyCheck_any b b bs w h').mono ?_
  rintro e w1 ⟨rfl, h1, hb1⟩
  obtain ⟨hB, v, hbk, hown, hne⟩ := h1
  have c1 : w1.cell? ⟨b, 1, none⟩ = some v := by rw [Lib.cell_of_heap hbk]; rfl
  have hsz := hb1.size
  go_wp2_with (at_builtin; refine wpList_append_ownF _ rfl _ _ 46 rfl b 5 i0 (.int .u8 0) 1 1 Tryd.underlying46 hi hz0 hz1 hz2 rfl (by decide) _ _ _ rfl (hown.alloc _) ⟨w1.heap.size, 0, none⟩ 1 1 [.int .u8 c.toNat] rfl rfl ?c1 ?c2 ?c3 ?c4 ?c5 ?_)
  case c1 =>
    intro j u hj
    match j, hj with
    | 0, hj => simp at hj; subst hj; simp [Addr.add]
  case c2 => intro u hu; simp at hu; subst hu; rfl
  case c3 => unfold maxLen; omega
  case c4 => omega
  case c5 => simp; omega
  intro v' w2 hown' hgrow _
  have hlt1 : b < w1.heap.size := by omega
  have hb2 : w2.heap[b]? = some (.cells #[.pointer (some ⟨b, 0, none⟩), v] 48 (0, 0)) := by
    rw [hgrow.block b (by simp; omega) (fun e => hne e.symm), Lib.alloc_old w1 _ b hlt1]
    exact hbk
  have d0 : w2.cell? ⟨b, 0, none⟩ = some (.pointer (some ⟨b, 0, none⟩)) := by rw [Lib.cell_of_heap hb2]; rfl
  have d1 : w2.cell? ⟨b, 1, none⟩ = some v := by rw [Lib.cell_of_heap hb2]; rfl
  have f1 : w2.frozen? ⟨b, 1, none⟩ = false := Lib.frozen_of_heap hb2 1
  obtain ⟨g, cap, rfl⟩ : ∃ g cap, v' = .slice (some ⟨g, 0, none⟩) (bs.length + 1) cap := by
    rcases hown'.2 with ⟨_, h0⟩ | ⟨g, cap, cur, fz, hv, _⟩
    · omega
    · exact ⟨g, cap, hv⟩
  go_wp2
  go_ret
  refine ⟨rfl, ?_, ?_⟩
  · exact .inr (HBC.out ▸ Lib.BuilderAtF.put (T := 48) (e := 5) hB hb2 (bs' := bs ++ [.int .u8 c.toNat]) (by simpa using hown') (by decide))
  · exact Fr.ofBelow (((hb1.alloc (by omega) _).grown hgrow (by simp; omega) (fun k hk => (hown.lt k hk).1)).setCell (p := ⟨b, 1, none⟩) hB _)

set_option maxHeartbeats 400000 in
theorem btext_any (b : Nat) (l t : Bs) (s : ByteArray) (w : World) (h : IsB w b l) (hlen : l.length + t.length ≤ 1000000) (hs : s.data.toList = t) :
    Calls Tryd.prog 30 #[.pointer (some ⟨b, 0, none⟩), .string s] w fun e w' => e = .returned (.tuple #[.int .i64 s.size, .nilIface]) ∧ IsB w' b (l ++ t) ∧ Fr w w' (fun k => b ≤ k) := by
  obtain ⟨i0, hi, hz0, hz1, hz2⟩ := info_parts infoB
  have hl : (Lib.byteCells l).length = l.length := by simp [Lib.byteCells]
  have HBC := Lib.hid (show Lib.byteCells (l ++ t) = Lib.byteCells l ++ Lib.strCells s by simp [Lib.byteCells, Lib.strCells, hs])
  have hss : s.size = t.length := by rw [← hs]; rfl
  have hlt := h.lt
  have h' : Lib.IsBuilderF 48 5 b b (Lib.byteCells l) w := h
  clear h
  generalize Lib.byteCells l = bs at h' hl HBC
  rw [← hl, ← hss] at hlen
  clear hl hs hss
  go_enter Tryd.func30, Tryd.ntmps30
  go_wp2_with fail
  refine (copyCheck_any b b bs w h').mono ?_
  rintro e w1 ⟨rfl, h1, hb1⟩
  obtain ⟨hB, v, hbk, hown, hne⟩ := h1
  have c1 : w1.cell? ⟨b, 1, none⟩ = some v := by rw [Lib.cell_of_heap hbk]; rfl
  have hsz := hb1.size
  go_wp2_with (at_builtin; refine Lib.wpList_append_own_stringF _ rfl _ _ 46 9 rfl b 5 i0 Tryd.underlying46 Tryd.underlying9 hi hz0 hz1 hz2 _ _ _ rfl hown s rfl ?c3 ?c4 ?c5 ?_)
  case c3 => unfold maxLen; omega
  case c4 => omega
  case c5 => omega
  intro v' w2 hown' hgrow _
  have hlt1 : b < w1.heap.size := by omega
  have hb2 : w2.heap[b]? = some (.cells #[.pointer (some ⟨b, 0, none⟩), v] 48 (0, 0)) := by
    rw [hgrow.block b hlt1 (fun e => hne e.symm)]
    exact hbk
  have d0 : w2.cell? ⟨b, 0, none⟩ = some (.pointer (some ⟨b, 0, none⟩)) := by rw [Lib.cell_of_heap hb2]; rfl
  have d1 : w2.cell? ⟨b, 1, none⟩ = some v := by rw [Lib.cell_of_heap hb2]; rfl
  have f1 : w2.frozen? ⟨b, 1, none⟩ = false := Lib.frozen_of_heap hb2 1
  obtain ⟨ao, n', cap, rfl⟩ : ∃ ao n' cap, v' = .slice ao n' cap := by
    rcases hown'.2 with ⟨hv, _⟩ | ⟨g, cap, cur, fz, hv, _⟩
    · exact ⟨_, _, _, hv⟩
    · exact ⟨_, _, _, hv⟩
  go_wp2
  go_ret2
  refine ⟨rfl, ?_, ?_⟩
  · exact .inr (HBC.out ▸ Lib.BuilderAtF.put (T := 48) (e := 5) hB hb2 (bs' := bs ++ Lib.strCells s) (by simpa [Lib.strCells_length] using hown') (by decide))
  · exact Fr.ofBelow ((hb1.grown hgrow (by omega) (fun k hk => (hown.lt k hk).1)).setCell (p := ⟨b, 1, none⟩) hB _)

theorem bstring_any (b : Nat) (l : Bs) (w : World) (h : IsB w b l) :
    Calls Tryd.prog 23 #[.pointer (some ⟨b, 0, none⟩)] w fun e w' => e = .returned (.string ⟨l.toArray⟩) ∧ Fr w w' (fun k => b ≤ k) :=
  (Tryd.Builder_String_any_k b b l w h (Nat.le_of_lt h.lt)).mono fun _ _ ⟨he, _, hb, _⟩ => ⟨he, Fr.ofBelow hb⟩
end Go.Proofs.YtbolgodoifbnnaaDoor
