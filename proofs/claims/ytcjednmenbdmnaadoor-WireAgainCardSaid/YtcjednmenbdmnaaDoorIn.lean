import Derived.Test.YtcjednmenbdmnaaDoorBulk
import Derived.Test.YtcjednmenbdmnaaDoorMem
import Derived.Test.YtcjednmenbdmnaaDoorA
import Derived.Test.YtcjednmenbdmnaaDoorB
import Derived.ShutString
import Derived.ChangeOld
import Derived.JoinedCond
namespace Go.Proofs.YtcjednmenbdmnaaDoor
open Go.ChangeShapes Go.WideShapes Go.ChangeAt Go.RowKit Go.Mem

/-- a slice of integers that came in: what it reads as -/
theorem ints_in {H : Type} {enc : TypeId × Value → H} {w : World} {base fuel : Nat} {spare : Nat → Bool} {held : Bool} {a : Option Addr} {len cap : Nat} {x : DataW H × List MemPlace} {t e : TypeId} {k : IntKind}
    (ht : Tryd.prog.underlying t = some (.slice e)) (he : Tryd.prog.underlying e = some (.int k)) (hc1 : Tryd.prog.cellsOf e = 1)
    (h : DataW.trod enc Tryd.prog w base spare held fuel t [Value.slice a len cap] = some x) :
    ∃ bs : List Int, bs.length = len ∧ (∀ y ∈ bs, (Lit.int k y).wf = true) ∧ Rd w 1 a len (bs.map (Value.int k)) ∧ len ≤ cap ∧ (len < Rows.uptoBulk x.1) ∧ (a = none → len = 0 ∧ cap = 0) ∧ cap ≤ maxLen := by
  rcases open_ints ht he hc1 h with ⟨hcs, hx⟩ | ⟨ad, l, c, zs, hcs, _, hl, hm, hz, hx, hcell, hwz⟩
  · simp at hcs
    obtain ⟨rfl, rfl, rfl⟩ := hcs
    refine ⟨[], rfl, by simp, Rd.zero _ _ _, Nat.le_refl _, ?_, fun _ => ⟨rfl, rfl⟩, Nat.zero_le _⟩
    exact Bulk.pos _
  · simp at hcs
    obtain ⟨rfl, rfl, rfl⟩ := hcs
    have hlz : len ≤ zs.length := by
      rw [hz]
      split
      · exact hl
      · exact Nat.le_refl _
    have htl : (zs.take len).length = len := by rw [List.length_take]; exact Nat.min_eq_left hlz
    have hrd : Rd w 1 (some ad) len ((zs.take len).map (Value.int k)) := by
      refine ⟨by rw [List.length_map, htl]; omega, fun hpos => ?_⟩
      have h0 := hcell 0 (by omega)
      have had : ∃ b off, ad = ⟨b, off, none⟩ := by
        obtain ⟨b, off, spot⟩ := ad
        cases spot with
        | none => exact ⟨b, off, rfl⟩
        | some s =>
          exfalso
          simp [Addr.add, World.cell?] at h0
          split at h0 <;> simp at h0
      obtain ⟨b, off, rfl⟩ := had
      refine ⟨b, off, rfl, fun j u hu => ?_⟩
      rw [List.getElem?_map] at hu
      obtain ⟨z, hz1, hz2⟩ := Option.map_eq_some_iff.1 hu
      obtain ⟨hj, hz3⟩ := List.getElem?_eq_some_iff.1 hz1
      rw [htl] at hj
      have hc := hcell j (by omega)
      have hadd : (⟨b, off, none⟩ : Addr).add j = ⟨b, off + j, none⟩ := by unfold Addr.add; split <;> simp_all
      rw [hadd] at hc
      rw [hc, ← hz2, ← hz3, List.getElem_take, List.getD_eq_getElem?_getD, List.getElem?_eq_getElem (by omega)]
      rfl
    have hbulk : len < Rows.uptoBulk x.1 := by
      rw [hx]
      have := Bulk.sliceLen (lits (H := H) k (zs.take len)) (lits k (zs.drop len))
      simp only [lits, List.length_map, htl] at this
      exact this
    exact ⟨zs.take len, htl, fun y hy => hwz y (List.mem_of_mem_take hy), hrd, hl, hbulk, (fun e => by cases e), hm⟩
/-- a slice of bytes that came in -/
theorem bytes_in {H : Type} {enc : TypeId × Value → H} {w : World} {base fuel : Nat} {spare : Nat → Bool} {held : Bool} {a : Option Addr} {len cap : Nat} {x : DataW H × List MemPlace}
    (h : DataW.trod enc Tryd.prog w base spare held fuel 22 [Value.slice a len cap] = some x) :
    ∃ bs : List Int, bs.length = len ∧ (∀ y ∈ bs, 0 ≤ y ∧ y ≤ 255) ∧ Rd w 1 a len (bs.map u8v) ∧ len ≤ cap ∧ (len < Rows.uptoBulk x.1) ∧ (a = none → len = 0 ∧ cap = 0) ∧ cap ≤ maxLen := by
  obtain ⟨bs, h1, h2, h3⟩ := ints_in Tryd.underlying22 Tryd.underlying5 (by kernel_rfl) h
  refine ⟨bs, h1, fun y hy => ?_, h3⟩
  have := h2 y hy
  simpa [Lit.wf, IntKind.min, IntKind.max, IntKind.signed, IntKind.bits] using this
end Go.Proofs.YtcjednmenbdmnaaDoor
