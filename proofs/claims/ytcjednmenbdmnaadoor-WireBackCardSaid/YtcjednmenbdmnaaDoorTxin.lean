import Derived.Test.YtcjednmenbdmnaaDoorBkw
import Derived.Test.YtcjednmenbdmnaaDoorIn
import Derived.Deep.Slices
namespace Go.Proofs.YtcjednmenbdmnaaDoor
open Go.ChangeShapes Go.WideShapes Go.ChangeAt Go.RowKit Go.Mem

/-- an element that is a slice of bytes -/
theorem elem_in {H : Type} {enc : TypeId × Value → H} {w : World} {base fuel : Nat} {spare : Nat → Bool} {held : Bool} {v : Value} {x : DataW H × List MemPlace}
    (h : DataW.trod enc Tryd.prog w base spare held fuel 22 [v] = some x) :
    ∃ (l : List Int) (A' : Option Addr) (c' : Nat), v = .slice A' l.length c' ∧ (∀ y ∈ l, 0 ≤ y ∧ y ≤ 255) ∧ l.length ≤ maxLen ∧ Rd w 1 A' l.length (l.map u8v) := by
  have hs : ∃ a len cap, v = .slice a len cap := by
    rcases Deep.open_slice Tryd.underlying22 h with ⟨hcs, _⟩ | ⟨a, len, cap, _, _, _, _, hcs, _⟩
    · simp at hcs
      exact ⟨_, _, _, hcs⟩
    · simp at hcs
      exact ⟨_, _, _, hcs⟩
  obtain ⟨a, len, cap, rfl⟩ := hs
  obtain ⟨l, h1, h2, h3, h4, -, -, h5⟩ := bytes_in h
  exact ⟨l, a, cap, by rw [h1], h2, by omega, by rw [h1]; exact h3⟩

/-- a slice of slices of bytes that came in -/
theorem texts_in {H : Type} {enc : TypeId × Value → H} {w : World} {base fuel : Nat} {spare : Nat → Bool} {held : Bool} {a : Option Addr} {len cap : Nat} {x : DataW H × List MemPlace}
    (h : DataW.trod enc Tryd.prog w base spare held fuel 29 [Value.slice a len cap] = some x) : ∃ ls : List (List Int), Texts w a len ls ∧ len ≤ maxLen := by
  rcases Deep.open_slice1 Tryd.underlying29 (by kernel_rfl) h with ⟨hcs, _⟩ | ⟨ad, l, c, m, n, V, D, Pl, hcs, _, hl, hm, hmm, _, hx⟩
  · simp at hcs
    obtain ⟨rfl, rfl, rfl⟩ := hcs
    exact ⟨[], ⟨rfl, fun h => absurd h (by omega)⟩, Nat.zero_le _⟩
  · simp at hcs
    obtain ⟨rfl, rfl, rfl⟩ := hcs
    have hlm : len ≤ m := by rw [hmm]; split <;> omega
    have each : ∀ i, i < len → ∃ (l : List Int) (A' : Option Addr) (c' : Nat), V i = .slice A' l.length c' ∧ (∀ y ∈ l, 0 ≤ y ∧ y ≤ 255) ∧ l.length ≤ maxLen ∧ Rd w 1 A' l.length (l.map u8v) := fun i hi => elem_in (hx i (by omega)).2
    have pick : ∃ L : Nat → List Int, ∀ i, i < len → ∃ (A' : Option Addr) (c' : Nat), V i = .slice A' (L i).length c' ∧ (∀ y ∈ L i, 0 ≤ y ∧ y ≤ 255) ∧ (L i).length ≤ maxLen ∧ Rd w 1 A' (L i).length ((L i).map u8v) := by
      refine ⟨fun i => if hi : i < len then (each i hi).choose else [], fun i hi => ?_⟩
      simp only [dif_pos hi]
      exact (each i hi).choose_spec
    obtain ⟨L, hL⟩ := pick
    refine ⟨(List.range len).map L, ⟨by simp, fun hpos => ?_⟩, by omega⟩
    have h0 := (hx 0 (by omega)).1
    have had : ∃ b off, ad = ⟨b, off, none⟩ := by
      obtain ⟨b, off, spot⟩ := ad
      cases spot with
      | none => exact ⟨b, off, rfl⟩
      | some s =>
        exfalso
        simp [Addr.add, World.cell?] at h0
        split at h0 <;> simp at h0
    obtain ⟨b, off, rfl⟩ := had
    refine ⟨b, off, rfl, fun i l hi => ?_⟩
    rw [List.getElem?_map] at hi
    obtain ⟨j, hj, rfl⟩ := Option.map_eq_some_iff.1 hi
    obtain ⟨hj1, hj2⟩ := List.getElem?_eq_some_iff.1 hj
    simp at hj1 hj2
    subst hj2
    obtain ⟨A', c', h1, h2, h3, h4⟩ := hL i hj1
    have hc := (hx i (by omega)).1
    have hadd : (⟨b, off, none⟩ : Addr).add i = ⟨b, off + i, none⟩ := by unfold Addr.add; split <;> simp_all
    rw [hadd, h1] at hc
    exact ⟨h2, h3, A', c', hc, h4⟩
end Go.Proofs.YtcjednmenbdmnaaDoor
