import Derived.Test.YtognobpgagaamaaDoorAli
import Derived.Test.YtognobpgagaamaaDoorRsm
namespace Go.Proofs.YtognobpgagaamaaDoor
open Go.RowKit Go.Mem Go.Kwd Go.Esc

def grT (g : Bool) : Kwd.Bs → Kwd.Bs
  | [] => []
  | c :: r => (if g then c - 32 else c) :: r
theorem longer_of (k : Nat) (hk : k < 12) (n : Nat) (h1 : 1 ≤ n) (h9 : n ≤ 9) (g : Bool) (x : Kwd.Bs) (h : months[k]? = some x) :
    (97 ≤ (x.headD 0).toNat ∧ (x.headD 0).toNat ≤ 122) ∧ 3 ≤ x.length ∧ x.length ≤ 9 ∧ monthD x = k + 1 ∧ monthD (x.take 3) = k + 1 ∧ monthD (showMonthD ((k : Int) + 1)) = k + 1 ∧
      (monthD (grT g (x.take n)) = 0 ∨ (monthD (grT g (x.take n)) = k + 1 ∧ monthD (x.take (n + 1)) = k + 1)) := by
  have H : ∀ (j : Fin 12) (i : Fin 9) (g : Bool), ∀ y ∈ months[j.val]?, (97 ≤ (y.headD 0).toNat ∧ (y.headD 0).toNat ≤ 122) ∧ 3 ≤ y.length ∧ y.length ≤ 9 ∧ monthD y = j.val + 1 ∧ monthD (y.take 3) = j.val + 1 ∧ monthD (showMonthD ((j.val : Int) + 1)) = j.val + 1 ∧
      (monthD (grT g (y.take (i.val + 1))) = 0 ∨ (monthD (grT g (y.take (i.val + 1))) = j.val + 1 ∧ monthD (y.take (i.val + 1 + 1)) = j.val + 1)) := by decide +kernel
  have := H ⟨k, hk⟩ ⟨n - 1, by omega⟩ g x h
  rw [show n - 1 + 1 = n by omega] at this
  exact this
/-- a text as bytes, its first one turned into another, and back -/
theorem great_text (w : World) (c d : UInt8) (r : Kwd.Bs) (v : Int) (hv : v = (d.toNat : Int)) : ∃ g q cap W2, (convert 9 35 (strV (c :: r))).run Tryd.prog w = .ok (.slice (some ⟨g, 0, none⟩) q cap) W2 ∧ (0 : Int) < (q : Int) ∧
    W2.cell? ⟨g, 0, none⟩ = some (.int .u8 (c.toNat : Int)) ∧ W2.frozen? ⟨g, 0, none⟩ = false ∧
    (convert 35 9 (.slice (some ⟨g, 0, none⟩) q cap)).run Tryd.prog (W2.setCell ⟨g, 0, none⟩ (.int .u8 v)) = .ok (strV (d :: r)) (W2.setCell ⟨g, 0, none⟩ (.int .u8 v)) ∧ Fr w (W2.setCell ⟨g, 0, none⟩ (.int .u8 v)) (fun _ => False) := by
  have hsz := str_size (c :: r)
  have h0 : (0 : Nat) < (⟨(c :: r).toArray⟩ : ByteArray).size := by rw [hsz]; simp
  have hc0 : (Lib.bytesWorld w 5 ⟨(c :: r).toArray⟩).cell? ⟨w.heap.size, 0, none⟩ = some (.int .u8 (c.toNat : Int)) := by
    rw [Lib.bytesWorld_cell w 5 _ 0 h0]
    rfl
  refine ⟨w.heap.size, _, _, _, Lib.run_convert_string_bytes w 9 35 5 _ Tryd.underlying9 Tryd.underlying35 Tryd.underlying5, by omega, hc0, ?_, ?_, ?_⟩
  · rw [World.frozen?, Lib.bytesWorld_at_new]
    have : 0 < (Lib.bytesCells w 5 ⟨(c :: r).toArray⟩).size := by
      have hge := grownCap_ge w (⟨(c :: r).toArray⟩ : ByteArray).size 0 5
      simp [Lib.bytesCells]
      omega
    show (decide ((Lib.bytesCells w 5 ⟨(c :: r).toArray⟩).size ≤ 0) && _) = false
    rw [decide_eq_false (by omega)]
    rfl
  · have hr : Rd ((Lib.bytesWorld w 5 ⟨(c :: r).toArray⟩).setCell ⟨w.heap.size, 0, none⟩ (.int .u8 v)) 1 (some ⟨w.heap.size, 0, none⟩) (⟨(c :: r).toArray⟩ : ByteArray).size (((d :: r).map fun b => (b.toNat : Int)).map (Value.int .u8)) := by
      refine ⟨by rw [hsz]; simp, fun _ => ⟨w.heap.size, 0, rfl, fun j u hu => ?_⟩⟩
      cases j with
      | zero =>
        rw [Nat.zero_add, World.cell?_setCell_same _ _ _ hc0, hv]
        simpa using hu
      | succ j =>
        rw [World.cell?_setCell_other _ _ _ _ (by simp), Nat.zero_add]
        simp only [List.map_cons, List.getElem?_cons_succ, List.map_map, List.getElem?_map] at hu
        obtain ⟨y, hy, hu⟩ := Option.map_eq_some_iff.1 hu
        obtain ⟨hj, rfl⟩ := List.getElem?_eq_some_iff.1 hy
        rw [Lib.bytesWorld_cell w 5 _ (j + 1) (by rw [hsz]; simp; omega), ← hu]
        simp [List.getD, hj]
    have := run_text (P := Tryd.prog) _ 35 9 5 Tryd.underlying35 Tryd.underlying5 Tryd.underlying9 ⟨w.heap.size, 0, none⟩ _ (grownCap w (⟨(c :: r).toArray⟩ : ByteArray).size 0 5) ((d :: r).map fun b => (b.toNat : Int)) hr
    rw [text_bytes] at this
    exact this
  · exact (show Fr w (Lib.bytesWorld w 5 ⟨(c :: r).toArray⟩) (fun _ => False) from ⟨rfl, rfl, rfl, by rw [Lib.bytesWorld_size]; omega, fun k hk _ => Lib.bytesWorld_at_old w 5 _ k hk⟩).fresh (Fr.set (S := fun i => i = w.heap.size) rfl) (fun i e => by omega)
theorem take_min (x : Kwd.Bs) (n : Nat) : strV (x.take (n + 1)) = .string ((⟨x.toArray⟩ : ByteArray).extract 0 (min ((n : Int) + 1) ((⟨x.toArray⟩ : ByteArray).size : Int)).toNat) := by
  rw [str_size, ext_take]
  by_cases h : n + 1 ≤ x.length
  · rw [show (min ((n : Int) + 1) (x.length : Int)).toNat = n + 1 by omega]
  · rw [show (min ((n : Int) + 1) (x.length : Int)).toNat = x.length by omega, List.take_of_length_le (by omega), List.take_of_length_le (Nat.le_refl _)]
theorem months_at (w : World) (k : Nat) (hk : k < 12) : ∃ x, months[k]? = some x ∧ (w.alloc (.cells #[.string ⟨#[106, 97, 110, 117, 97, 114, 121]⟩, .string ⟨#[102, 101, 98, 114, 117, 97, 114, 121]⟩, .string ⟨#[109, 97, 114, 99, 104]⟩, .string ⟨#[97, 112, 114, 105, 108]⟩, .string ⟨#[109, 97, 121]⟩, .string ⟨#[106, 117, 110, 101]⟩, .string ⟨#[106, 117, 108, 121]⟩, .string ⟨#[97, 117, 103, 117, 115, 116]⟩, .string ⟨#[115, 101, 112, 116, 101, 109, 98, 101, 114]⟩, .string ⟨#[111, 99, 116, 111, 98, 101, 114]⟩, .string ⟨#[110, 111, 118, 101, 109, 98, 101, 114]⟩, .string ⟨#[100, 101, 99, 101, 109, 98, 101, 114]⟩] 9)).cell? ⟨w.heap.size, k, none⟩ = some (strV x) := by
  obtain ⟨b, o, x, hA, hx, hc⟩ := strs_at (rd_new w 9 (0, 0) (months.map strV)) (k := k) hk
  cases hA
  rw [Nat.zero_add] at hc
  exact ⟨x, hx, hc⟩
end Go.Proofs.YtognobpgagaamaaDoor
