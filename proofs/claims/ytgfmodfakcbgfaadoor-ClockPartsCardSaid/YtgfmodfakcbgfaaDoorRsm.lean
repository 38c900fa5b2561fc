import Derived.Test.YtgfmodfakcbgfaaDoorRsh
namespace Go.Proofs.YtgfmodfakcbgfaaDoor
open Go.RowKit Go.Mem Go.Clk

theorem mark_is (k : Int) (h : 0 ≤ k ∧ k ≤ 2) : (k = 0 ∧ markL k.toNat = []) ∨ (k = 1 ∧ markL k.toNat = [115]) ∨ (k = 2 ∧ markL k.toNat = [117]) := by
  have : k = 0 ∨ k = 1 ∨ k = 2 := by omega
  rcases this with rfl | rfl | rfl
  · exact .inl ⟨rfl, rfl⟩
  · exact .inr (.inl ⟨rfl, rfl⟩)
  · exact .inr (.inr ⟨rfl, rfl⟩)
abbrev marksO : Obj := .cells #[.string ⟨#[]⟩, .string ⟨#[115]⟩, .string ⟨#[117]⟩] 9
theorem four_cells (w : World) (n k : Int) : ((w.alloc (.cells #[.int .i64 n, .int .i64 k] 24)).alloc marksO).cell? ⟨w.heap.size, 1, none⟩ = some (.int .i64 k) ∧ ((w.alloc (.cells #[.int .i64 n, .int .i64 k] 24)).alloc marksO).cell? ⟨w.heap.size + 1, 0, none⟩ = some (.string ⟨#[]⟩) ∧
    ((w.alloc (.cells #[.int .i64 n, .int .i64 k] 24)).alloc marksO).cell? ⟨w.heap.size + 1, 1, none⟩ = some (.string ⟨#[115]⟩) ∧ ((w.alloc (.cells #[.int .i64 n, .int .i64 k] 24)).alloc marksO).cell? ⟨w.heap.size + 1, 2, none⟩ = some (.string ⟨#[117]⟩) := by
  have f2 := Fr.new (w.alloc (.cells #[.int .i64 n, .int .i64 k] 24)) marksO (fun _ => False)
  have hb := Blk.made (w.alloc (.cells #[.int .i64 n, .int .i64 k] 24)) 9 #[.string ⟨#[]⟩, .string ⟨#[115]⟩, .string ⟨#[117]⟩]
  rw [show (w.alloc (.cells #[.int .i64 n, .int .i64 k] 24)).heap.size = w.heap.size + 1 by simp] at hb
  exact ⟨f2.cell0 (two_cells w n k).2, cell_at hb 0, cell_at hb 1, cell_at hb 2⟩
end Go.Proofs.YtgfmodfakcbgfaaDoor
