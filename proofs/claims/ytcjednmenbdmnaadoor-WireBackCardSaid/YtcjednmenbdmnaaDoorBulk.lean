import Derived.Test.YtcjednmenbdmnaaDoorRows
import Derived.ChangeSlices
namespace Go.Proofs.YtcjednmenbdmnaaDoor.Bulk

/-- each datum counts one at least -/
theorem pos {H : Type} (d : DataW H) : 0 < Rows.uptoBulk d := by
  cases d with
  | lit l => cases l <;> simp [Rows.uptoBulk]
  | _ => simp [Rows.uptoBulk]
theorem len {H : Type} (l : List (DataW H)) : l.length ≤ Rows.uptoBulkAll l := by
  induction l with
  | nil => exact Nat.zero_le _
  | cons d l ih =>
    have := pos d
    simp only [Rows.uptoBulkAll, List.length_cons]
    omega
theorem sliceLen {H : Type} (a b : List (DataW H)) : a.length < Rows.uptoBulk (.slice a b) := by
  have := len a
  simp only [Rows.uptoBulk]
  omega
theorem all {H : Type} {l : List (DataW H)} (h : Rows.uptoSmall H l = true) : Rows.uptoBulkAll l ≤ 1048576 := of_decide_eq_true h
theorem one {H : Type} {d : DataW H} {l : List (DataW H)} (h : Rows.uptoBulkAll l ≤ 1048576) (hd : d ∈ l) : Rows.uptoBulk d ≤ 1048576 := by
  induction l with
  | nil => cases hd
  | cons x l ih =>
    simp only [Rows.uptoBulkAll] at h
    rcases List.mem_cons.1 hd with e | e
    · subst e
      omega
    · exact ih (by omega) e
end Go.Proofs.YtcjednmenbdmnaaDoor.Bulk
