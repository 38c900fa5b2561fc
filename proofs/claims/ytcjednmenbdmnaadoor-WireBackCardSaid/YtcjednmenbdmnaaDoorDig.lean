import Derived.Test.YtcjednmenbdmnaaDoorI
import Derived.Test.YtcjednmenbdmnaaDoorRowM
import Derived.Test.YtcjednmenbdmnaaDoorShelf
namespace Go.Proofs.YtcjednmenbdmnaaDoor
open Go.RowKit Go.Mem Go.Wire

def decStr (n : Nat) : ByteArray := ⟨(Lib.decDigits n).toArray⟩
theorem decStr_small {n : Nat} (h : n < 10) : decStr n = text [(48 : Int) + (n : Int) % 10] := by
  unfold decStr
  rw [Lib.decDigits_one h]
  have : ((48 : Int) + (n : Int) % 10).toNat = 48 + n := by omega
  simp [text, this]
  rfl
theorem decStr_big {n : Nat} (h : ¬ n < 10) : decStr n = decStr (n / 10) ++ text [(48 : Int) + (n : Int) % 10] := by
  unfold decStr
  rw [Lib.decDigits, dif_neg h]
  have : ((48 : Int) + (n : Int) % 10).toNat = 48 + n % 10 := by omega
  apply ByteArray.ext
  simp [text, this]

/-- what Digits answers -/
def DigOut (n : Nat) (w : World) (e : Ending) (w' : World) : Prop := ∃ s, e = .returned (.string s) ∧ s = decStr n ∧ s.size ≤ 20 ∧ Fr w w' (fun _ => False)

theorem text_one (d : Int) : (text [d]).size = 1 := by simp [text]
theorem decStr_size (k : Nat) : ∀ n, n < 10 ^ (k + 1) → (decStr n).size ≤ k + 1 := by
  induction k with
  | zero =>
    intro n h
    rw [decStr_small (by simpa using h), text_one]
    omega
  | succ k ih =>
    intro n h
    by_cases hs : n < 10
    · rw [decStr_small hs, text_one]
      omega
    · rw [decStr_big hs, ByteArray.size_append, text_one]
      have := ih (n / 10) (by rw [Nat.pow_succ] at h; omega)
      omega

theorem digits_any (k : Nat) : ∀ (n : Nat) (w : World), n < 10 ^ (k + 1) → k ≤ 8 → n ≤ 99999999 → Calls Tryd.prog 12 #[.int .i64 (n : Int)] w (DigOut n w) := by
  induction k with
  | zero =>
    intro n w h hk h2
    have hcv := fun (w : World) (d : Int) => run_text (P := Tryd.prog) (w.alloc (.cells #[.int .u8 d] 5)) 22 9 5 Tryd.underlying22 Tryd.underlying5 Tryd.underlying9 ⟨w.heap.size, 0, none⟩ 1 1 [d] (rd_new w 5 (0, 0) [.int .u8 d])
    have hs : n < 10 := by simpa using h
    have hs' : (n : Int) < 10 := by omega
    go_enter Tryd.func12, Tryd.ntmps12
    go_wp2_with fail
    go_ret
    exact ⟨_, rfl, (decStr_small hs).symm, by rw [text_one]; omega, Fr.new _ _ _⟩
  | succ k ih =>
    intro n w h hk h2
    have hsz := decStr_size (k + 1) n h
    have hcv := fun (w : World) (d : Int) => run_text (P := Tryd.prog) (w.alloc (.cells #[.int .u8 d] 5)) 22 9 5 Tryd.underlying22 Tryd.underlying5 Tryd.underlying9 ⟨w.heap.size, 0, none⟩ 1 1 [d] (rd_new w 5 (0, 0) [.int .u8 d])
    by_cases hs : n < 10
    · have hs' : (n : Int) < 10 := by omega
      go_enter Tryd.func12, Tryd.ntmps12
      go_wp2_with fail
      go_ret
      exact ⟨_, rfl, (decStr_small hs).symm, by rw [text_one]; omega, Fr.new _ _ _⟩
    · have hs' : ¬ (n : Int) < 10 := by omega
      have HIH := Lib.hid ih
      have ht := text_one ((48 : Int) + (n : Int) % 10)
      obtain ⟨tx, htx⟩ : ∃ tx, tx = text [(48 : Int) + (n : Int) % 10] := ⟨_, rfl⟩
      rw [← htx] at ht
      have HTX := Lib.hid htx
      have hcv' : ∀ w : World, (convert 22 9 (.slice (some ⟨w.heap.size, 0, none⟩) 1 1)).run Tryd.prog (w.alloc (.cells #[.int .u8 ((48 : Int) + (n : Int) % 10)] 5)) = .ok (.string tx) (w.alloc (.cells #[.int .u8 ((48 : Int) + (n : Int) % 10)] 5)) := fun w => by rw [htx]; exact hcv w _
      clear ih hcv htx
      go_enter Tryd.func12, Tryd.ntmps12
      go_wp2_with fail
      refine (HIH.out (n / 10) _ (by rw [Nat.pow_succ] at h; omega) (by omega) (by omega)).mono ?_
      rintro e w1 ⟨s1, rfl, hs1, hz1, hf1⟩
      have HS1 := Lib.hid hs1
      clear hs1
      go_wp2_with fail
      go_ret
      exact ⟨_, rfl, by rw [HS1.out, HTX.out]; exact (decStr_big hs).symm, by rw [HS1.out, HTX.out, ← decStr_big hs]; omega, (Fr.new w _ (fun _ => False)).trans hf1 (fun _ _ h => h) (fun _ _ h => h)⟩
end Go.Proofs.YtcjednmenbdmnaaDoor
