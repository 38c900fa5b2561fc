import Derived.Test.YtcjednmenbdmnaaDoorTell
import Derived.Lib.SlBytesConst
namespace Go.Proofs.YtcjednmenbdmnaaDoor
open Go.RowKit Go.Mem Go.Wire

theorem run1 : runW st0 [53, 58, 104, 101, 108, 108, 111, 10] = (⟨0, [], 5, 0⟩, [some [104, 101, 108, 108, 111]]) := by rfl
theorem run2 : runW st0 [120, 10, 48, 58, 10] = (⟨0, [], 0, 0⟩, [none, some []]) := by rfl

theorem ByteIn (bs : List Int) (h : bs.all (fun x => decide (0 ≤ x) && decide (x ≤ 255)) = true) : ∀ x ∈ bs, 0 ≤ x ∧ x ≤ 255 := by
  intro x hx
  have := List.all_eq_true.1 h x hx
  simpa using this

theorem alive_true (w : World) : Calls Tryd.prog 9 #[] w fun e w' => e = .returned (.bool true) ∧ Fr w w' (fun _ => False) := by
  have kc := fun (w : World) (C : Array Value) (n c : Nat) => Lib.run_convert_bytes_const (P := Tryd.prog) w 22 5 C n c Tryd.underlying22 Tryd.underlying5
  have no : ∀ g : Nat, ¬ False := fun _ h => h
  go_enter Tryd.func9, Tryd.ntmps9
  go_wp2_with fail
  refine (split_any (some ⟨w.heap.size, 0, none⟩) 8 8 [53, 58, 104, 101, 108, 108, 111, 10] _ (ByteIn _ (by rfl)) rfl (rd_new w 5 (8, 9) _) (by omega)).mono ?_
  rintro e w1 ⟨v1, r1, rfl, hi1, ho1, hf1⟩
  rw [run1] at hi1 ho1
  obtain ⟨A1, c1, rfl, ht1, -⟩ := hi1.tells
  obtain ⟨B1, d1, rfl⟩ := own_slice ho1
  have HF1 := Lib.hid ((Fr.new w _ (fun _ => False)).trans hf1 (fun _ _ h => h) (fun _ _ h => h))
  have HT1 := Lib.hid ht1
  clear hi1 ho1 hf1 ht1
  go_wp2_with fail
  refine (split_any (some ⟨w1.heap.size, 0, none⟩) 5 5 [120, 10, 48, 58, 10] _ (ByteIn _ (by rfl)) rfl (rd_new w1 5 (5, 6) _) (by omega)).mono ?_
  rintro e w2 ⟨v2, r2, rfl, hi2, ho2, hf2⟩
  rw [run2] at hi2 ho2
  obtain ⟨A2, c2, rfl, ht2, -⟩ := hi2.tells
  obtain ⟨B2, d2, rfl⟩ := own_slice ho2
  have HF2 := Lib.hid ((Fr.new w1 _ (fun _ => False)).trans hf2 (fun _ _ h => h) (fun _ _ h => h))
  have HT2 := Lib.hid ht2
  clear hi2 ho2 hf2 ht2
  obtain ⟨b1, o1, it1, A', c', rfl, hit1, k1, k2, hr1⟩ := (HT1.out.fr HF2.out).at_ (k := 0) (by simp)
  obtain ⟨b2, o2, it2, -, -, rfl, hit2, k3, -, -⟩ := HT2.out.at_ (k := 0) (by simp)
  obtain ⟨b3, o3, it3, -, -, e3, hit3, k4, -, -⟩ := HT2.out.at_ (k := 1) (by simp)
  simp at hit1 hit2 hit3 e3
  obtain ⟨rfl, rfl⟩ := e3
  subst hit1 hit2 hit3
  obtain ⟨b', o', rfl, -⟩ := hr1.2 (by simp [bytesOf])
  have hcv : (convert 22 9 (.slice (some ⟨b', o', none⟩) 5 c')).run Tryd.prog w2 = .ok (.string { data := #[104, 101, 108, 108, 111] }) w2 := run_text w2 22 9 5 Tryd.underlying22 Tryd.underlying5 Tryd.underlying9 _ 5 c' [104, 101, 108, 108, 111] hr1
  simp [bytesOf] at k1 k2 k3 k4
  clear hr1
  go_wp2_with fail
  go_ret
  exact ⟨rfl, HF1.out.trans HF2.out (fun _ _ h => h) (fun _ _ h => h)⟩
end Go.Proofs.YtcjednmenbdmnaaDoor
