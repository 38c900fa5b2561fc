import Derived.Test.YtognobpgagaamaaDoorInt
import Derived.Deep.DeepCutAuto
namespace Go.Proofs.YtognobpgagaamaaDoor
open Go.RowKit Go.Mem Go.Esc Go.Sort

theorem neg_tmod (m : Nat) : (-(m : Int)).tmod 10 = -((m % 10 : Nat) : Int) := by
  rw [Int.neg_tmod, Int.tmod_eq_emod_of_nonneg (by omega)]
  omega
theorem neg_tdiv (m : Nat) : (-(m : Int)).tdiv 10 = -((m / 10 : Nat) : Int) := by
  rw [Int.neg_tdiv, Int.tdiv_eq_ediv_of_nonneg (by omega)]
  omega
theorem digit_text (m : Nat) (w : World) : (convert 35 9 (.slice (some ⟨w.heap.size, 0, none⟩) 1 1)).run Tryd.prog (w.alloc (.cells #[.int .u8 (48 + (m : Int) % 10)] 5)) = .ok (strV [UInt8.ofNat (48 + m % 10)]) (w.alloc (.cells #[.int .u8 (48 + (m : Int) % 10)] 5)) := by
  have := run_text (P := Tryd.prog) (w.alloc (.cells #[.int .u8 (48 + (m : Int) % 10)] 5)) 35 9 5 Tryd.underlying35 Tryd.underlying5 Tryd.underlying9 ⟨w.heap.size, 0, none⟩ 1 1 [48 + (m : Int) % 10] (rd_new w 5 (0, 0) [.int .u8 (48 + (m : Int) % 10)])
  rw [this]
  have e : (48 + (m : Int) % 10).toNat = 48 + m % 10 := by omega
  simp [text, e]
  rfl
theorem dec_len (u : Nat) (k : Nat) (h : u < 10 ^ (k + 1)) : (Lib.decDigits u).length ≤ k + 1 := by
  induction k generalizing u with
  | zero => rw [Lib.decDigits_one (by simpa using h)]; simp
  | succ k ih =>
    by_cases hs : u < 10
    · rw [Lib.decDigits_one hs]; simp
    · rw [Lib.decDigits, dif_neg hs, List.length_append]
      have := ih (u / 10) (by rw [Nat.pow_succ] at h; omega)
      simp; omega
theorem digits_small (m : Nat) (w : World) (hs : m < 10) : Calls Tryd.prog 48 #[.int .i64 (-(m : Int))] w fun e w' => e = .returned (strV (Lib.decDigits m)) ∧ Fr w w' (fun _ => False) := by
  have e1 := neg_tmod m
  have hcv := digit_text m
  have hd : Lib.decDigits m = [UInt8.ofNat (48 + m % 10)] := by rw [Lib.decDigits_one hs, Nat.mod_eq_of_lt hs]
  rw [hd]
  clear hd
  generalize UInt8.ofNat (48 + m % 10) = dg at hcv
  obtain ⟨n, hn⟩ : ∃ n : Int, n = -(m : Int) := ⟨_, rfl⟩
  rw [← hn] at e1 ⊢
  have b1 : n ≤ 0 := by omega
  have b2 : -10 < n := by omega
  clear hn
  go_enter Tryd.func48, Tryd.ntmps48
  go_wp2_with fail
  go_ret
  exact ⟨rfl, Fr.new _ _ _⟩
set_option maxRecDepth 100000 in
theorem digits_any (k : Nat) : ∀ (m : Nat) (w : World), m < 10 ^ (k + 1) → m ≤ 9223372036854775808 → k ≤ 30 → Calls Tryd.prog 48 #[.int .i64 (-(m : Int))] w fun e w' => e = .returned (strV (Lib.decDigits m)) ∧ Fr w w' (fun _ => False) := by
  induction k with
  | zero =>
    intro m w h hm hk
    exact digits_small m w (by simpa using h)
  | succ k ih =>
    intro m w h hm hk
    by_cases hs : m < 10
    · exact digits_small m w hs
    · have e1 := neg_tmod m
      have e2 := neg_tdiv m
      have hcv := digit_text m
      have hd : Lib.decDigits m = Lib.decDigits (m / 10) ++ [UInt8.ofNat (48 + m % 10)] := by
        conv => lhs; unfold Lib.decDigits
        rw [dif_neg hs]
      have hlen := dec_len (m / 10) k (by rw [Nat.pow_succ] at h; omega)
      have hih := fun w => ih (m / 10) w (by rw [Nat.pow_succ] at h; omega) (by omega) (by omega)
      rw [show ((m / 10 : Nat) : Int) = (m : Int) / 10 by omega] at hih
      have HIH := Lib.hid hih
      rw [hd]
      generalize Lib.decDigits (m / 10) = pre at HIH hlen hd
      have ha := fun w => run_add_str (P := Tryd.prog) w pre [UInt8.ofNat (48 + m % 10)] (by simp; omega)
      generalize UInt8.ofNat (48 + m % 10) = dg at hcv ha
      clear ih hih hd h
      obtain ⟨n, hn⟩ : ∃ n : Int, n = -(m : Int) := ⟨_, rfl⟩
      rw [← hn] at e1 e2 ⊢
      have b1 : n ≤ -10 := by omega
      have b2 : -9223372036854775808 ≤ n := by omega
      clear hn
      go_enter Tryd.func48, Tryd.ntmps48
      go_wp2_with fail
      refine (HIH.out _).mono ?_
      rintro e w2 ⟨rfl, hf2⟩
      have HF2 := Lib.hid (ff (Fr.new w _ _) hf2)
      clear hf2
      go_wp2_with fail
      go_ret
      exact ⟨rfl, HF2.out⟩
theorem rInt_any (n : Int) (w : World) (hn : Go.Esc.inRange n) : Calls Tryd.prog 34 #[.int .i64 n] w fun e w' => e = .returned (strV (Lib.itoa n)) ∧ Fr w w' (fun _ => False) := by
  by_cases h : n < 0
  · rw [itoa_neg h]
    have hd := fun w => digits_any 18 n.natAbs w (by unfold inRange at hn; omega) (by unfold inRange at hn; omega) (by omega)
    have hlen := dec_len n.natAbs 18 (by unfold inRange at hn; omega)
    rw [show -(n.natAbs : Int) = n by omega] at hd
    have HD := Lib.hid hd
    clear hd hn
    generalize Lib.decDigits n.natAbs = ds at HD hlen
    have ha := fun w => run_add_str (P := Tryd.prog) w [45] ds (by simp; omega)
    simp only [List.cons_append, List.nil_append] at ha
    go_enter Tryd.func34, Tryd.ntmps34
    go_wp2_with fail
    refine (HD.out _).mono ?_
    rintro e w2 ⟨rfl, hf2⟩
    have HF2 := Lib.hid hf2
    clear hf2
    go_wp2_with fail
    go_ret
    exact ⟨rfl, HF2.out⟩
  · rw [itoa_pos h]
    have hd := fun w => digits_any 18 n.toNat w (by unfold inRange at hn; omega) (by unfold inRange at hn; omega) (by omega)
    rw [show -(n.toNat : Int) = -n by omega] at hd
    have HD := Lib.hid hd
    have b1 : 0 ≤ n := by omega
    have b2 : n ≤ 9223372036854775807 := hn.2
    clear hd hn h
    generalize Lib.decDigits n.toNat = ds at HD
    go_enter Tryd.func34, Tryd.ntmps34
    go_wp2_with fail
    refine (HD.out _).mono ?_
    rintro e w2 ⟨rfl, hf2⟩
    have HF2 := Lib.hid hf2
    clear hf2
    go_wp2_with fail
    go_ret
    exact ⟨rfl, HF2.out⟩
end Go.Proofs.YtognobpgagaamaaDoor
