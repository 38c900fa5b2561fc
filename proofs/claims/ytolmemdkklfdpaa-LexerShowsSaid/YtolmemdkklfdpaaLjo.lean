import Derived.Test.YtolmemdkklfdpaaLwh
namespace Go.Proofs.Ytolmemdkklfdpaa
open Go.RowKit Go.Mem Go.Lxr

/-- two lines with white between -/
theorem join_two {a b : Bs} {fs gs : List FPair} (h35 : (35 : UInt8) ∉ a) (ha : fieldsD 0 a = .ok fs) (hb : fieldsD 0 b = .ok gs) (hl : (a ++ [32] ++ b).length ≤ 200) : fieldsO (a ++ [32] ++ b) = (fs ++ moved (a.length + 1) gs, 0, 0) := by
  refine fieldsO_of hl ?_
  rw [show (a ++ [32] ++ b : Bs) = a ++ 32 :: b by simp, (fields_more b a 0 fs ha).1 h35, show 0 + a.length + 1 = 0 + (a.length + 1) by omega, fields_move (a.length + 1) b 0 gs hb]
  rfl
theorem join_text (a b : Bs) (h1 : a.length ≤ 90) (h2 : b.length ≤ 90) : ∃ (mid big : Bs), big = a ++ [32] ++ b ∧ big.length ≤ 200 ∧
    (∀ w, (Op.stringOp .add ⟨a.toArray⟩ ⟨#[32]⟩).run Try.prog w = .ok (strV mid) w) ∧ (∀ w, (Op.stringOp .add ⟨mid.toArray⟩ ⟨b.toArray⟩).run Try.prog w = .ok (strV big) w) :=
  ⟨_, _, rfl, by simp; omega, fun w => run_add_str w a [32] (by simp; omega), fun w => run_add_str w (a ++ [32]) b (by simp; omega)⟩
theorem join_out (a b : Bs) (w : World) (hl : a.length ≤ maxLen) (hn : b.length ≤ maxLen) (h : ¬ (a.length ≤ 90 ∧ b.length ≤ 90)) : Calls Try.prog 8 #[strV a, strV b] w fun e w' => e = .returned (.bool true) ∧ Fr w w' (fun _ => False) := by
  unfold maxLen at hl hn
  have hz := str_size a
  have hz2 := str_size b
  have HA := Lib.hid (alive_any w)
  by_cases h1 : 90 < a.length
  · clear h
    go_enter Try.func8, Try.ntmps8
    go_wp2_with fail
    refine HA.out.mono ?_
    rintro e w2 ⟨rfl, hf2⟩
    have HF2 := Lib.hid hf2
    clear hf2
    go_wp2_with fail
    go_ret
    exact ⟨rfl, HF2.out⟩
  · have h1 : a.length ≤ 90 := by omega
    have h2 : 90 < b.length := by omega
    clear h
    go_enter Try.func8, Try.ntmps8
    go_wp2_with fail
    refine HA.out.mono ?_
    rintro e w2 ⟨rfl, hf2⟩
    have HF2 := Lib.hid hf2
    clear hf2
    go_wp2_with fail
    go_ret
    exact ⟨rfl, HF2.out⟩
theorem note_at {a : Bs} {i : Nat} (hlt : i < a.length) (hlt' : i < (⟨a.toArray⟩ : ByteArray).size) : (a[i] = 35 → (((((⟨a.toArray⟩ : ByteArray)[i]'hlt').toNat : Nat) : Int) == 35) = true) ∧ (a[i] ≠ 35 → (((((⟨a.toArray⟩ : ByteArray)[i]'hlt').toNat : Nat) : Int) == 35) = false) := by
  have hget : (⟨a.toArray⟩ : ByteArray)[i]'hlt' = a[i]'hlt := rfl
  rw [hget]
  exact ⟨fun h => by rw [h]; rfl, fun h => u8_ne (k := 35) h (by decide)⟩
set_option maxHeartbeats 1600000 in
theorem join_note (a b : Bs) (w : World) (h1 : a.length ≤ 90) (h2 : b.length ≤ 90) (h35 : (35 : UInt8) ∈ a) : Calls Try.prog 8 #[strV a, strV b] w fun e w' => e = .returned (.bool true) ∧ Fr w w' (fun _ => False) := by
  have hz := str_size a
  have hz2 := str_size b
  have HA := Lib.hid (alive_any w)
  have H35 := Lib.hid h35
  clear h35
  go_enter Try.func8, Try.ntmps8
  go_wp2_with fail
  go_loopg [5] a.length (fun g v5 wr => wr = w ∧ ∃ i : Nat, i + g = a.length ∧ v5 = .int .i64 (i : Int) ∧ ∀ (j : Nat) (hj : j < a.length), j < i → a[j] ≠ 35)
  case atStart => exact ⟨rfl, 0, by omega, rfl, fun j _ h => absurd h (by omega)⟩
  case round =>
    obtain ⟨rfl, i, hi, rfl, hno⟩ := hrel
    have HNO := Lib.hid hno
    clear hno
    by_cases hlt : i < a.length
    · have hlt' : i < (⟨a.toArray⟩ : ByteArray).size := by rw [hz]; exact hlt
      obtain ⟨n1, n2⟩ := note_at hlt hlt'
      have i0 : (0 : Int) ≤ (i : Int) := by omega
      have i1 : (i : Int) < (a.length : Int) := by omega
      by_cases hc : a[i] = 35
      · have e1 := n1 hc
        clear n1 n2 hc
        go_wp2_with fail
        refine HA.out.mono ?_
        rintro e w2 ⟨rfl, hf2⟩
        have HF2 := Lib.hid hf2
        clear hf2
        go_wp2_with fail
        go_ret
        exact ⟨rfl, HF2.out⟩
      · have e1 := n2 hc
        have HC := Lib.hid hc
        clear n1 n2 hc
        go_wp2_with fail
        go_roundg (a.length - (i + 1))
        case measure => omega
        case rel => exact ⟨rfl, i + 1, by omega, by go_num, fun j hj hji => by
          by_cases e : j = i
          · subst e; exact HC.out
          · exact HNO.out j hj (by omega)⟩
    · exfalso
      obtain ⟨j, hj, e⟩ := List.getElem_of_mem H35.out
      exact HNO.out j hj (by omega) e
end Go.Proofs.Ytolmemdkklfdpaa
