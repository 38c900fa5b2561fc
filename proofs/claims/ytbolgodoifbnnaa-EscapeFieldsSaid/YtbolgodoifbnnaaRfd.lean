import Derived.Test.YtbolgodoifbnnaaRfc
namespace Go.Proofs.Ytbolgodoifbnnaa
open Go.RowKit Go.Mem Go.Esc

theorem rp_empty (s : ByteArray) (w : World) (h0 : s.size = 0) : Calls Try.prog 27 #[.string s] w fun e w' => e = .returned (.bool (mayPlain s.data.toList)) ∧ w = w' := by
  have hm : mayPlain s.data.toList = false := by
    have : s.data.toList = [] := List.length_eq_zero_iff.1 (by rw [bytes_len]; exact h0)
    rw [this]; rfl
  rw [hm]
  have e1 : ((s.size : Int) == 0) = true := beq_iff_eq.2 (by omega)
  clear hm h0
  go_enter Try.func27, Try.ntmps27
  go_wp2_with fail
  go_ret
  exact ⟨rfl, rfl⟩
theorem plainB_int (c : UInt8) (n : Int) (hn : n = c.toNat) : (plainB c = true) ↔ (32 < n ∧ n ≤ 126) := by
  subst hn
  simp [plainB, UInt8.le_iff_toNat_le]
  omega
theorem rp_some (s : ByteArray) (w : World) (h0 : 0 < s.size) (hz : s.size ≤ 999990) : Calls Try.prog 27 #[.string s] w fun e w' => e = .returned (.bool (mayPlain s.data.toList)) ∧ w = w' := by
  have hne : s.data.toList ≠ [] := fun e => by have := bytes_len s; rw [e] at this; simp at this; omega
  have e1 : ((s.size : Int) == 0) = false := beq_eq_false_iff_ne.2 (by omega)
  have hemp2 : s.data.toList.isEmpty = false := by simpa using hne
  have hhead : s.data.toList.head? = some s[0] := by
    rw [List.head?_eq_getElem?, List.getElem?_eq_getElem (by rw [bytes_len]; exact h0)]
    rfl
  obtain ⟨x, hx⟩ : ∃ x, mayPlain s.data.toList = x := ⟨_, rfl⟩
  rw [hx]
  by_cases h34 : s[0] = 34
  · have hm : x = false := by rw [← hx]; simp [mayPlain, hhead, h34]
    subst hm
    have h34' : ((s[0].toNat : Int) == 34) = true := by rw [h34]; rfl
    clear hne hhead h34 hx hemp2
    go_enter Try.func27, Try.ntmps27
    go_wp2_with fail
    go_ret
    exact ⟨rfl, rfl⟩
  · have h34' : ((s[0].toNat : Int) == 34) = false := toNat_ne (k := 34) h34 rfl
    have hm : x = s.data.toList.all plainB := by rw [← hx]; simp [mayPlain, hhead, h34, hemp2]
    have HX := Lib.hid hm
    clear hne hhead h34 hx hemp2 hm
    go_enter Try.func27, Try.ntmps27
    go_wp2_with fail
    go_loop [3] (fun v => ∃ k : Nat, k ≤ s.size ∧ v = .int .i64 k ∧ ∀ j (h : j < s.size), j < k → plainB s[j] = true) (fun v => s.size - (intOf v).toNat)
    case atStart => exact ⟨0, Nat.zero_le _, rfl, fun j _ h => absurd h (by omega)⟩
    case round =>
      obtain ⟨k, hk, rfl, hall⟩ := hrel
      have HA := Lib.hid hall
      clear hall
      by_cases hlt : k < s.size
      · have HI := Lib.hid (plainB_int s[k] _ rfl)
        by_cases p1 : (s[k].toNat : Int) ≤ 32
        · have hf : x = false := by
            rw [HX.out, Bool.eq_false_iff]
            intro e
            have := (HI.out.1 (plain_all.2 e k hlt)).1
            omega
          subst hf
          go_wp2_with fail
          go_ret
          exact ⟨rfl, rfl⟩
        · by_cases p2 : (126 : Int) < (s[k].toNat : Int)
          · have hf : x = false := by
              rw [HX.out, Bool.eq_false_iff]
              intro e
              have := (HI.out.1 (plain_all.2 e k hlt)).2
              omega
            subst hf
            go_wp2_with fail
            go_ret
            exact ⟨rfl, rfl⟩
          · have HY := Lib.hid (HI.out.2 ⟨by omega, by omega⟩)
            go_wp2_with fail
            go_round
            case rel => exact ⟨k + 1, by omega, by go_num, fun j h hj => by
              by_cases e : j = k
              · subst e; exact HY.out
              · exact HA.out j h (by omega)⟩
            case measure => simp [intOf]; omega
      · have hf : x = true := by
          rw [HX.out]
          exact plain_all.1 fun j h => HA.out j h (by omega)
        subst hf
        go_wp2_with fail
        go_ret
        exact ⟨rfl, rfl⟩
theorem rp_any (s : ByteArray) (w : World) (hz : s.size ≤ 999990) : Calls Try.prog 27 #[.string s] w fun e w' => e = .returned (.bool (mayPlain s.data.toList)) ∧ w = w' := by
  by_cases h0 : 0 < s.size
  · exact rp_some s w h0 hz
  · exact rp_empty s w (by omega)
end Go.Proofs.Ytbolgodoifbnnaa
