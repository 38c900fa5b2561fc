import Derived.Test.YtgfmodfakcbgfaaDoorBas
namespace Go.Proofs.YtgfmodfakcbgfaaDoor
open Go.RowKit Go.Mem Go.Clk

theorem val_snoc (s : Bs) (c : UInt8) : valN (s ++ [c]) = valN s * 10 + dv c := by simp [valN]
theorem val_lt (s : Bs) (h : s.all digB = true) : valN s < 10 ^ s.length := by
  have key : ∀ (n : Nat) (s : Bs), s.length = n → s.all digB = true → valN s < 10 ^ n := by
    intro n
    induction n with
    | zero =>
      intro s hs _
      rw [List.length_eq_zero_iff.1 hs]
      decide
    | succ n ih =>
      intro s hs h
      have hne : s ≠ [] := fun e => by rw [e] at hs; cases hs
      obtain ⟨q, c, rfl⟩ : ∃ q c, s = q ++ [c] := ⟨s.dropLast, s.getLast hne, (List.dropLast_concat_getLast hne).symm⟩
      rw [List.all_append, Bool.and_eq_true] at h
      have h1 := ih q (by simpa using hs) h.1
      have h2 := dv_lt (c := c) (by simpa using h.2)
      rw [val_snoc, Nat.pow_succ]
      omega
  exact key _ s rfl h
theorem val_999 {s : Bs} (h : s.all digB = true) (hl : s.length ≤ 3) : valN s ≤ 999 := by
  have := val_lt s h
  have h2 : 10 ^ s.length ≤ 10 ^ 3 := Nat.pow_le_pow_right (by decide) hl
  omega
theorem take_snoc' {α : Type} {ls : List α} {k : Nat} {x : α} (h : ls[k]? = some x) : ls.take (k + 1) = ls.take k ++ [x] := by
  obtain ⟨h1, h2⟩ := List.getElem?_eq_some_iff.1 h
  rw [List.take_succ_eq_append_getElem h1, h2]
set_option maxHeartbeats 800000 in
theorem number_any (s : Bs) (a b m : Nat) (_ha : a ≤ 3) (hb : b ≤ 3) (_hm : m ≤ 1000) (hs : s.length ≤ 100000) (w : World) (V : Int) (hV : numI s a b m = V) :
    Calls Tryd.prog 32 #[strV s, natV a, natV b, natV m] w fun e w' => e = .returned (.int .i64 V) ∧ w = w' := by
  have hz := str_size s
  by_cases h1 : s.length < a
  · have hf : V = -1 := by rw [← hV, numI, if_neg (by omega)]
    subst hf
    have t1 : (s.length : Int) < (a : Int) := by omega
    clear hV
    go_enter Tryd.func32, Tryd.ntmps32
    go_wp2_with fail
    go_ret
    exact ⟨rfl, rfl⟩
  · by_cases h2 : b < s.length
    · have hf : V = -1 := by rw [← hV, numI, if_neg (by omega)]
      subst hf
      have t1 : ¬ ((s.length : Int) < (a : Int)) := by omega
      have t2 : (b : Int) < (s.length : Int) := by omega
      clear hV h1
      go_enter Tryd.func32, Tryd.ntmps32
      go_wp2_with fail
      go_ret
      exact ⟨rfl, rfl⟩
    · have t1 : ¬ ((s.length : Int) < (a : Int)) := by omega
      have t2 : ¬ ((b : Int) < (s.length : Int)) := by omega
      have hl3 : s.length ≤ 3 := by omega
      have HV := Lib.hid (show V = if s.all digB = true ∧ valN s ≤ m then (valN s : Int) else -1 by
        rw [← hV, numI]
        by_cases h : s.all digB = true ∧ valN s ≤ m
        · rw [if_pos h, if_pos ⟨by omega, by omega, h⟩]
        · rw [if_neg h, if_neg (fun x => h x.2.2)])
      clear hV
      go_enter Tryd.func32, Tryd.ntmps32
      go_wp2_with fail
      go_loop [9, 10] (fun v9 v10 => ∃ k : Nat, k ≤ s.length ∧ v10 = .int .i64 k ∧ v9 = natV (valN (s.take k)) ∧ (s.take k).all digB = true) (fun _ v10 => s.length - (intOf v10).toNat)
      case atStart => exact ⟨0, Nat.zero_le _, rfl, rfl, rfl⟩
      case round =>
        obtain ⟨k, hk, rfl, rfl, hall⟩ := hrel
        have hv := val_999 hall (by rw [List.length_take]; omega)
        have HA := Lib.hid hall
        clear hall
        by_cases hlt : k < s.length
        · have hlt' : k < (⟨s.toArray⟩ : ByteArray).size := by rw [hz]; exact hlt
          have hget : (⟨s.toArray⟩ : ByteArray)[k]'hlt' = s[k]'hlt := rfl
          have hget? : s[k]? = some (s[k]'hlt) := List.getElem?_eq_getElem hlt
          obtain ⟨c, hc⟩ : ∃ c, s[k]'hlt = c := ⟨_, rfl⟩
          rw [hc] at hget hget?
          have HT := Lib.hid (take_snoc' hget?)
          by_cases hd : digB c = true
          · have hcb := (digB_iff c).1 hd
            have d1 : ¬ (((⟨s.toArray⟩ : ByteArray)[k]'hlt').toNat : Int) < 48 := by rw [hget]; omega
            have d2 : ¬ (57 : Int) < (((⟨s.toArray⟩ : ByteArray)[k]'hlt').toNat : Int) := by rw [hget]; omega
            have HE := Lib.hid (show ((((⟨s.toArray⟩ : ByteArray)[k]'hlt').toNat : Int) - 48) = (dv c : Int) by rw [hget]; unfold dv; omega)
            have HD := Lib.hid hd
            clear hget hget? hc hcb hd HV
            go_wp2_with fail
            go_round
            case rel => exact ⟨k + 1, by omega, by go_num, by
              have := HE.out
              rw [HT.out, val_snoc]
              show Value.int _ _ = Value.int _ _
              congr 1
              push_cast
              omega, by rw [HT.out, List.all_append, HA.out]; simpa using HD.out⟩
            case measure => simp [intOf]; omega
          · have hf : V = -1 := by
              rw [HV.out, if_neg]
              rintro ⟨h, -⟩
              exact hd (List.all_eq_true.1 h c (List.mem_of_getElem? hget?))
            subst hf
            have hcb : ¬ (48 ≤ c.toNat ∧ c.toNat ≤ 57) := fun h => hd ((digB_iff c).2 h)
            by_cases p1 : c.toNat < 48
            · have d1 : (((⟨s.toArray⟩ : ByteArray)[k]'hlt').toNat : Int) < 48 := by rw [hget]; omega
              clear hget hget? hc hcb hd HV p1
              go_wp2_with fail
              go_ret
              exact ⟨rfl, rfl⟩
            · have d1 : ¬ (((⟨s.toArray⟩ : ByteArray)[k]'hlt').toNat : Int) < 48 := by rw [hget]; omega
              have d2 : (57 : Int) < (((⟨s.toArray⟩ : ByteArray)[k]'hlt').toNat : Int) := by rw [hget]; omega
              clear hget hget? hc hcb hd HV p1
              go_wp2_with fail
              go_ret
              exact ⟨rfl, rfl⟩
        · have hks : s.take k = s := List.take_of_length_le (by omega)
          rw [hks] at HA hv
          rw [hks]
          by_cases hle : valN s ≤ m
          · have hf : V = (valN s : Int) := by rw [HV.out, if_pos ⟨HA.out, hle⟩]
            subst hf
            have t3 : ¬ ((m : Int) < (valN s : Int)) := by omega
            clear HV hks
            go_wp2_with fail
            go_ret
            exact ⟨rfl, rfl⟩
          · have hf : V = -1 := by rw [HV.out, if_neg (fun h => hle h.2)]
            subst hf
            have t3 : ((m : Int) < (valN s : Int)) := by omega
            clear HV hks
            go_wp2_with fail
            go_ret
            exact ⟨rfl, rfl⟩
end Go.Proofs.YtgfmodfakcbgfaaDoor
