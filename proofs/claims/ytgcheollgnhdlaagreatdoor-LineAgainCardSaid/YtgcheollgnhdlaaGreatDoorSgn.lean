import Derived.Test.YtgcheollgnhdlaaGreatDoorLnv
import Derived.Test.YtgcheollgnhdlaaGreatDoorS8Yrs
import Derived.Test.YtgcheollgnhdlaaGreatDoorChn
namespace Go.Proofs.YtgcheollgnhdlaaGreatDoor
open Go.RowKit Go.Mem Go.Lin

theorem isDigit_any (c : UInt8) (w : World) : Calls Tryz.prog 89 #[.int .u8 (c.toNat : Int)] w fun e w' => e = .returned (.bool (Go.Kwd.digitB c)) ∧ w = w' := by
  have HX := Lib.hid (show Go.Kwd.digitB c = (decide ((48 : Int) ≤ (c.toNat : Int)) && decide ((c.toNat : Int) ≤ 57)) by unfold Go.Kwd.digitB; congr 1 <;> simp <;> omega)
  obtain ⟨x, hx⟩ : ∃ x, Go.Kwd.digitB c = x := ⟨_, rfl⟩
  rw [hx] at HX ⊢
  generalize (c.toNat : Int) = n at *
  clear hx
  by_cases h1 : (48 : Int) ≤ n
  all_goals by_cases h2 : n ≤ 57
  all_goals
    go_enter Tryz.func89, Tryz.ntmps89
    go_wp2_with fail
    go_ret
    exact ⟨by rw [HX.out]; simp [h1, h2], rfl⟩
theorem isLetterSign_any (c : UInt8) (w : World) : Calls Tryz.prog 103 #[.int .u8 (c.toNat : Int)] w fun e w' => e = .returned (.bool (letB c)) ∧ w = w' := by
  have HX := Lib.hid (show letB c = ((decide ((97 : Int) ≤ (c.toNat : Int)) && decide ((c.toNat : Int) ≤ 122)) || (decide ((65 : Int) ≤ (c.toNat : Int)) && decide ((c.toNat : Int) ≤ 90)) || Go.Kwd.digitB c || (c.toNat : Int) == 43) by
    have h43 : (c == 43) = ((c.toNat : Int) == 43) := S8.eq_byte c 43
    unfold letB Go.Kwd.letterB
    rw [h43]
    congr 3
    · congr 1 <;> simp <;> omega
    · congr 1 <;> simp <;> omega)
  have HD := Lib.hid (isDigit_any c w)
  obtain ⟨x, hx⟩ : ∃ x, letB c = x := ⟨_, rfl⟩
  rw [hx] at HX ⊢
  obtain ⟨z, hz⟩ : ∃ z, Go.Kwd.digitB c = z := ⟨_, rfl⟩
  rw [hz] at HX HD
  generalize (c.toNat : Int) = n at *
  clear hx hz
  by_cases h0 : 97 ≤ n ∧ n ≤ 122
  · obtain ⟨h1, h2⟩ := h0
    go_enter Tryz.func103, Tryz.ntmps103
    go_wp2_with fail
    go_ret
    exact ⟨by rw [HX.out]; simp [h1, h2] <;> omega, rfl⟩
  by_cases h0 : 65 ≤ n ∧ n ≤ 90
  · obtain ⟨h3, h4⟩ := h0
    have h1 : ¬ 97 ≤ n := by omega
    go_enter Tryz.func103, Tryz.ntmps103
    go_wp2_with fail
    go_ret
    exact ⟨by rw [HX.out]; simp [h3, h4] <;> omega, rfl⟩
  have hr : 122 < n ∨ (90 < n ∧ n < 97) ∨ n < 65 := by omega
  rcases hr with hr | hr | hr
  · have h1 : 97 ≤ n := by omega
    have h2 : ¬ n ≤ 122 := by omega
    have h3 : 65 ≤ n := by omega
    have h4 : ¬ n ≤ 90 := by omega
    clear hr
    cases z
    · cases h5 : (n == 43)
      all_goals
        go_enter Tryz.func103, Tryz.ntmps103
        go_wp2_with fail
        refine HD.out.mono ?_
        rintro e w2 ⟨rfl, rfl⟩
        go_wp2_with fail
        go_ret
        exact ⟨by rw [HX.out]; simp [h1, h2, h3, h4, h5] <;> omega, rfl⟩
    · skip
      go_enter Tryz.func103, Tryz.ntmps103
      go_wp2_with fail
      refine HD.out.mono ?_
      rintro e w2 ⟨rfl, rfl⟩
      go_wp2_with fail
      go_ret
      exact ⟨by rw [HX.out]; simp [h1, h3] <;> omega, rfl⟩
  · have h1 : ¬ 97 ≤ n := by omega
    have h3 : 65 ≤ n := by omega
    have h4 : ¬ n ≤ 90 := by omega
    clear hr
    cases z
    · cases h5 : (n == 43)
      all_goals
        go_enter Tryz.func103, Tryz.ntmps103
        go_wp2_with fail
        refine HD.out.mono ?_
        rintro e w2 ⟨rfl, rfl⟩
        go_wp2_with fail
        go_ret
        exact ⟨by rw [HX.out]; simp [h3, h4, h5] <;> omega, rfl⟩
    · skip
      go_enter Tryz.func103, Tryz.ntmps103
      go_wp2_with fail
      refine HD.out.mono ?_
      rintro e w2 ⟨rfl, rfl⟩
      go_wp2_with fail
      go_ret
      exact ⟨by rw [HX.out]; simp [h3] <;> omega, rfl⟩
  · have h1 : ¬ 97 ≤ n := by omega
    have h3 : ¬ 65 ≤ n := by omega
    clear hr
    cases z
    · cases h5 : (n == 43)
      all_goals
        go_enter Tryz.func103, Tryz.ntmps103
        go_wp2_with fail
        refine HD.out.mono ?_
        rintro e w2 ⟨rfl, rfl⟩
        go_wp2_with fail
        go_ret
        exact ⟨by rw [HX.out]; simp [h5] <;> omega, rfl⟩
    · skip
      go_enter Tryz.func103, Tryz.ntmps103
      go_wp2_with fail
      refine HD.out.mono ?_
      rintro e w2 ⟨rfl, rfl⟩
      go_wp2_with fail
      go_ret
      exact ⟨by rw [HX.out]; simp <;> omega, rfl⟩
theorem isFormatSign_any (c : UInt8) (w : World) : Calls Tryz.prog 109 #[.int .u8 (c.toNat : Int)] w fun e w' => e = .returned (.bool (signB c)) ∧ w = w' := by
  have HX := Lib.hid (show signB c = (letB c || (c.toNat : Int) == 45) by unfold signB; rw [S8.eq_byte]; rfl)
  have HS := Lib.hid (isLetterSign_any c w)
  obtain ⟨x, hx⟩ : ∃ x, signB c = x := ⟨_, rfl⟩
  rw [hx] at HX ⊢
  obtain ⟨y, hy⟩ : ∃ y, letB c = y := ⟨_, rfl⟩
  rw [hy] at HX HS
  generalize (c.toNat : Int) = n at *
  clear hx hy
  cases y
  · cases h1 : (n == 45)
    all_goals
      go_enter Tryz.func109, Tryz.ntmps109
      go_wp2_with fail
      refine HS.out.mono ?_
      rintro e w2 ⟨rfl, rfl⟩
      go_wp2_with fail
      go_ret
      exact ⟨by rw [HX.out]; simp [h1], rfl⟩
  · go_enter Tryz.func109, Tryz.ntmps109
    go_wp2_with fail
    refine HS.out.mono ?_
    rintro e w2 ⟨rfl, rfl⟩
    go_wp2_with fail
    go_ret
    exact ⟨by rw [HX.out]; simp, rfl⟩
theorem unless_any (b : Bool) (k : Int) (w : World) : Calls Tryz.prog 74 #[.bool b, intV k] w fun e w' => e = .returned (intV (if b = true then 0 else k)) ∧ w = w' := by
  cases b
  all_goals
    go_enter Tryz.func74, Tryz.ntmps74
    go_wp2_with fail
    go_ret
    exact ⟨rfl, rfl⟩
theorem fits_any (l : Bs) (m : Int) (w : World) (x : Bool) (hx : (decide (1 ≤ l.length) && decide ((l.length : Int) ≤ m)) = x) : Calls Tryz.prog 101 #[strV l, intV m] w fun e w' => e = .returned (.bool x) ∧ w = w' := by
  have HX := Lib.hid hx
  clear hx
  by_cases h1 : (1 : Int) ≤ (l.length : Int)
  · by_cases h2 : (l.length : Int) ≤ m
    · have h3 : decide (1 ≤ l.length) = true := decide_eq_true (by omega)
      have hf : true = x := by rw [← HX.out, h3]; simp [h2]
      subst hf
      clear HX h3
      go_enter Tryz.func101, Tryz.ntmps101
      go_wp2_with fail
      go_ret
      exact ⟨by simp, rfl⟩
    · have hf : false = x := by rw [← HX.out]; simp [h2]
      subst hf
      clear HX
      go_enter Tryz.func101, Tryz.ntmps101
      go_wp2_with fail
      go_ret
      exact ⟨by simp, rfl⟩
  · have h3 : decide (1 ≤ l.length) = false := decide_eq_false (by omega)
    have hf : false = x := by rw [← HX.out, h3]; rfl
    subst hf
    clear HX h3
    go_enter Tryz.func101, Tryz.ntmps101
    go_wp2_with fail
    go_ret
    exact ⟨by simp, rfl⟩
theorem all_at (s : ByteArray) (E : UInt8 → Bool) : s.data.toList.all E = true ↔ ∀ j (h : j < s.size), E s[j] = true := by
  rw [List.all_eq_true]
  constructor
  · intro h k hk
    exact h _ (List.getElem_mem (by rw [S8.bytes_len]; exact hk))
  · intro h x hx
    obtain ⟨k, hk, e⟩ := List.getElem_of_mem hx
    rw [← e]
    exact h k (by rw [S8.bytes_len] at hk; exact hk)
theorem conL_any (s : ByteArray) (w : World) (hs : s.size ≤ 1000000) (x : Bool) (hx : s.data.toList.all letB = x) :
    Calls Tryz.prog 102 #[.string s, .func (.func 103) #[] #[]] w fun e w' => e = .returned (.bool x) ∧ w = w' := by
  have HX := Lib.hid (all_at s letB)
  rw [hx] at HX
  clear hx
  go_enter Tryz.func102, Tryz.ntmps102
  go_wp2_with fail
  go_loopg [5, 8] s.size (fun g _ v8 wr => ∃ k : Nat, k + g = s.size ∧ v8 = .int .i64 (k : Int) ∧ (∀ j (h : j < s.size), j < k → letB s[j] = true) ∧ w = wr)
  case atStart => exact ⟨0, by omega, rfl, fun j _ h => absurd h (by omega), rfl⟩
  case round =>
    obtain ⟨k, hk, rfl, hall, rfl⟩ := hrel
    have HA := Lib.hid hall
    clear hall
    by_cases hlt : k < s.size
    · have i0 : (0 : Int) ≤ (k : Int) := by omega
      have i1 : (k : Int) < (s.size : Int) := by omega
      obtain ⟨z, hz⟩ : ∃ z, letB s[k] = z := ⟨_, rfl⟩
      have HE := Lib.hid (isLetterSign_any s[k] w)
      have HE := Lib.hid (show Calls Tryz.prog 103 #[.int .u8 (s[k].toNat : Int)] w fun e w' => e = .returned (.bool z) ∧ w = w' by rw [← hz]; exact HE.out)
      have HZ := Lib.hid hz
      clear hz
      cases z with
      | true =>
        go_wp2_with fail
        refine HE.out.mono ?_
        rintro e w2 ⟨rfl, rfl⟩
        go_wp2_with fail
        go_roundg (s.size - (k + 1))
        case measure => omega
        case rel => exact ⟨k + 1, by omega, by go_num, fun j h hj => by
          by_cases e : j = k
          · subst e; exact HZ.out
          · exact HA.out j h (by omega), rfl⟩
      | false =>
        have hf : x = false := by
          rw [Bool.eq_false_iff]
          intro e
          have := HX.out.1 e k hlt
          rw [HZ.out] at this
          cases this
        subst hf
        go_wp2_with fail
        refine HE.out.mono ?_
        rintro e w2 ⟨rfl, rfl⟩
        go_wp2_with fail
        go_ret
        exact ⟨rfl, rfl⟩
    · have hf : x = true := HX.out.2 (fun j h => HA.out j h (by omega))
      subst hf
      have hk' : k = s.size := by omega
      subst hk'
      go_wp2_with fail
      go_ret
      exact ⟨rfl, rfl⟩
theorem conF_any (s : ByteArray) (w : World) (hs : s.size ≤ 1000000) (x : Bool) (hx : s.data.toList.all signB = x) :
    Calls Tryz.prog 102 #[.string s, .func (.func 109) #[] #[]] w fun e w' => e = .returned (.bool x) ∧ w = w' := by
  have HX := Lib.hid (all_at s signB)
  rw [hx] at HX
  clear hx
  go_enter Tryz.func102, Tryz.ntmps102
  go_wp2_with fail
  go_loopg [5, 8] s.size (fun g _ v8 wr => ∃ k : Nat, k + g = s.size ∧ v8 = .int .i64 (k : Int) ∧ (∀ j (h : j < s.size), j < k → signB s[j] = true) ∧ w = wr)
  case atStart => exact ⟨0, by omega, rfl, fun j _ h => absurd h (by omega), rfl⟩
  case round =>
    obtain ⟨k, hk, rfl, hall, rfl⟩ := hrel
    have HA := Lib.hid hall
    clear hall
    by_cases hlt : k < s.size
    · have i0 : (0 : Int) ≤ (k : Int) := by omega
      have i1 : (k : Int) < (s.size : Int) := by omega
      obtain ⟨z, hz⟩ : ∃ z, signB s[k] = z := ⟨_, rfl⟩
      have HE := Lib.hid (isFormatSign_any s[k] w)
      have HE := Lib.hid (show Calls Tryz.prog 109 #[.int .u8 (s[k].toNat : Int)] w fun e w' => e = .returned (.bool z) ∧ w = w' by rw [← hz]; exact HE.out)
      have HZ := Lib.hid hz
      clear hz
      cases z with
      | true =>
        go_wp2_with fail
        refine HE.out.mono ?_
        rintro e w2 ⟨rfl, rfl⟩
        go_wp2_with fail
        go_roundg (s.size - (k + 1))
        case measure => omega
        case rel => exact ⟨k + 1, by omega, by go_num, fun j h hj => by
          by_cases e : j = k
          · subst e; exact HZ.out
          · exact HA.out j h (by omega), rfl⟩
      | false =>
        have hf : x = false := by
          rw [Bool.eq_false_iff]
          intro e
          have := HX.out.1 e k hlt
          rw [HZ.out] at this
          cases this
        subst hf
        go_wp2_with fail
        refine HE.out.mono ?_
        rintro e w2 ⟨rfl, rfl⟩
        go_wp2_with fail
        go_ret
        exact ⟨rfl, rfl⟩
    · have hf : x = true := HX.out.2 (fun j h => HA.out j h (by omega))
      subst hf
      have hk' : k = s.size := by omega
      subst hk'
      go_wp2_with fail
      go_ret
      exact ⟨rfl, rfl⟩
end Go.Proofs.YtgcheollgnhdlaaGreatDoor
