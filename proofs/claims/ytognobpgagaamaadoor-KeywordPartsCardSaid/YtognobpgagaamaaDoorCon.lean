import Derived.Test.YtognobpgagaamaaDoorFnd
namespace Go.Proofs.YtognobpgagaamaaDoor
open Go.RowKit Go.Mem Go.Kwd

abbrev notDash (c : UInt8) : Bool := c != 45
theorem first_rule (c : UInt8) (h : firstB c = true) : ruleB c = true := by
  have H : ∀ k : Fin 256, firstB (UInt8.ofNat k.val) = true → ruleB (UInt8.ofNat k.val) = true := by decide +kernel
  have := H ⟨c.toNat, c.toNat_lt⟩
  simp only [UInt8.ofNat_toNat] at this
  exact this h

theorem conP_iff (s : ByteArray) (h : 0 < s.size) : partB s.data.toList = true ↔ notDash s[0] = true ∧ ∀ j (h : j < s.size), partC s[j] = true := by
  obtain ⟨c, r, hl⟩ : ∃ c r, s.data.toList = c :: r := by
    cases hl : s.data.toList with
    | nil => exact absurd hl (emp_not h).2
    | cons c r => exact ⟨c, r, rfl⟩
  obtain ⟨_, hc, -⟩ := drop_cons (s := s) (a := 0) (by rw [List.drop_zero]; exact hl)
  have hall : (∀ j (h : j < s.size), partC s[j] = true) ↔ s.data.toList.all partC = true := by
    rw [List.all_eq_true]
    constructor
    · intro h x hx
      obtain ⟨k, hk, e⟩ := List.getElem_of_mem hx
      rw [← e]
      exact h k (by rw [bytes_len] at hk; exact hk)
    · intro h k hk
      exact h _ (List.getElem_mem (by rw [bytes_len]; exact hk))
  rw [hall, hl, hc]
  simp [partB, notDash]

theorem conR_iff (s : ByteArray) (h : 0 < s.size) : ruleM s.data.toList = true ↔ firstB s[0] = true ∧ ∀ j (h : j < s.size), ruleB s[j] = true := by
  obtain ⟨c, r, hl⟩ : ∃ c r, s.data.toList = c :: r := by
    cases hl : s.data.toList with
    | nil => exact absurd hl (emp_not h).2
    | cons c r => exact ⟨c, r, rfl⟩
  obtain ⟨_, hc, -⟩ := drop_cons (s := s) (a := 0) (by rw [List.drop_zero]; exact hl)
  have hall : (∀ j (h : j < s.size), ruleB s[j] = true) ↔ s.data.toList.all ruleB = true := by
    rw [List.all_eq_true]
    constructor
    · intro h x hx
      obtain ⟨k, hk, e⟩ := List.getElem_of_mem hx
      rw [← e]
      exact h k (by rw [bytes_len] at hk; exact hk)
    · intro h k hk
      exact h _ (List.getElem_mem (by rw [bytes_len]; exact hk))
  rw [hall, hl, hc]
  rw [show ruleM (c :: r) = (firstB c && r.all ruleB) from rfl, List.all_cons, Bool.and_eq_true, Bool.and_eq_true]
  exact ⟨fun h => ⟨h.1, first_rule c h.1, h.2⟩, fun h => ⟨h.1, h.2.2⟩⟩

theorem conP_any (s : ByteArray) (w : World) (hs : s.size ≤ 1000000) (x : Bool) (hx : partB s.data.toList = x) :
    Calls Tryd.prog 36 #[.string s, .func (.func 37) #[] #[], .func (.func 38) #[] #[]] w fun e w' => e = .returned (.bool x) ∧ w = w' := by
  by_cases h0 : s.size = 0
  · obtain ⟨h1, h2⟩ := emp_of h0
    have hx : x = false := by rw [← hx, h2]; rfl
    subst hx
    clear h2
    go_enter Tryd.func36, Tryd.ntmps36
    go_wp2_with fail
    go_ret
    exact ⟨rfl, rfl⟩
  · have hpos : 0 < s.size := by omega
    have he := (emp_not hpos).1
    have HX := Lib.hid (conP_iff s hpos)
    rw [hx] at HX
    obtain ⟨y, hy⟩ : ∃ y, notDash s[0] = y := ⟨_, rfl⟩
    have HF := Lib.hid (fun W => beginsPart_any s[0] W)
    have HF := Lib.hid (fun W => (show Calls Tryd.prog 37 #[.int .u8 (s[0].toNat : Int)] W fun e w' => e = .returned (.bool y) ∧ W = w' by rw [← hy]; exact HF.out W))
    clear hx h0
    cases y with
    | false =>
      have hf : x = false := by
        rw [Bool.eq_false_iff]
        intro e
        have := (HX.out.1 e).1
        rw [hy] at this
        cases this
      subst hf
      clear hy
      go_enter Tryd.func36, Tryd.ntmps36
      go_wp2_with fail
      refine (HF.out _).mono ?_
      rintro e w2 ⟨rfl, rfl⟩
      go_wp2_with fail
      go_ret
      exact ⟨rfl, rfl⟩
    | true =>
      have HY := Lib.hid hy
      clear hy
      go_enter Tryd.func36, Tryd.ntmps36
      go_wp2_with fail
      refine (HF.out _).mono ?_
      rintro e w2 ⟨rfl, rfl⟩
      go_wp2_with fail
      go_loopg [7, 19] s.size (fun g _ v19 wr => ∃ k : Nat, k + g = s.size ∧ v19 = .int .i64 (k : Int) ∧ (∀ j (h : j < s.size), j < k → partC s[j] = true) ∧ w = wr)
      case atStart => exact ⟨0, by omega, rfl, fun j _ h => absurd h (by omega), rfl⟩
      case round =>
        obtain ⟨k, hk, rfl, hall, rfl⟩ := hrel
        have HA := Lib.hid hall
        clear hall
        by_cases hlt : k < s.size
        · have i0 : (0 : Int) ≤ (k : Int) := by omega
          have i1 : (k : Int) < (s.size : Int) := by omega
          obtain ⟨z, hz⟩ : ∃ z, partC s[k] = z := ⟨_, rfl⟩
          have HE := Lib.hid (inPart_any s[k] w)
          have HE := Lib.hid (show Calls Tryd.prog 38 #[.int .u8 (s[k].toNat : Int)] w fun e w' => e = .returned (.bool z) ∧ w = w' by rw [← hz]; exact HE.out)
          have HZ := Lib.hid hz
          clear hz
          cases z with
          | true =>
            go_wp2_with fail
            refine HE.out.mono ?_
            rintro e w2 ⟨rfl, rfl⟩
            go_wp2_with fail
            go_roundg (s.size - (k + 1))
            case measure => omega
            case rel => exact ⟨k + 1, by omega, by go_num, fun j h hj => by
              by_cases e : j = k
              · subst e; exact HZ.out
              · exact HA.out j h (by omega), rfl⟩
          | false =>
            have hf : x = false := by
              rw [Bool.eq_false_iff]
              intro e
              have := (HX.out.1 e).2 k hlt
              rw [HZ.out] at this
              cases this
            subst hf
            go_wp2_with fail
            refine HE.out.mono ?_
            rintro e w2 ⟨rfl, rfl⟩
            go_wp2_with fail
            go_ret
            exact ⟨rfl, rfl⟩
        · have hf : x = true := HX.out.2 ⟨HY.out, fun j h => HA.out j h (by omega)⟩
          subst hf
          have hk' : k = s.size := by omega
          subst hk'
          go_wp2_with fail
          go_ret
          exact ⟨rfl, rfl⟩

theorem conR_any (s : ByteArray) (w : World) (hs : s.size ≤ 1000000) (x : Bool) (hx : ruleM s.data.toList = x) :
    Calls Tryd.prog 36 #[.string s, .func (.func 41) #[] #[], .func (.func 42) #[] #[]] w fun e w' => e = .returned (.bool x) ∧ w = w' := by
  by_cases h0 : s.size = 0
  · obtain ⟨h1, h2⟩ := emp_of h0
    have hx : x = false := by rw [← hx, h2]; rfl
    subst hx
    clear h2
    go_enter Tryd.func36, Tryd.ntmps36
    go_wp2_with fail
    go_ret
    exact ⟨rfl, rfl⟩
  · have hpos : 0 < s.size := by omega
    have he := (emp_not hpos).1
    have HX := Lib.hid (conR_iff s hpos)
    rw [hx] at HX
    obtain ⟨y, hy⟩ : ∃ y, firstB s[0] = y := ⟨_, rfl⟩
    have HF := Lib.hid (fun W => beginsRule_any s[0] W)
    have HF := Lib.hid (fun W => (show Calls Tryd.prog 41 #[.int .u8 (s[0].toNat : Int)] W fun e w' => e = .returned (.bool y) ∧ W = w' by rw [← hy]; exact HF.out W))
    clear hx h0
    cases y with
    | false =>
      have hf : x = false := by
        rw [Bool.eq_false_iff]
        intro e
        have := (HX.out.1 e).1
        rw [hy] at this
        cases this
      subst hf
      clear hy
      go_enter Tryd.func36, Tryd.ntmps36
      go_wp2_with fail
      refine (HF.out _).mono ?_
      rintro e w2 ⟨rfl, rfl⟩
      go_wp2_with fail
      go_ret
      exact ⟨rfl, rfl⟩
    | true =>
      have HY := Lib.hid hy
      clear hy
      go_enter Tryd.func36, Tryd.ntmps36
      go_wp2_with fail
      refine (HF.out _).mono ?_
      rintro e w2 ⟨rfl, rfl⟩
      go_wp2_with fail
      go_loopg [7, 19] s.size (fun g _ v19 wr => ∃ k : Nat, k + g = s.size ∧ v19 = .int .i64 (k : Int) ∧ (∀ j (h : j < s.size), j < k → ruleB s[j] = true) ∧ w = wr)
      case atStart => exact ⟨0, by omega, rfl, fun j _ h => absurd h (by omega), rfl⟩
      case round =>
        obtain ⟨k, hk, rfl, hall, rfl⟩ := hrel
        have HA := Lib.hid hall
        clear hall
        by_cases hlt : k < s.size
        · have i0 : (0 : Int) ≤ (k : Int) := by omega
          have i1 : (k : Int) < (s.size : Int) := by omega
          obtain ⟨z, hz⟩ : ∃ z, ruleB s[k] = z := ⟨_, rfl⟩
          have HE := Lib.hid (inRule_any s[k] w)
          have HE := Lib.hid (show Calls Tryd.prog 42 #[.int .u8 (s[k].toNat : Int)] w fun e w' => e = .returned (.bool z) ∧ w = w' by rw [← hz]; exact HE.out)
          have HZ := Lib.hid hz
          clear hz
          cases z with
          | true =>
            go_wp2_with fail
            refine HE.out.mono ?_
            rintro e w2 ⟨rfl, rfl⟩
            go_wp2_with fail
            go_roundg (s.size - (k + 1))
            case measure => omega
            case rel => exact ⟨k + 1, by omega, by go_num, fun j h hj => by
              by_cases e : j = k
              · subst e; exact HZ.out
              · exact HA.out j h (by omega), rfl⟩
          | false =>
            have hf : x = false := by
              rw [Bool.eq_false_iff]
              intro e
              have := (HX.out.1 e).2 k hlt
              rw [HZ.out] at this
              cases this
            subst hf
            go_wp2_with fail
            refine HE.out.mono ?_
            rintro e w2 ⟨rfl, rfl⟩
            go_wp2_with fail
            go_ret
            exact ⟨rfl, rfl⟩
        · have hf : x = true := HX.out.2 ⟨HY.out, fun j h => HA.out j h (by omega)⟩
          subst hf
          have hk' : k = s.size := by omega
          subst hk'
          go_wp2_with fail
          go_ret
          exact ⟨rfl, rfl⟩
end Go.Proofs.YtognobpgagaamaaDoor
