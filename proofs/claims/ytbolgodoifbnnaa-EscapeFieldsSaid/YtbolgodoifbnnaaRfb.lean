import Derived.Test.YtbolgodoifbnnaaRfa
namespace Go.Proofs.Ytbolgodoifbnnaa
open Go.RowKit Go.Mem Go.Esc

/-- what one answers -/
def OneV (g : Got UInt8) : Value := match g with
  | .got c _ => .tuple #[.int .u8 (c.toNat : Int), .int .i64 ((enc c).length : Int)]
  | .err k => .tuple #[.int .u8 0, .int .i64 (if k = 9 then -1 else 0)]
/-- a byte below k whose escape begins with l -/
def Part (l : Bs) (k : Nat) : Prop := ∃ j : Nat, j < k ∧ l <+: enc (UInt8.ofNat j)
theorem ofNat256 {k : Nat} (h : k < 256) : (UInt8.ofNat k).toNat = k := by rw [UInt8.toNat_ofNat']; omega
theorem part_succ {l : Bs} {k : Nat} : Part l (k + 1) ↔ Part l k ∨ l <+: enc (UInt8.ofNat k) := by
  constructor
  · rintro ⟨j, hj, h⟩
    by_cases e : j = k
    · subst e; exact .inr h
    · exact .inl ⟨j, by omega, h⟩
  · rintro (⟨j, hj, h⟩ | h)
    · exact ⟨j, by omega, h⟩
    · exact ⟨k, by omega, h⟩
set_option maxHeartbeats 800000 in
set_option maxRecDepth 100000 in
theorem one_any (l : Bs) (w : World) (hz : l.length ≤ 1000000) (h0 : l ≠ []) (h34 : l.head? ≠ some 34) :
    Calls Try.prog 18 #[strV l] w fun e w' => e = .returned (OneV (stepD l)) ∧ Fr w w' (fun _ => False) := by
  obtain ⟨V, hV⟩ : ∃ V, OneV (stepD l) = V := ⟨_, rfl⟩
  rw [hV]
  have HV := Lib.hid hV
  have H0 := Lib.hid h0
  have H34 := Lib.hid h34
  clear hV h0 h34
  go_enter Try.func18, Try.ntmps18
  go_wp2_with fail
  go_loopw [4, 5] (fun v4 v5 wr => ∃ (k : Nat) (p : Bool), k ≤ 256 ∧ v5 = .int .i64 k ∧ v4 = .bool p ∧ (p = true ↔ Part l k) ∧ (∀ j : Nat, j < k → ¬ enc (UInt8.ofNat j) <+: l) ∧ Fr w wr (fun _ => False)) (fun _ v5 _ => 256 - (intOf v5).toNat)
  case atStart => exact ⟨0, false, by omega, rfl, rfl, ⟨(fun h => by cases h), (fun ⟨j, hj, _⟩ => by omega)⟩, fun j hj => by omega, Fr.refl _ _⟩
  case round =>
    obtain ⟨k, p, hk, rfl, rfl, hp, hno, hf⟩ := hrel
    have HP := Lib.hid hp
    have HNO := Lib.hid hno
    have HF := Lib.hid hf
    clear hp hno hf
    by_cases hlt : k < 256
    · have HC := Lib.hid (ofNat256 hlt)
      obtain ⟨c, hc⟩ : ∃ c, UInt8.ofNat k = c := ⟨_, rfl⟩
      have HCC := Lib.hid hc
      rw [hc] at HC
      have HE := Lib.hid (fun W => escaped_any W c (k : Int) (by rw [HC.out]))
      have hel := (enc_len c).2
      have HB := Lib.hid (fun W => begins_any W (enc c) l (by omega) hz)
      have HB2 := Lib.hid (fun W => begins_any W l (enc c) hz (by omega))
      clear hc
      by_cases hpre : enc c <+: l
      · rw [show decide (enc c <+: l) = true by simpa using hpre] at HB
        have hV2 : V = .tuple #[.int .u8 (k : Int), .int .i64 ((enc c).length : Int)] := by
          rw [← HV.out]
          obtain ⟨t, ht⟩ := hpre
          rw [← ht, step_enc c (.inr trivial)]
          simp only [OneV, HC.out]
        have HV2 := Lib.hid hV2
        clear hpre hV2
        generalize hen : enc c = en at HE HB HB2 hel HV2
        clear hen
        go_wp2_with fail
        refine (HE.out _).mono ?_
        rintro e w3 ⟨rfl, hf3⟩
        have HF3 := Lib.hid hf3
        clear hf3
        go_wp2_with fail
        refine (HB.out _).mono ?_
        rintro e w4 ⟨rfl, rfl⟩
        go_wp2_with fail
        go_ret2
        rw [HV2.out]
        exact ⟨by simp, ff HF.out HF3.out⟩
      · rw [show decide (enc c <+: l) = false by simpa using hpre] at HB
        have HPRE := Lib.hid hpre
        have hno' : ∀ j : Nat, j < k + 1 → ¬ enc (UInt8.ofNat j) <+: l := fun j hj => by
          by_cases e : j = k
          · subst e; rw [HCC.out]; exact HPRE.out
          · exact HNO.out j (by omega)
        have HNO' := Lib.hid hno'
        have hps := part_succ (l := l) (k := k)
        rw [HCC.out] at hps
        have HPS := Lib.hid hps
        clear hpre hno' hps
        obtain ⟨q, hq⟩ : ∃ q, decide (l <+: enc c) = q := ⟨_, rfl⟩
        rw [hq] at HB2
        have HQ := Lib.hid (show q = true ↔ l <+: enc c by rw [← hq]; simp)
        clear hq
        cases p
        · go_wp2_with fail
          refine (HE.out _).mono ?_
          rintro e w3 ⟨rfl, hf3⟩
          have HF3 := Lib.hid hf3
          clear hf3
          go_wp2_with fail
          refine (HB.out _).mono ?_
          rintro e w4 ⟨rfl, rfl⟩
          go_wp2_with fail
          refine (HB2.out _).mono ?_
          rintro e w4 ⟨rfl, rfl⟩
          go_wp2_with fail
          go_roundw
          case rel => exact ⟨k + 1, q, by omega, by go_num, by simp, by rw [HPS.out, HQ.out]; exact ⟨.inr, fun h => h.resolve_left (fun h => by have := HP.out.2 h; cases this)⟩, HNO'.out, ff HF.out HF3.out⟩
          case measure => simp [intOf]; omega
        · go_wp2_with fail
          refine (HE.out _).mono ?_
          rintro e w3 ⟨rfl, hf3⟩
          have HF3 := Lib.hid hf3
          clear hf3
          go_wp2_with fail
          refine (HB.out _).mono ?_
          rintro e w4 ⟨rfl, rfl⟩
          go_wp2_with fail
          go_roundw
          case rel => exact ⟨k + 1, true, by omega, by go_num, rfl, by rw [HPS.out]; exact ⟨fun _ => .inl (HP.out.1 (by trivial)), fun _ => (by trivial)⟩, HNO'.out, ff HF.out HF3.out⟩
          case measure => simp [intOf]; omega
    · have hk256 : k = 256 := by omega
      subst hk256
      have hs : ∃ q, stepD l = .err q := by
        rcases hs : stepD l with q | ⟨c, r⟩
        · exact ⟨q, rfl⟩
        · exfalso
          have := (one_got H34.out hs).1
          refine HNO.out c.toNat c.toNat_lt ⟨r, ?_⟩
          rw [show UInt8.ofNat c.toNat = c by simp]
          exact this.symm
      obtain ⟨q, hq⟩ := hs
      have hpq : q = 9 ↔ p = true := by
        rw [one_part H0.out hq, HP.out]
        constructor
        · rintro ⟨c, hc⟩
          exact ⟨c.toNat, c.toNat_lt, by rw [show UInt8.ofNat c.toNat = c by simp]; exact hc⟩
        · rintro ⟨j, _, h⟩
          exact ⟨_, h⟩
      have HV2 := Lib.hid (show V = .tuple #[.int .u8 0, .int .i64 (if p = true then -1 else 0)] by
        rw [← HV.out, hq]
        simp only [OneV, hpq])
      clear hq hpq
      cases p
      all_goals
        go_wp2_with fail
        go_ret2
        rw [HV2.out]
        exact ⟨rfl, HF.out⟩
end Go.Proofs.Ytbolgodoifbnnaa
