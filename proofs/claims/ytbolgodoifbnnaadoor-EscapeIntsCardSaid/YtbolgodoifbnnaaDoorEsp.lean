import Derived.Test.YtbolgodoifbnnaaDoorCod
namespace Go.Proofs.YtbolgodoifbnnaaDoor
open Go.RowKit Go.Mem Go.Esc

theorem toNat_ne {c : UInt8} {n : Int} {k : UInt8} (h : c ≠ k) (hn : n = c.toNat) : (n == (k.toNat : Int)) = false := by
  rw [beq_eq_false_iff_ne]
  intro e
  exact h (UInt8.toNat_inj.1 (by omega))
/-- escape at a byte of one letter -/
theorem escape_one (w : World) (b : Nat) (s : ByteArray) (c : UInt8) (l : Bs) (h : RdAt w b s (c :: l)) (hz : s.size ≤ 1000000) (hc : c = 34 ∨ c = 92 ∨ c = 110 ∨ c = 116) :
    Calls Tryd.prog 39 #[.pointer (some ⟨b, 0, none⟩)] w (Ran (escD (c :: l)) (fun d => .int .u8 (d.toNat : Int)) b s w) := by
  have HE := Lib.hid (next_got w b s c l h hz)
  clear h
  obtain ⟨g, hg⟩ : ∃ g, escD (c :: l) = g := ⟨_, rfl⟩
  rw [hg]
  rw [escD] at hg
  rcases hc with rfl | rfl | rfl | rfl
  all_goals
    simp only [show ((34 : UInt8).toNat : Int) = 34 from rfl, show ((92 : UInt8).toNat : Int) = 92 from rfl, show ((110 : UInt8).toNat : Int) = 110 from rfl, show ((116 : UInt8).toNat : Int) = 116 from rfl] at HE
    simp at hg
    subst hg
    go_enter Tryd.func39, Tryd.ntmps39
    go_wp2_with fail
    refine HE.out.mono ?_
    rintro e w1 ⟨rfl, hr, hf⟩
    have HR := Lib.hid hr
    have HF := Lib.hid hf
    clear hr hf
    go_wp2_with fail
    go_ret
    exact ⟨rfl, HR.out, HF.out⟩
theorem escape_code (w : World) (b : Nat) (s : ByteArray) (l : Bs) (h : RdAt w b s (120 :: l)) (hz : s.size ≤ 1000000) :
    Calls Tryd.prog 39 #[.pointer (some ⟨b, 0, none⟩)] w (Ran (codeD l) (fun d => .int .u8 (d.toNat : Int)) b s w) := by
  have HE := Lib.hid (next_got w b s 120 l h hz)
  simp only [show ((120 : UInt8).toNat : Int) = 120 from rfl] at HE
  have HCO := Lib.hid (fun (w1 : World) (hr : RdAt w1 b s l) => code_any w1 b s l hr hz)
  clear h
  rcases hg : codeD l with k | ⟨d, r⟩ <;> rw [hg] at HCO <;> clear hg
  · go_enter Tryd.func39, Tryd.ntmps39
    go_wp2_with fail
    refine HE.out.mono ?_
    rintro e w1 ⟨rfl, hr, hf⟩
    have HC := Lib.hid (HCO.out w1 hr)
    have HF := Lib.hid hf
    clear hr hf
    go_wp2_with fail
    refine HC.out.mono ?_
    rintro e w2 ⟨rfl, hf2⟩
    have HF2 := Lib.hid hf2
    clear hf2
    go_wp2_with fail
    exact ⟨rfl, rfl, HF.out.trans HF2.out (fun _ _ h => h) (fun _ _ h => h)⟩
  · go_enter Tryd.func39, Tryd.ntmps39
    go_wp2_with fail
    refine HE.out.mono ?_
    rintro e w1 ⟨rfl, hr, hf⟩
    have HC := Lib.hid (HCO.out w1 hr)
    have HF := Lib.hid hf
    clear hr hf
    go_wp2_with fail
    refine HC.out.mono ?_
    rintro e w2 ⟨rfl, hr2, hf2⟩
    have HF2 := Lib.hid hf2
    have HR2 := Lib.hid hr2
    clear hf2 hr2
    go_wp2_with fail
    go_ret
    exact ⟨rfl, HR2.out, HF.out.trans HF2.out (fun _ _ h => h) (fun _ _ h => h)⟩
theorem escape_any (w : World) (b : Nat) (s : ByteArray) (l : Bs) (h : RdAt w b s l) (hz : s.size ≤ 1000000) :
    Calls Tryd.prog 39 #[.pointer (some ⟨b, 0, none⟩)] w (Ran (escD l) (fun d => .int .u8 (d.toNat : Int)) b s w) := by
  cases l with
  | nil =>
    have HE := Lib.hid (next_none w b s h hz)
    clear h
    go_enter Tryd.func39, Tryd.ntmps39
    go_wp2_with fail
    refine HE.out.mono ?_
    rintro e w1 ⟨rfl, hf⟩
    have HF := Lib.hid hf
    clear hf
    go_wp2_with fail
    exact ⟨rfl, rfl, HF.out⟩
  | cons c l =>
    by_cases h1 : c = 34 ∨ c = 92 ∨ c = 110 ∨ c = 116
    · exact escape_one w b s c l h hz h1
    · by_cases h2 : c = 120
      · subst h2
        exact escape_code w b s l h hz
      · have hg : escD (c :: l) = .err 3 := by
          rw [escD, if_neg (fun e => h1 (e.elim .inl (fun e => .inr (.inl e)))), if_neg (fun e => h1 (.inr (.inr (.inl e)))), if_neg (fun e => h1 (.inr (.inr (.inr e)))), if_neg h2]
        rw [hg]
        have HE := Lib.hid (next_got w b s c l h hz)
        clear h
        obtain ⟨n, hn⟩ : ∃ n : Int, n = (c.toNat : Int) := ⟨_, rfl⟩
        rw [← hn] at HE
        have e1 : (n == 34) = false := toNat_ne (k := 34) (fun e => h1 (.inl e)) hn
        have e2 : (n == 92) = false := toNat_ne (k := 92) (fun e => h1 (.inr (.inl e))) hn
        have e3 : (n == 110) = false := toNat_ne (k := 110) (fun e => h1 (.inr (.inr (.inl e)))) hn
        have e4 : (n == 116) = false := toNat_ne (k := 116) (fun e => h1 (.inr (.inr (.inr e)))) hn
        have e5 : (n == 120) = false := toNat_ne (k := 120) h2 hn
        clear hn hg h1 h2
        go_enter Tryd.func39, Tryd.ntmps39
        go_wp2_with fail
        refine HE.out.mono ?_
        rintro e w1 ⟨rfl, hr, hf⟩
        have HF := Lib.hid hf
        clear hf hr
        go_wp2_with fail
        exact ⟨rfl, rfl, HF.out⟩
end Go.Proofs.YtbolgodoifbnnaaDoor
