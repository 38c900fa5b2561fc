import Derived.Test.YtbolgodoifbnnaaDoorRdr
namespace Go.Proofs.YtbolgodoifbnnaaDoor
open Go.RowKit Go.Mem Go.Esc

theorem isCoded_any (w : World) (c : UInt8) (n : Int) (hn : n = c.toNat) : Calls Tryd.prog 55 #[.int .u8 n] w fun e w' => e = .returned (.bool (codedB c)) ∧ w = w' := by
  have hp : codedB c = ((n != 32) && !plainB c && (n != 10) && (n != 9)) := by
    subst hn
    simp only [codedB]
    have : ∀ k : UInt8, (c != k) = ((c.toNat : Int) != (k.toNat : Int)) := by
      intro k
      rw [Bool.eq_iff_iff]
      simp only [bne_iff_ne, ne_eq]
      rw [← UInt8.toNat_inj]
      omega
    rw [this, this, this]
    rfl
  have HP := Lib.hid hp
  clear hp
  have HI := Lib.hid (isPlain_any w c n hn)
  clear hn
  generalize plainB c = x at HP HI
  cases h1 : (n != 32)
  · go_enter Tryd.func55, Tryd.ntmps55
    go_wp2_with fail
    go_ret
    exact ⟨by rw [HP.out]; simp [h1], rfl⟩
  · cases x
    · cases h2 : (n != 10)
      · go_enter Tryd.func55, Tryd.ntmps55
        go_wp2_with (go_at_call 40; refine HI.out.mono ?_; rintro e w' ⟨rfl, rfl⟩)
        go_ret
        exact ⟨by rw [HP.out]; simp [h1, h2], rfl⟩
      · cases h3 : (n != 9)
        all_goals
          go_enter Tryd.func55, Tryd.ntmps55
          go_wp2_with (go_at_call 40; refine HI.out.mono ?_; rintro e w' ⟨rfl, rfl⟩)
          go_ret
          exact ⟨by rw [HP.out]; simp [h1, h2, h3], rfl⟩
    · go_enter Tryd.func55, Tryd.ntmps55
      go_wp2_with (go_at_call 40; refine HI.out.mono ?_; rintro e w' ⟨rfl, rfl⟩)
      go_ret
      exact ⟨by rw [HP.out]; simp [h1], rfl⟩

theorem digit_any (w : World) (b : Nat) (s : ByteArray) (l : Bs) (h : RdAt w b s l) (hz : s.size ≤ 1000000) :
    Calls Tryd.prog 71 #[.pointer (some ⟨b, 0, none⟩)] w (Ran (digitD l) (fun d => .int .u8 (d.toNat : Int)) b s w) := by
  cases l with
  | nil =>
    have HE := Lib.hid (next_none w b s h hz)
    clear h
    go_enter Tryd.func71, Tryd.ntmps71
    go_wp2_with fail
    refine HE.out.mono ?_
    rintro e w1 ⟨rfl, hf⟩
    have HF := Lib.hid hf
    clear hf
    go_wp2_with fail
    exact ⟨rfl, rfl, HF.out⟩
  | cons c l =>
    have HE := Lib.hid (next_got w b s c l h hz)
    clear h
    obtain ⟨n, hn⟩ : ∃ n : Int, n = (c.toNat : Int) := ⟨_, rfl⟩
    rw [← hn] at HE
    have hb1 : 0 ≤ n := by omega
    have hb2 : n < 256 := by have := c.toNat_lt; omega
    have HN := Lib.hid hn
    clear hn
    by_cases h1 : (48 : Int) ≤ n
    · by_cases h2 : n ≤ 57
      · have hg : digitD (c :: l) = .got (c - 48) l := by
          have : 48 ≤ c ∧ c ≤ 57 := by simp only [UInt8.le_iff_toNat_le]; have := HN.out; constructor <;> (show _ ≤ _; simp; omega)
          simp [digitD, digV, this]
        have hv : n - 48 = ((c - 48).toNat : Int) := by
          have := HN.out
          rw [UInt8.toNat_sub_of_le _ _ (by rw [UInt8.le_iff_toNat_le]; simp; omega)]
          simp; omega
        have HV := Lib.hid hv
        have HG := Lib.hid hg
        clear hv hg
        go_enter Tryd.func71, Tryd.ntmps71
        go_wp2_with fail
        refine HE.out.mono ?_
        rintro e w1 ⟨rfl, hr, hf⟩
        have HR := Lib.hid hr
        have HF := Lib.hid hf
        clear hr hf
        go_wp2_with fail
        go_ret
        rw [HG.out]
        exact ⟨by show _ = Ending.returned (.int .u8 _); rw [← HV.out]; rfl, HR.out, HF.out⟩
      · by_cases h3 : (97 : Int) ≤ n
        · by_cases h4 : n ≤ 102
          · have hg : digitD (c :: l) = .got (c - 97 + 10) l := by
              have e1 : ¬ (48 ≤ c ∧ c ≤ 57) := by simp only [UInt8.le_iff_toNat_le]; have := HN.out; simp; omega
              have e2 : (97 ≤ c ∧ c ≤ 102) := by simp only [UInt8.le_iff_toNat_le]; have := HN.out; constructor <;> (show _ ≤ _; simp; omega)
              simp only [digitD, digV, if_neg e1, if_pos e2]
            have hv : n - 97 + 10 = ((c - 97 + 10).toNat : Int) := by
              have := HN.out
              have e : (c - 97).toNat = c.toNat - 97 := by rw [UInt8.toNat_sub_of_le _ _ (by rw [UInt8.le_iff_toNat_le]; simp; omega)]; rfl
              rw [UInt8.toNat_add, e]
              show _ = (((c.toNat - 97 + 10) % 256 : Nat) : Int)
              omega
            have HV := Lib.hid hv
            have HG := Lib.hid hg
            clear hv hg
            go_enter Tryd.func71, Tryd.ntmps71
            go_wp2_with fail
            refine HE.out.mono ?_
            rintro e w1 ⟨rfl, hr, hf⟩
            have HR := Lib.hid hr
            have HF := Lib.hid hf
            clear hr hf
            go_wp2_with fail
            go_ret
            rw [HG.out]
            exact ⟨by show _ = Ending.returned (.int .u8 _); rw [← HV.out]; rfl, HR.out, HF.out⟩
          · have h4' : (102 : Int) < n := by omega
            have hg : digitD (c :: l) = .err 3 := by
              have e1 : ¬ (48 ≤ c ∧ c ≤ 57) := by simp only [UInt8.le_iff_toNat_le]; have := HN.out; simp; omega
              have e2 : ¬ (97 ≤ c ∧ c ≤ 102) := by simp only [UInt8.le_iff_toNat_le]; have := HN.out; simp; omega
              simp only [digitD, digV, if_neg e1, if_neg e2]
            have HG := Lib.hid hg
            clear hg
            go_enter Tryd.func71, Tryd.ntmps71
            go_wp2_with fail
            refine HE.out.mono ?_
            rintro e w1 ⟨rfl, hr, hf⟩
            have HF := Lib.hid hf
            clear hr hf
            go_wp2_with fail
            rw [HG.out]
            exact ⟨rfl, rfl, HF.out⟩
        · have h3' : n < (97 : Int) := by omega
          have hg : digitD (c :: l) = .err 3 := by
            have e1 : ¬ (48 ≤ c ∧ c ≤ 57) := by simp only [UInt8.le_iff_toNat_le]; have := HN.out; simp; omega
            have e2 : ¬ (97 ≤ c ∧ c ≤ 102) := by simp only [UInt8.le_iff_toNat_le]; have := HN.out; simp; omega
            simp only [digitD, digV, if_neg e1, if_neg e2]
          have HG := Lib.hid hg
          clear hg
          go_enter Tryd.func71, Tryd.ntmps71
          go_wp2_with fail
          refine HE.out.mono ?_
          rintro e w1 ⟨rfl, hr, hf⟩
          have HF := Lib.hid hf
          clear hr hf
          go_wp2_with fail
          rw [HG.out]
          exact ⟨rfl, rfl, HF.out⟩
    · have h1' : n < (48 : Int) := by omega
      have h3' : n < (97 : Int) := by omega
      have hg : digitD (c :: l) = .err 3 := by
        have e1 : ¬ (48 ≤ c ∧ c ≤ 57) := by simp only [UInt8.le_iff_toNat_le]; have := HN.out; simp; omega
        have e2 : ¬ (97 ≤ c ∧ c ≤ 102) := by simp only [UInt8.le_iff_toNat_le]; have := HN.out; simp; omega
        simp only [digitD, digV, if_neg e1, if_neg e2]
      have HG := Lib.hid hg
      clear hg
      go_enter Tryd.func71, Tryd.ntmps71
      go_wp2_with fail
      refine HE.out.mono ?_
      rintro e w1 ⟨rfl, hr, hf⟩
      have HF := Lib.hid hf
      clear hr hf
      go_wp2_with fail
      rw [HG.out]
      exact ⟨rfl, rfl, HF.out⟩
end Go.Proofs.YtbolgodoifbnnaaDoor
