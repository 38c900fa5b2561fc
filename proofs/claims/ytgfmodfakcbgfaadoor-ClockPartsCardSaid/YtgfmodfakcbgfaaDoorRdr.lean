import Derived.Test.YtgfmodfakcbgfaaDoorBas
namespace Go.Proofs.YtgfmodfakcbgfaaDoor
open Go.RowKit Go.Mem Go.Clk

theorem u8_dig {c : UInt8} (h : digB c = true) : (c.toNat : Int) - 48 = (dv c : Int) := by
  have := (digB_iff c).1 h
  unfold dv
  omega
theorem digit_any (w : World) (b : Nat) (s : ByteArray) (l : Bs) (h : RdAt w b s l) (hz : s.size ≤ 1000000) :
    Calls Tryd.prog 48 #[.pointer (some ⟨b, 0, none⟩)] w (Ran (digitD l) natV b s w) := by
  cases l with
  | nil =>
    have HS := Lib.hid (sees_none w b s h hz)
    clear h
    go_enter Tryd.func48, Tryd.ntmps48
    go_wp2_with fail
    refine HS.out.mono ?_
    rintro e w1 ⟨rfl, n, rfl⟩
    go_wp2_with fail
    exact ⟨rfl, rfl, Fr.drewN _ _ _⟩
  | cons c r =>
    obtain ⟨x, hx⟩ : ∃ x, digB c = x := ⟨_, rfl⟩
    have HS := Lib.hid (sees_some w b s c r x h hx hz)
    cases x with
    | false =>
      have hd : digitD (c :: r) = none := by simp [digitD, hx]
      rw [hd]
      clear h hx hd
      go_enter Tryd.func48, Tryd.ntmps48
      go_wp2_with fail
      refine HS.out.mono ?_
      rintro e w1 ⟨rfl, n, rfl⟩
      go_wp2_with fail
      exact ⟨rfl, rfl, Fr.drewN _ _ _⟩
    | true =>
      have hd : digitD (c :: r) = some (dv c, r) := by simp [digitD, hx]
      rw [hd]
      have HN := Lib.hid (fun n => next_got (w.drewN n) b s c r h hz)
      have HV := Lib.hid (u8_dig hx)
      have hb := (digB_iff c).1 hx
      have b1 : (48 : Int) ≤ (c.toNat : Int) := by omega
      have b2 : (c.toNat : Int) ≤ 57 := by omega
      clear h hx hd hb
      go_enter Tryd.func48, Tryd.ntmps48
      go_wp2_with fail
      refine HS.out.mono ?_
      rintro e w1 ⟨rfl, n, rfl⟩
      have HN1 := Lib.hid (HN.out n)
      go_wp2_with fail
      refine HN1.out.mono ?_
      rintro e w2 ⟨rfl, hr, hf⟩
      have HR := Lib.hid hr
      have HF := Lib.hid hf
      clear hr hf
      go_wp2_with fail
      go_ret
      exact ⟨by show Ending.returned (.int .i64 ((c.toNat : Int) - 48)) = _; rw [HV.out], HR.out, fbn HF.out⟩
theorem digit_lt {l : Bs} {a : Nat} {r : Bs} (h : digitD l = some (a, r)) : a < 10 := by
  obtain ⟨c, -, hc, rfl⟩ := digit_got h
  exact dv_lt hc
theorem six_any (w : World) (b : Nat) (s : ByteArray) (l : Bs) (h : RdAt w b s l) (hz : s.size ≤ 1000000) :
    Calls Tryd.prog 46 #[.pointer (some ⟨b, 0, none⟩)] w (Ran (sixD l) natV b s w) := by
  have H1 := Lib.hid (digit_any w b s l h hz)
  clear h
  rcases hg : digitD l with _ | ⟨a, r⟩
  · have hs : sixD l = none := by simp [sixD, hg]
    rw [hs]
    rw [hg] at H1
    clear hg hs
    go_enter Tryd.func46, Tryd.ntmps46
    go_wp2_with fail
    refine H1.out.mono ?_
    rintro e w1 ⟨rfl, hf⟩
    have HF := Lib.hid hf
    clear hf
    go_wp2_with fail
    exact ⟨rfl, rfl, HF.out⟩
  · have ha := digit_lt hg
    have H2 := Lib.hid (fun (W : World) (n : Nat) (h : RdAt W b s r) => digit_any (W.drewN n) b s r h hz)
    rcases hg2 : digitD r with _ | ⟨a2, r2⟩
    · have hs : sixD l = none := by simp [sixD, hg, hg2]
      rw [hs]
      rw [hg] at H1
      rw [hg2] at H2
      clear hg hg2 hs
      go_enter Tryd.func46, Tryd.ntmps46
      go_wp2_with fail
      refine H1.out.mono ?_
      rintro e w1 ⟨rfl, hr, hf⟩
      have HF := Lib.hid hf
      have H3 := Lib.hid (fun n => H2.out w1 n hr)
      clear hf hr
      go_wp2_with fail
      refine (H3.out 0).mono ?_
      rintro e w2 ⟨rfl, hf2⟩
      have HF2 := Lib.hid hf2
      clear hf2
      go_wp2_with fail
      exact ⟨rfl, rfl, fb HF.out HF2.out⟩
    · have ha2 := digit_lt hg2
      by_cases hlt : a * 10 + a2 < 60
      · have hs : sixD l = some (a * 10 + a2, r2) := by simp [sixD, hg, hg2, hlt]
        rw [hs]
        rw [hg] at H1
        rw [hg2] at H2
        have t1 : ¬ ((60 : Int) ≤ (a : Int) * 10 + (a2 : Int)) := by omega
        clear hg hg2 hs
        go_enter Tryd.func46, Tryd.ntmps46
        go_wp2_with fail
        refine H1.out.mono ?_
        rintro e w1 ⟨rfl, hr, hf⟩
        have HF := Lib.hid hf
        have H3 := Lib.hid (fun n => H2.out w1 n hr)
        clear hf hr
        go_wp2_with fail
        refine (H3.out 0).mono ?_
        rintro e w2 ⟨rfl, hr2, hf2⟩
        have HF2 := Lib.hid hf2
        have HR2 := Lib.hid hr2
        clear hf2 hr2
        go_wp2_with fail
        go_ret
        exact ⟨by go_num, HR2.out, fb HF.out HF2.out⟩
      · have hs : sixD l = none := by simp [sixD, hg, hg2, hlt]
        rw [hs]
        rw [hg] at H1
        rw [hg2] at H2
        have t1 : ((60 : Int) ≤ (a : Int) * 10 + (a2 : Int)) := by omega
        clear hg hg2 hs
        go_enter Tryd.func46, Tryd.ntmps46
        go_wp2_with fail
        refine H1.out.mono ?_
        rintro e w1 ⟨rfl, hr, hf⟩
        have HF := Lib.hid hf
        have H3 := Lib.hid (fun n => H2.out w1 n hr)
        clear hf hr
        go_wp2_with fail
        refine (H3.out 0).mono ?_
        rintro e w2 ⟨rfl, hr2, hf2⟩
        have HF2 := Lib.hid hf2
        clear hf2 hr2
        go_wp2_with fail
        exact ⟨rfl, rfl, fb HF.out HF2.out⟩
end Go.Proofs.YtgfmodfakcbgfaaDoor
