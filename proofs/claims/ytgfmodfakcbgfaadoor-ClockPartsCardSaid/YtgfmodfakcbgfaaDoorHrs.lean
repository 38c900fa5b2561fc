import Derived.Test.YtgfmodfakcbgfaaDoorRdr
import Derived.Deep.LoopGhost
namespace Go.Proofs.YtgfmodfakcbgfaaDoor
open Go.RowKit Go.Mem Go.Clk

def HInv (w : World) (b : Nat) (s : ByteArray) (T : Nat × Bs) (g : Nat) (v3 v4 : Value) (wr : World) : Prop :=
  ∃ (n i : Nat) (q : Bs), i + g = 3 ∧ 1 ≤ i ∧ v3 = natV n ∧ v4 = natV i ∧ ((i = 1 → n < 10) ∧ (i = 2 → n < 100) ∧ n < 1000) ∧ moreD g n q = T ∧ RdAt wr b s q ∧ Fr w wr (· = b)
set_option maxHeartbeats 800000 in
theorem hours_any (w : World) (b : Nat) (s : ByteArray) (l : Bs) (h : RdAt w b s l) (hz : s.size ≤ 1000000) :
    Calls Tryd.prog 45 #[.pointer (some ⟨b, 0, none⟩)] w (Ran (hoursD l) natV b s w) := by
  have H1 := Lib.hid (digit_any w b s l h hz)
  clear h
  rcases hg : digitD l with _ | ⟨a, r⟩
  · have hs : hoursD l = none := by simp [hoursD, hg]
    rw [hs]
    rw [hg] at H1
    clear hg hs
    go_enter Tryd.func45, Tryd.ntmps45
    go_wp2_with fail
    refine H1.out.mono ?_
    rintro e w1 ⟨rfl, hf⟩
    have HF := Lib.hid hf
    clear hf
    go_wp2_with fail
    exact ⟨rfl, rfl, HF.out⟩
  · have ha := digit_lt hg
    obtain ⟨T, hT⟩ : ∃ T, moreD 2 a r = T := ⟨_, rfl⟩
    obtain ⟨G, hG⟩ : ∃ G, hoursD l = G := ⟨_, rfl⟩
    have HG := Lib.hid (show (if T.1 ≤ 167 then some T else none) = G by rw [← hG, hoursD, hg, ← hT])
    rw [hG]
    rw [hg] at H1
    have HT := Lib.hid hT
    clear hg hT hG
    go_enter Tryd.func45, Tryd.ntmps45
    go_wp2_with fail
    refine H1.out.mono ?_
    rintro e w1 ⟨rfl, hr, hf⟩
    have HF := Lib.hid hf
    have HR := Lib.hid hr
    clear hf hr H1
    go_wp2_with fail
    go_loopg [3, 4] 2 (fun g v3 v4 wr => HInv w b s T g v3 v4 wr)
    case atStart => exact ⟨a, 1, r, rfl, Nat.le_refl _, rfl, rfl, ⟨fun _ => ha, fun h => absurd h (by omega), by omega⟩, HT.out, HR.out, HF.out⟩
    case round =>
      obtain ⟨n, i, q, hi, h1, rfl, rfl, ⟨b1, b2, b3⟩, hmo, hrq, hfq⟩ := hrel
      have HM := Lib.hid hmo
      have HQ := Lib.hid hfq
      have HB1 := Lib.hid b1
      have HB2 := Lib.hid b2
      clear hmo hfq b1 b2 HF HR HT ha
      by_cases hlt : i < 3
      · obtain ⟨g', rfl⟩ : ∃ g', gk = g' + 1 := ⟨gk - 1, by omega⟩
        have hlt' : (i : Int) < 3 := by omega
        obtain ⟨x, hx, HS⟩ : ∃ x, (x = true ↔ ∃ c q', q = c :: q' ∧ digB c = true) ∧ Hid (Calls Tryd.prog 49 #[.pointer (some ⟨b, 0, none⟩)] wr fun e w' => e = .returned (.bool x) ∧ ∃ n, w' = wr.drewN n) := by
          cases q with
          | nil => exact ⟨false, by simp, Lib.hid (sees_none wr b s hrq hz)⟩
          | cons c q => exact ⟨digB c, ⟨fun h => ⟨c, q, rfl, h⟩, fun ⟨c', q', e, h⟩ => by cases e; exact h⟩, Lib.hid (sees_some wr b s c q _ hrq rfl hz)⟩
        cases x with
        | false =>
          have hstop : T = (n, q) := by
            rw [← HM.out]
            refine more_stop _ _ (fun c hc => ?_)
            rw [Bool.eq_false_iff]
            intro e
            exact absurd (hx.2 ⟨c, q.tail, head_tail hc, e⟩) (by simp)
          subst hstop
          have HRQ := Lib.hid hrq
          clear hx hrq HM
          by_cases hn : n ≤ 167
          · have hn' : ¬ (167 : Int) < (n : Int) := by omega
            have hG : some (n, q) = G := by rw [← HG.out, if_pos hn]
            subst hG
            clear HG
            go_wp2_with fail
            refine HS.out.mono ?_
            rintro e w2 ⟨rfl, m, rfl⟩
            go_wp2_with fail
            go_ret
            exact ⟨rfl, HRQ.out, fb HQ.out (Fr.drewN _ _ _)⟩
          · have hn' : (167 : Int) < (n : Int) := by omega
            have hG : none = G := by rw [← HG.out, if_neg hn]
            subst hG
            clear HG
            go_wp2_with fail
            refine HS.out.mono ?_
            rintro e w2 ⟨rfl, m, rfl⟩
            go_wp2_with fail
            exact ⟨rfl, rfl, fb HQ.out (Fr.drewN _ _ _)⟩
        | true =>
          obtain ⟨c, q', rfl, hc⟩ := hx.1 rfl
          have HD := Lib.hid (fun m => digit_any (wr.drewN m) b s (c :: q') hrq hz)
          rw [show digitD (c :: q') = some (dv c, q') by simp [digitD, hc]] at HD
          have hd := dv_lt hc
          have HM2 := Lib.hid (show moreD g' (n * 10 + dv c) q' = T by rw [← HM.out, moreD, if_pos hc])
          have b100 : n < 100 := by
            have i1 := HB1.out
            have i2 := HB2.out
            omega
          have HX : Hid ((i = 1 → n < 10) ∧ True) := Lib.hid ⟨HB1.out, trivial⟩
          clear hx hrq HM hc
          go_wp2_with fail
          refine HS.out.mono ?_
          rintro e w2 ⟨rfl, m, rfl⟩
          have HD1 := Lib.hid (HD.out m)
          go_wp2_with fail
          refine HD1.out.mono ?_
          rintro e w3 ⟨rfl, hr3, hf3⟩
          have HR3 := Lib.hid hr3
          have HF3 := Lib.hid hf3
          clear hr3 hf3
          go_wp2_with fail
          go_roundg g'
          case measure => omega
          case rel => exact ⟨n * 10 + dv c, i + 1, q', by omega, by omega, by go_num, by go_num, ⟨fun h => absurd h (by omega), fun h => by have := HB1.out (by omega); omega, by omega⟩, HM2.out, HR3.out, fb HQ.out (fbn HF3.out)⟩
      · have hi3 : i = 3 := by omega
        obtain rfl : gk = 0 := by omega
        subst hi3
        have hstop : T = (n, q) := by rw [← HM.out]; rfl
        subst hstop
        have HRQ := Lib.hid hrq
        clear hrq HM hlt
        by_cases hn : n ≤ 167
        · have hn' : ¬ (167 : Int) < (n : Int) := by omega
          have hG : some (n, q) = G := by rw [← HG.out, if_pos hn]
          subst hG
          clear HG
          go_wp2_with fail
          go_ret
          exact ⟨rfl, HRQ.out, HQ.out⟩
        · have hn' : (167 : Int) < (n : Int) := by omega
          have hG : none = G := by rw [← HG.out, if_neg hn]
          subst hG
          clear HG
          go_wp2_with fail
          exact ⟨rfl, rfl, HQ.out⟩
end Go.Proofs.YtgfmodfakcbgfaaDoor
