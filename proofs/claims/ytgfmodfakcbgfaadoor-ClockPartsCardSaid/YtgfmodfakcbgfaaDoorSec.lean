import Derived.Test.YtgfmodfakcbgfaaDoorHrs
namespace Go.Proofs.YtgfmodfakcbgfaaDoor
open Go.RowKit Go.Mem Go.Clk

theorem tk_yes (w : World) (b : Nat) (s : ByteArray) (q : Bs) (d : UInt8) (n : Int) (hn : n = d.toNat) (h : RdAt w b s q) (hx : q.head? = some d) (hz : s.size ≤ 1000000) :
    Calls Tryd.prog 39 #[.pointer (some ⟨b, 0, none⟩), .int .u8 n] w fun e w' => e = .returned (.bool true) ∧ RdAt w' b s q.tail ∧ Fr w w' (· = b) := by
  subst hn
  have e := head_tail hx
  rw [e] at h
  exact takes_yes w b s d q.tail _ h rfl hz
theorem tk_no (w : World) (b : Nat) (s : ByteArray) (q : Bs) (d : UInt8) (n : Int) (hn : n = d.toNat) (h : RdAt w b s q) (hx : ¬ q.head? = some d) (hz : s.size ≤ 1000000) :
    Calls Tryd.prog 39 #[.pointer (some ⟨b, 0, none⟩), .int .u8 n] w fun e w' => e = .returned (.bool false) ∧ RdAt w' b s q ∧ Fr w w' (· = b) := by
  cases q with
  | nil => exact (takes_none w b s n h hz).mono fun e w' ⟨h1, m, h2⟩ => ⟨h1, by subst h2; exact h, by subst h2; exact Fr.drewN _ _ _⟩
  | cons c q =>
    have hc : ((c.toNat : Int) == n) = false := by
      rw [beq_eq_false_iff_ne]
      intro e
      exact hx (by rw [List.head?_cons, UInt8.toNat_inj.1 (by omega : c.toNat = d.toNat)])
    exact (takes_no w b s c q n h hc hz).mono fun e w' ⟨h1, m, h2⟩ => ⟨h1, by subst h2; exact h, by subst h2; exact Fr.drewN _ _ _⟩
theorem hours_le {l : Bs} {n : Nat} {r : Bs} (h : hoursD l = some (n, r)) : n ≤ 167 := by
  unfold hoursD at h
  split at h
  · cases h
  · split at h
    · rename_i hle
      have h := Option.some.inj h
      rw [h] at hle
      exact hle
    · cases h
theorem six_le {l : Bs} {n : Nat} {r : Bs} (h : sixD l = some (n, r)) : n ≤ 59 := by
  obtain ⟨t, -, g⟩ := six_got h
  cases g with | mk a b ha hb hlt => omega
theorem drew0 (w : World) : w.drewN 0 = w := by simp [World.drewN_zero]
theorem ret_nat {x : Int} {n : Nat} (h : x = (n : Int)) : Ending.returned (.int .i64 x) = .returned (natV n) := by rw [h]
set_option maxHeartbeats 800000 in
theorem seconds_any (w : World) (b : Nat) (s : ByteArray) (l : Bs) (h : RdAt w b s l) (hz : s.size ≤ 1000000) :
    Calls Tryd.prog 40 #[.pointer (some ⟨b, 0, none⟩)] w (Ran (secondsD l) natV b s w) := by
  have H1 := Lib.hid (hours_any w b s l h hz)
  clear h
  rcases hg : hoursD l with _ | ⟨a, r⟩
  · have hs : secondsD l = none := by simp [secondsD, hg]
    rw [hs]
    rw [hg] at H1
    clear hg hs
    go_enter Tryd.func40, Tryd.ntmps40
    go_wp2_with fail
    refine H1.out.mono ?_
    rintro e w1 ⟨rfl, hf1⟩
    have HF1 := Lib.hid hf1
    clear hf1
    go_wp2_with fail
    exact ⟨rfl, rfl, HF1.out⟩
  · have ha := hours_le hg
    by_cases h58 : r.head? = some 58
    · have T1 := Lib.hid (fun (W : World) (h : RdAt W b s r) => tk_yes W b s r 58 58 rfl h h58 hz)
      have S1 := Lib.hid (fun (W : World) (h : RdAt W b s r.tail) => six_any W b s r.tail h hz)
      rcases hg2 : sixD r.tail with _ | ⟨m, r1⟩
      · have hs : secondsD l = none := by simp [secondsD, hg, h58, hg2]
        rw [hs]
        rw [hg] at H1
        rw [hg2] at S1
        clear hg hs hg2 h58
        go_enter Tryd.func40, Tryd.ntmps40
        go_wp2_with fail
        refine H1.out.mono ?_
        rintro e w1 ⟨rfl, hr1, hf1⟩
        have HF1 := Lib.hid hf1
        have HR1 := Lib.hid hr1
        clear hr1 hf1
        have T1 := Lib.hid (T1.out _ HR1.out)
        go_wp2_with fail
        refine T1.out.mono ?_
        rintro e w2 ⟨rfl, hr2, hf2⟩
        have HF2 := Lib.hid hf2
        have HR2 := Lib.hid hr2
        clear hr2 hf2
        have S1 := Lib.hid (S1.out _ HR2.out)
        go_wp2_with fail
        refine S1.out.mono ?_
        rintro e w3 ⟨rfl, hf3⟩
        have HF3 := Lib.hid hf3
        clear hf3
        go_wp2_with fail
        exact ⟨rfl, rfl, fb (fb (HF1.out) HF2.out) HF3.out⟩
      · have hm := six_le hg2
        by_cases h58' : r1.head? = some 58
        · have T2 := Lib.hid (fun (W : World) (h : RdAt W b s r1) => tk_yes W b s r1 58 58 rfl h h58' hz)
          have S2 := Lib.hid (fun (W : World) (h : RdAt W b s r1.tail) => six_any W b s r1.tail h hz)
          rcases hg3 : sixD r1.tail with _ | ⟨k, r2⟩
          · have hs : secondsD l = none := by simp [secondsD, hg, h58, hg2, h58', hg3]
            rw [hs]
            rw [hg] at H1
            rw [hg2] at S1
            rw [hg3] at S2
            clear hg hs hg2 h58 hg3 h58'
            go_enter Tryd.func40, Tryd.ntmps40
            go_wp2_with fail
            refine H1.out.mono ?_
            rintro e w1 ⟨rfl, hr1, hf1⟩
            have HF1 := Lib.hid hf1
            have HR1 := Lib.hid hr1
            clear hr1 hf1
            have T1 := Lib.hid (T1.out _ HR1.out)
            go_wp2_with fail
            refine T1.out.mono ?_
            rintro e w2 ⟨rfl, hr2, hf2⟩
            have HF2 := Lib.hid hf2
            have HR2 := Lib.hid hr2
            clear hr2 hf2
            have S1 := Lib.hid (S1.out _ HR2.out)
            go_wp2_with fail
            refine S1.out.mono ?_
            rintro e w3 ⟨rfl, hr3, hf3⟩
            have HF3 := Lib.hid hf3
            have HR3 := Lib.hid hr3
            clear hr3 hf3
            have T2 := Lib.hid (T2.out _ HR3.out)
            go_wp2_with fail
            refine T2.out.mono ?_
            rintro e w4 ⟨rfl, hr4, hf4⟩
            have HF4 := Lib.hid hf4
            have HR4 := Lib.hid hr4
            clear hr4 hf4
            have S2 := Lib.hid (S2.out _ HR4.out)
            go_wp2_with fail
            refine S2.out.mono ?_
            rintro e w5 ⟨rfl, hf5⟩
            have HF5 := Lib.hid hf5
            clear hf5
            go_wp2_with fail
            exact ⟨rfl, rfl, fb (fb (fb (fb (HF1.out) HF2.out) HF3.out) HF4.out) HF5.out⟩
          · have hk := six_le hg3
            have hs : secondsD l = some (a * 3600 + (m * 60 + k), r2) := by simp [secondsD, hg, h58, hg2, h58', hg3]
            rw [hs]
            rw [hg] at H1
            rw [hg2] at S1
            rw [hg3] at S2
            clear hg hs hg2 h58 hg3 h58'
            go_enter Tryd.func40, Tryd.ntmps40
            go_wp2_with fail
            refine H1.out.mono ?_
            rintro e w1 ⟨rfl, hr1, hf1⟩
            have HF1 := Lib.hid hf1
            have HR1 := Lib.hid hr1
            clear hr1 hf1
            have T1 := Lib.hid (T1.out _ HR1.out)
            go_wp2_with fail
            refine T1.out.mono ?_
            rintro e w2 ⟨rfl, hr2, hf2⟩
            have HF2 := Lib.hid hf2
            have HR2 := Lib.hid hr2
            clear hr2 hf2
            have S1 := Lib.hid (S1.out _ HR2.out)
            go_wp2_with fail
            refine S1.out.mono ?_
            rintro e w3 ⟨rfl, hr3, hf3⟩
            have HF3 := Lib.hid hf3
            have HR3 := Lib.hid hr3
            clear hr3 hf3
            have T2 := Lib.hid (T2.out _ HR3.out)
            go_wp2_with fail
            refine T2.out.mono ?_
            rintro e w4 ⟨rfl, hr4, hf4⟩
            have HF4 := Lib.hid hf4
            have HR4 := Lib.hid hr4
            clear hr4 hf4
            have S2 := Lib.hid (S2.out _ HR4.out)
            go_wp2_with fail
            refine S2.out.mono ?_
            rintro e w5 ⟨rfl, hr5, hf5⟩
            have HF5 := Lib.hid hf5
            have HR5 := Lib.hid hr5
            clear hr5 hf5
            go_wp2_with fail
            go_ret
            exact ⟨ret_nat (by omega), HR5.out, fb (fb (fb (fb (HF1.out) HF2.out) HF3.out) HF4.out) HF5.out⟩
        · have T2 := Lib.hid (fun (W : World) (h : RdAt W b s r1) => tk_no W b s r1 58 58 rfl h h58' hz)
          have hs : secondsD l = some (a * 3600 + m * 60, r1) := by simp [secondsD, hg, h58, hg2, h58']
          rw [hs]
          rw [hg] at H1
          rw [hg2] at S1
          clear hg hs hg2 h58 h58'
          go_enter Tryd.func40, Tryd.ntmps40
          go_wp2_with fail
          refine H1.out.mono ?_
          rintro e w1 ⟨rfl, hr1, hf1⟩
          have HF1 := Lib.hid hf1
          have HR1 := Lib.hid hr1
          clear hr1 hf1
          have T1 := Lib.hid (T1.out _ HR1.out)
          go_wp2_with fail
          refine T1.out.mono ?_
          rintro e w2 ⟨rfl, hr2, hf2⟩
          have HF2 := Lib.hid hf2
          have HR2 := Lib.hid hr2
          clear hr2 hf2
          have S1 := Lib.hid (S1.out _ HR2.out)
          go_wp2_with fail
          refine S1.out.mono ?_
          rintro e w3 ⟨rfl, hr3, hf3⟩
          have HF3 := Lib.hid hf3
          have HR3 := Lib.hid hr3
          clear hr3 hf3
          have T2 := Lib.hid (T2.out _ HR3.out)
          go_wp2_with fail
          refine T2.out.mono ?_
          rintro e w4 ⟨rfl, hr4, hf4⟩
          have HF4 := Lib.hid hf4
          have HR4 := Lib.hid hr4
          clear hr4 hf4
          go_wp2_with fail
          go_ret
          exact ⟨ret_nat (by omega), HR4.out, fb (fb (fb (HF1.out) HF2.out) HF3.out) HF4.out⟩
    · have T1 := Lib.hid (fun (W : World) (h : RdAt W b s r) => tk_no W b s r 58 58 rfl h h58 hz)
      have hs : secondsD l = some (a * 3600, r) := by simp [secondsD, hg, h58]
      rw [hs]
      rw [hg] at H1
      clear hg hs h58
      go_enter Tryd.func40, Tryd.ntmps40
      go_wp2_with fail
      refine H1.out.mono ?_
      rintro e w1 ⟨rfl, hr1, hf1⟩
      have HF1 := Lib.hid hf1
      have HR1 := Lib.hid hr1
      clear hr1 hf1
      have T1 := Lib.hid (T1.out _ HR1.out)
      go_wp2_with fail
      refine T1.out.mono ?_
      rintro e w2 ⟨rfl, hr2, hf2⟩
      have HF2 := Lib.hid hf2
      have HR2 := Lib.hid hr2
      clear hr2 hf2
      go_wp2_with fail
      go_ret
      exact ⟨ret_nat (by omega), HR2.out, fb (HF1.out) HF2.out⟩
theorem seconds_le {l : Bs} {n : Nat} {r : Bs} (h : secondsD l = some (n, r)) : n ≤ 604799 := by
  obtain ⟨t, -, g⟩ := seconds_got h
  exact txt_range g
abbrev intV (n : Int) : Value := .int .i64 n
set_option maxHeartbeats 800000 in
theorem signed_any (w : World) (b : Nat) (s : ByteArray) (l : Bs) (h : RdAt w b s l) (hz : s.size ≤ 1000000) :
    Calls Tryd.prog 29 #[.pointer (some ⟨b, 0, none⟩)] w (Ran (signedD l) intV b s w) := by
  by_cases h45 : l.head? = some 45
  · have T1 := Lib.hid (tk_yes w b s l 45 45 rfl h h45 hz)
    have S1 := Lib.hid (fun (W : World) (h : RdAt W b s l.tail) => seconds_any W b s l.tail h hz)
    rcases hg : secondsD l.tail with _ | ⟨n, r⟩
    · have hs : signedD l = none := by simp [signedD, h45, hg]
      rw [hs]
      rw [hg] at S1
      clear hg hs h45 h
      go_enter Tryd.func29, Tryd.ntmps29
      go_wp2_with fail
      refine T1.out.mono ?_
      rintro e w1 ⟨rfl, hr1, hf1⟩
      have HF1 := Lib.hid hf1
      have HR1 := Lib.hid hr1
      clear hr1 hf1
      have S1 := Lib.hid (S1.out _ HR1.out)
      go_wp2_with fail
      refine S1.out.mono ?_
      rintro e w2 ⟨rfl, hf2⟩
      have HF2 := Lib.hid hf2
      clear hf2
      go_wp2_with fail
      exact ⟨rfl, rfl, fb (HF1.out) HF2.out⟩
    · have hn := seconds_le hg
      have hs : signedD l = some (-(n : Int), r) := by simp [signedD, h45, hg]
      rw [hs]
      rw [hg] at S1
      clear hg hs h45 h
      go_enter Tryd.func29, Tryd.ntmps29
      go_wp2_with fail
      refine T1.out.mono ?_
      rintro e w1 ⟨rfl, hr1, hf1⟩
      have HF1 := Lib.hid hf1
      have HR1 := Lib.hid hr1
      clear hr1 hf1
      have S1 := Lib.hid (S1.out _ HR1.out)
      go_wp2_with fail
      refine S1.out.mono ?_
      rintro e w2 ⟨rfl, hr2, hf2⟩
      have HF2 := Lib.hid hf2
      have HR2 := Lib.hid hr2
      clear hr2 hf2
      go_wp2_with fail
      go_ret
      exact ⟨rfl, HR2.out, fb (HF1.out) HF2.out⟩
  · have T1 := Lib.hid (tk_no w b s l 45 45 rfl h h45 hz)
    have S1 := Lib.hid (fun (W : World) (h : RdAt W b s l) => seconds_any W b s l h hz)
    rcases hg : secondsD l with _ | ⟨n, r⟩
    · have hs : signedD l = none := by simp [signedD, h45, hg]
      rw [hs]
      rw [hg] at S1
      clear hg hs h45 h
      go_enter Tryd.func29, Tryd.ntmps29
      go_wp2_with fail
      refine T1.out.mono ?_
      rintro e w1 ⟨rfl, hr1, hf1⟩
      have HF1 := Lib.hid hf1
      have HR1 := Lib.hid hr1
      clear hr1 hf1
      have S1 := Lib.hid (S1.out _ HR1.out)
      go_wp2_with fail
      refine S1.out.mono ?_
      rintro e w2 ⟨rfl, hf2⟩
      have HF2 := Lib.hid hf2
      clear hf2
      go_wp2_with fail
      exact ⟨rfl, rfl, fb (HF1.out) HF2.out⟩
    · have hs : signedD l = some ((n : Int), r) := by simp [signedD, h45, hg]
      rw [hs]
      rw [hg] at S1
      clear hg hs h45 h
      go_enter Tryd.func29, Tryd.ntmps29
      go_wp2_with fail
      refine T1.out.mono ?_
      rintro e w1 ⟨rfl, hr1, hf1⟩
      have HF1 := Lib.hid hf1
      have HR1 := Lib.hid hr1
      clear hr1 hf1
      have S1 := Lib.hid (S1.out _ HR1.out)
      go_wp2_with fail
      refine S1.out.mono ?_
      rintro e w2 ⟨rfl, hr2, hf2⟩
      have HF2 := Lib.hid hf2
      have HR2 := Lib.hid hr2
      clear hr2 hf2
      go_wp2_with fail
      go_ret
      exact ⟨rfl, HR2.out, fb (HF1.out) HF2.out⟩
end Go.Proofs.YtgfmodfakcbgfaaDoor
