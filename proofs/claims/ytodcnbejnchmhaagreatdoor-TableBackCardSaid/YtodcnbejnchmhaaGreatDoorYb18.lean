import Derived.Test.YtodcnbejnchmhaaGreatDoorYb17
import Derived.Defers
import Derived.Recover
import Derived.Test.YtodcnbejnchmhaaGreatDoorProg
import Derived.Test.YtodcnbejnchmhaaGreatDoorYb10
import Derived.Test.YtodcnbejnchmhaaGreatDoorYb06
import Derived.BigQuiet
import Derived.Deep.QuietTactic
import Derived.Deep.DeepCutAuto
import Derived.WalkLawsBesides
import Derived.IntWalk
import Derived.Lib.Hide
import Derived.Tactics2
import Derived.Deep.LoopGhost
import Derived.Lib.ConvBytes
import Derived.Lib.AppendIntMem
import Derived.SliceStrings
namespace Go.Proofs.YtodcnbejnchmhaaGreatDoor.S5
open Go.RowKit Go.Mem Go.Clk

theorem tk_yes (w : World) (b : Nat) (s : ByteArray) (q : Bs) (d : UInt8) (n : Int) (hn : n = d.toNat) (h : RdAt w b s q) (hx : q.head? = some d) (hz : s.size ≤ 1000000) :
    Calls Tryz.prog 243 #[.pointer (some ⟨b, 0, none⟩), .int .u8 n] w fun e w' => e = .returned (.bool true) ∧ RdAt w' b s q.tail ∧ Fr w w' (· = b) := by
  subst hn
  have e := head_tail hx
  rw [e] at h
  exact takes_yes w b s d q.tail _ h rfl hz
theorem tk_no (w : World) (b : Nat) (s : ByteArray) (q : Bs) (d : UInt8) (n : Int) (hn : n = d.toNat) (h : RdAt w b s q) (hx : ¬ q.head? = some d) (hz : s.size ≤ 1000000) :
    Calls Tryz.prog 243 #[.pointer (some ⟨b, 0, none⟩), .int .u8 n] w fun e w' => e = .returned (.bool false) ∧ RdAt w' b s q ∧ Fr w w' (· = b) := by
  cases q with
  | nil => exact (takes_none w b s n h hz).mono fun e w' ⟨h1, m, h2⟩ => ⟨h1, by subst h2; exact h, by subst h2; exact Fr.drewN _ _ _⟩
  | cons c q =>
    have hc : ((c.toNat : Int) == n) = false := by
      rw [beq_eq_false_iff_ne]
      intro e
      exact hx (by rw [List.head?_cons, UInt8.toNat_inj.1 (by omega : c.toNat = d.toNat)])
    exact (takes_no w b s c q n h hc hz).mono fun e w' ⟨h1, m, h2⟩ => ⟨h1, by subst h2; exact h, by subst h2; exact Fr.drewN _ _ _⟩
theorem hours_le {l : Bs} {n : Nat} {r : Bs} (h : hoursD l = some (n, r)) : n ≤ 167 := by
  unfold hoursD at h
  split at h
  · cases h
  · split at h
    · rename_i hle
      have h := Option.some.inj h
      rw [h] at hle
      exact hle
    · cases h
theorem six_le {l : Bs} {n : Nat} {r : Bs} (h : sixD l = some (n, r)) : n ≤ 59 := by
  obtain ⟨t, -, g⟩ := six_got h
  cases g with | mk a b ha hb hlt => omega
theorem ret_nat {x : Int} {n : Nat} (h : x = (n : Int)) : Ending.returned (.int .i64 x) = .returned (natV n) := by rw [h]
set_option maxHeartbeats 800000 in
theorem seconds_any (w : World) (b : Nat) (s : ByteArray) (l : Bs) (h : RdAt w b s l) (hz : s.size ≤ 1000000) :
    Calls Tryz.prog 244 #[.pointer (some ⟨b, 0, none⟩)] w (Ran (secondsD l) natV b s w) := by
  have H1 := Lib.hid (hours_any w b s l h hz)
  clear h
  rcases hg : hoursD l with _ | ⟨a, r⟩
  · have hs : secondsD l = none := by simp [secondsD, hg]
    rw [hs]
    rw [hg] at H1
    clear hg hs
    go_enter Tryz.func244, Tryz.ntmps244
    go_wp2_with fail
    refine H1.out.mono ?_
    rintro e w1 ⟨rfl, hf1⟩
    have HF1 := Lib.hid hf1
    clear hf1
    go_wp2_with fail
    exact ⟨rfl, rfl, HF1.out⟩
  · have ha := hours_le hg
    by_cases h58 : r.head? = some 58
    · have T1 := Lib.hid (fun (W : World) (h : RdAt W b s r) => tk_yes W b s r 58 58 rfl h h58 hz)
      have S1 := Lib.hid (fun (W : World) (h : RdAt W b s r.tail) => six_any W b s r.tail h hz)
      rcases hg2 : sixD r.tail with _ | ⟨m, r1⟩
      · have hs : secondsD l = none := by simp [secondsD, hg, h58, hg2]
        rw [hs]
        rw [hg] at H1
        rw [hg2] at S1
        clear hg hs hg2 h58
        go_enter Tryz.func244, Tryz.ntmps244
        go_wp2_with fail
        refine H1.out.mono ?_
        rintro e w1 ⟨rfl, hr1, hf1⟩
        have HF1 := Lib.hid hf1
        have HR1 := Lib.hid hr1
        clear hr1 hf1
        have T1 := Lib.hid (T1.out _ HR1.out)
        go_wp2_with fail
        refine T1.out.mono ?_
        rintro e w2 ⟨rfl, hr2, hf2⟩
        have HF2 := Lib.hid hf2
        have HR2 := Lib.hid hr2
        clear hr2 hf2
        have S1 := Lib.hid (S1.out _ HR2.out)
        go_wp2_with fail
        refine S1.out.mono ?_
        rintro e w3 ⟨rfl, hf3⟩
        have HF3 := Lib.hid hf3
        clear hf3
        go_wp2_with fail
        exact ⟨rfl, rfl, fb (fb (HF1.out) HF2.out) HF3.out⟩
      · have hm := six_le hg2
        by_cases h58' : r1.head? = some 58
        · have T2 := Lib.hid (fun (W : World) (h : RdAt W b s r1) => tk_yes W b s r1 58 58 rfl h h58' hz)
          have S2 := Lib.hid (fun (W : World) (h : RdAt W b s r1.tail) => six_any W b s r1.tail h hz)
          rcases hg3 : sixD r1.tail with _ | ⟨k, r2⟩
          · have hs : secondsD l = none := by simp [secondsD, hg, h58, hg2, h58', hg3]
            rw [hs]
            rw [hg] at H1
            rw [hg2] at S1
            rw [hg3] at S2
            clear hg hs hg2 h58 hg3 h58'
            go_enter Tryz.func244, Tryz.ntmps244
            go_wp2_with fail
            refine H1.out.mono ?_
            rintro e w1 ⟨rfl, hr1, hf1⟩
            have HF1 := Lib.hid hf1
            have HR1 := Lib.hid hr1
            clear hr1 hf1
            have T1 := Lib.hid (T1.out _ HR1.out)
            go_wp2_with fail
            refine T1.out.mono ?_
            rintro e w2 ⟨rfl, hr2, hf2⟩
            have HF2 := Lib.hid hf2
            have HR2 := Lib.hid hr2
            clear hr2 hf2
            have S1 := Lib.hid (S1.out _ HR2.out)
            go_wp2_with fail
            refine S1.out.mono ?_
            rintro e w3 ⟨rfl, hr3, hf3⟩
            have HF3 := Lib.hid hf3
            have HR3 := Lib.hid hr3
            clear hr3 hf3
            have T2 := Lib.hid (T2.out _ HR3.out)
            go_wp2_with fail
            refine T2.out.mono ?_
            rintro e w4 ⟨rfl, hr4, hf4⟩
            have HF4 := Lib.hid hf4
            have HR4 := Lib.hid hr4
            clear hr4 hf4
            have S2 := Lib.hid (S2.out _ HR4.out)
            go_wp2_with fail
            refine S2.out.mono ?_
            rintro e w5 ⟨rfl, hf5⟩
            have HF5 := Lib.hid hf5
            clear hf5
            go_wp2_with fail
            exact ⟨rfl, rfl, fb (fb (fb (fb (HF1.out) HF2.out) HF3.out) HF4.out) HF5.out⟩
          · have hk := six_le hg3
            have hs : secondsD l = some (a * 3600 + (m * 60 + k), r2) := by simp [secondsD, hg, h58, hg2, h58', hg3]
            rw [hs]
            rw [hg] at H1
            rw [hg2] at S1
            rw [hg3] at S2
            clear hg hs hg2 h58 hg3 h58'
            go_enter Tryz.func244, Tryz.ntmps244
            go_wp2_with fail
            refine H1.out.mono ?_
            rintro e w1 ⟨rfl, hr1, hf1⟩
            have HF1 := Lib.hid hf1
            have HR1 := Lib.hid hr1
            clear hr1 hf1
            have T1 := Lib.hid (T1.out _ HR1.out)
            go_wp2_with fail
            refine T1.out.mono ?_
            rintro e w2 ⟨rfl, hr2, hf2⟩
            have HF2 := Lib.hid hf2
            have HR2 := Lib.hid hr2
            clear hr2 hf2
            have S1 := Lib.hid (S1.out _ HR2.out)
            go_wp2_with fail
            refine S1.out.mono ?_
            rintro e w3 ⟨rfl, hr3, hf3⟩
            have HF3 := Lib.hid hf3
            have HR3 := Lib.hid hr3
            clear hr3 hf3
            have T2 := Lib.hid (T2.out _ HR3.out)
            go_wp2_with fail
            refine T2.out.mono ?_
            rintro e w4 ⟨rfl, hr4, hf4⟩
            have HF4 := Lib.hid hf4
            have HR4 := Lib.hid hr4
            clear hr4 hf4
            have S2 := Lib.hid (S2.out _ HR4.out)
            go_wp2_with fail
            refine S2.out.mono ?_
            rintro e w5 ⟨rfl, hr5, hf5⟩
            have HF5 := Lib.hid hf5
            have HR5 := Lib.hid hr5
            clear hr5 hf5
            go_wp2_with fail
            go_ret
            exact ⟨ret_nat (by omega), HR5.out, fb (fb (fb (fb (HF1.out) HF2.out) HF3.out) HF4.out) HF5.out⟩
        · have T2 := Lib.hid (fun (W : World) (h : RdAt W b s r1) => tk_no W b s r1 58 58 rfl h h58' hz)
          have hs : secondsD l = some (a * 3600 + m * 60, r1) := by simp [secondsD, hg, h58, hg2, h58']
          rw [hs]
          rw [hg] at H1
          rw [hg2] at S1
          clear hg hs hg2 h58 h58'
          go_enter Tryz.func244, Tryz.ntmps244
          go_wp2_with fail
          refine H1.out.mono ?_
          rintro e w1 ⟨rfl, hr1, hf1⟩
          have HF1 := Lib.hid hf1
          have HR1 := Lib.hid hr1
          clear hr1 hf1
          have T1 := Lib.hid (T1.out _ HR1.out)
          go_wp2_with fail
          refine T1.out.mono ?_
          rintro e w2 ⟨rfl, hr2, hf2⟩
          have HF2 := Lib.hid hf2
          have HR2 := Lib.hid hr2
          clear hr2 hf2
          have S1 := Lib.hid (S1.out _ HR2.out)
          go_wp2_with fail
          refine S1.out.mono ?_
          rintro e w3 ⟨rfl, hr3, hf3⟩
          have HF3 := Lib.hid hf3
          have HR3 := Lib.hid hr3
          clear hr3 hf3
          have T2 := Lib.hid (T2.out _ HR3.out)
          go_wp2_with fail
          refine T2.out.mono ?_
          rintro e w4 ⟨rfl, hr4, hf4⟩
          have HF4 := Lib.hid hf4
          have HR4 := Lib.hid hr4
          clear hr4 hf4
          go_wp2_with fail
          go_ret
          exact ⟨ret_nat (by omega), HR4.out, fb (fb (fb (HF1.out) HF2.out) HF3.out) HF4.out⟩
    · have T1 := Lib.hid (fun (W : World) (h : RdAt W b s r) => tk_no W b s r 58 58 rfl h h58 hz)
      have hs : secondsD l = some (a * 3600, r) := by simp [secondsD, hg, h58]
      rw [hs]
      rw [hg] at H1
      clear hg hs h58
      go_enter Tryz.func244, Tryz.ntmps244
      go_wp2_with fail
      refine H1.out.mono ?_
      rintro e w1 ⟨rfl, hr1, hf1⟩
      have HF1 := Lib.hid hf1
      have HR1 := Lib.hid hr1
      clear hr1 hf1
      have T1 := Lib.hid (T1.out _ HR1.out)
      go_wp2_with fail
      refine T1.out.mono ?_
      rintro e w2 ⟨rfl, hr2, hf2⟩
      have HF2 := Lib.hid hf2
      have HR2 := Lib.hid hr2
      clear hr2 hf2
      go_wp2_with fail
      go_ret
      exact ⟨ret_nat (by omega), HR2.out, fb (HF1.out) HF2.out⟩
theorem seconds_le {l : Bs} {n : Nat} {r : Bs} (h : secondsD l = some (n, r)) : n ≤ 604799 := by
  obtain ⟨t, -, g⟩ := seconds_got h
  exact txt_range g
abbrev intV (n : Int) : Value := .int .i64 n
set_option maxHeartbeats 800000 in
theorem signed_any (w : World) (b : Nat) (s : ByteArray) (l : Bs) (h : RdAt w b s l) (hz : s.size ≤ 1000000) :
    Calls Tryz.prog 224 #[.pointer (some ⟨b, 0, none⟩)] w (Ran (signedD l) intV b s w) := by
  by_cases h45 : l.head? = some 45
  · have T1 := Lib.hid (tk_yes w b s l 45 45 rfl h h45 hz)
    have S1 := Lib.hid (fun (W : World) (h : RdAt W b s l.tail) => seconds_any W b s l.tail h hz)
    rcases hg : secondsD l.tail with _ | ⟨n, r⟩
    · have hs : signedD l = none := by simp [signedD, h45, hg]
      rw [hs]
      rw [hg] at S1
      clear hg hs h45 h
      go_enter Tryz.func224, Tryz.ntmps224
      go_wp2_with fail
      refine T1.out.mono ?_
      rintro e w1 ⟨rfl, hr1, hf1⟩
      have HF1 := Lib.hid hf1
      have HR1 := Lib.hid hr1
      clear hr1 hf1
      have S1 := Lib.hid (S1.out _ HR1.out)
      go_wp2_with fail
      refine S1.out.mono ?_
      rintro e w2 ⟨rfl, hf2⟩
      have HF2 := Lib.hid hf2
      clear hf2
      go_wp2_with fail
      exact ⟨rfl, rfl, fb (HF1.out) HF2.out⟩
    · have hn := seconds_le hg
      have hs : signedD l = some (-(n : Int), r) := by simp [signedD, h45, hg]
      rw [hs]
      rw [hg] at S1
      clear hg hs h45 h
      go_enter Tryz.func224, Tryz.ntmps224
      go_wp2_with fail
      refine T1.out.mono ?_
      rintro e w1 ⟨rfl, hr1, hf1⟩
      have HF1 := Lib.hid hf1
      have HR1 := Lib.hid hr1
      clear hr1 hf1
      have S1 := Lib.hid (S1.out _ HR1.out)
      go_wp2_with fail
      refine S1.out.mono ?_
      rintro e w2 ⟨rfl, hr2, hf2⟩
      have HF2 := Lib.hid hf2
      have HR2 := Lib.hid hr2
      clear hr2 hf2
      go_wp2_with fail
      go_ret
      exact ⟨rfl, HR2.out, fb (HF1.out) HF2.out⟩
  · have T1 := Lib.hid (tk_no w b s l 45 45 rfl h h45 hz)
    have S1 := Lib.hid (fun (W : World) (h : RdAt W b s l) => seconds_any W b s l h hz)
    rcases hg : secondsD l with _ | ⟨n, r⟩
    · have hs : signedD l = none := by simp [signedD, h45, hg]
      rw [hs]
      rw [hg] at S1
      clear hg hs h45 h
      go_enter Tryz.func224, Tryz.ntmps224
      go_wp2_with fail
      refine T1.out.mono ?_
      rintro e w1 ⟨rfl, hr1, hf1⟩
      have HF1 := Lib.hid hf1
      have HR1 := Lib.hid hr1
      clear hr1 hf1
      have S1 := Lib.hid (S1.out _ HR1.out)
      go_wp2_with fail
      refine S1.out.mono ?_
      rintro e w2 ⟨rfl, hf2⟩
      have HF2 := Lib.hid hf2
      clear hf2
      go_wp2_with fail
      exact ⟨rfl, rfl, fb (HF1.out) HF2.out⟩
    · have hs : signedD l = some ((n : Int), r) := by simp [signedD, h45, hg]
      rw [hs]
      rw [hg] at S1
      clear hg hs h45 h
      go_enter Tryz.func224, Tryz.ntmps224
      go_wp2_with fail
      refine T1.out.mono ?_
      rintro e w1 ⟨rfl, hr1, hf1⟩
      have HF1 := Lib.hid hf1
      have HR1 := Lib.hid hr1
      clear hr1 hf1
      have S1 := Lib.hid (S1.out _ HR1.out)
      go_wp2_with fail
      refine S1.out.mono ?_
      rintro e w2 ⟨rfl, hr2, hf2⟩
      have HF2 := Lib.hid hf2
      have HR2 := Lib.hid hr2
      clear hr2 hf2
      go_wp2_with fail
      go_ret
      exact ⟨rfl, HR2.out, fb (HF1.out) HF2.out⟩
end Go.Proofs.YtodcnbejnchmhaaGreatDoor.S5
namespace Go.Proofs.YtodcnbejnchmhaaGreatDoor.S5
open Go.RowKit Go.Mem Go.Clk

theorem within_any (w : World) (n m : Int) (hm : 0 ≤ m) (hm2 : m ≤ 1000000) (x : Bool) (hx : x = true ↔ -m ≤ n ∧ n ≤ m) :
    Calls Tryz.prog 227 #[.int .i64 n, .int .i64 m] w fun e w' => e = .returned (.bool x) ∧ w = w' := by
  have hxx : x = (decide (-m ≤ n) && decide (n ≤ m)) := by
    rw [Bool.eq_iff_iff, hx]
    simp
  have HX := Lib.hid hxx
  clear hx hxx
  by_cases h1 : -m ≤ n
  all_goals by_cases h2 : n ≤ m
  all_goals
    go_enter Tryz.func227, Tryz.ntmps227
    go_wp2_with fail
    go_ret
    exact ⟨by rw [HX.out]; simp [h1, h2], rfl⟩
theorem end_none (w : World) (b : Nat) (s : ByteArray) (h : RdAt w b s []) (hz : s.size ≤ 1000000) :
    Calls Tryz.prog 223 #[.pointer (some ⟨b, 0, none⟩)] w fun e w' => e = .returned (.tuple #[]) ∧ ∃ n, w' = w.drewN n := by
  have HE := Lib.hid (ended_any w b s [] true h rfl hz)
  clear h
  go_enter Tryz.func223, Tryz.ntmps223
  go_wp2_with fail
  refine HE.out.mono ?_
  rintro e w1 ⟨rfl, n, rfl⟩
  go_wp2_with fail
  go_end0
  exact ⟨rfl, _, rfl⟩
theorem end_some (w : World) (b : Nat) (s : ByteArray) (l : Bs) (hl : l ≠ []) (h : RdAt w b s l) (hz : s.size ≤ 1000000) :
    Calls Tryz.prog 223 #[.pointer (some ⟨b, 0, none⟩)] w fun e w' => e = Raised ∧ ∃ n, w' = w.drewN n := by
  have HE := Lib.hid (ended_any w b s l false h (by simpa using hl) hz)
  clear h
  go_enter Tryz.func223, Tryz.ntmps223
  go_wp2_with fail
  refine HE.out.mono ?_
  rintro e w1 ⟨rfl, n, rfl⟩
  go_wp2_with fail
  exact ⟨rfl, rfl, _, rfl⟩
theorem u8_ne {c k : UInt8} {m : Int} (h : c ≠ k) (hk : (k.toNat : Int) = m) : ((c.toNat : Int) == m) = false := by
  rw [beq_eq_false_iff_ne]
  intro e
  exact h (UInt8.toNat_inj.1 (by omega))
set_option maxHeartbeats 800000 in
theorem suffix_any (w : World) (b : Nat) (s : ByteArray) (l : Bs) (h : RdAt w b s l) (hz : s.size ≤ 1000000) :
    Calls Tryz.prog 225 #[.pointer (some ⟨b, 0, none⟩)] w (Ran (suffixD l) natV b s w) := by
  cases l with
  | nil =>
    have HE := Lib.hid (ended_any w b s [] true h rfl hz)
    have HR := Lib.hid h
    clear h
    go_enter Tryz.func225, Tryz.ntmps225
    go_wp2_with fail
    refine HE.out.mono ?_
    rintro e w1 ⟨rfl, n, rfl⟩
    go_wp2_with fail
    go_ret
    exact ⟨rfl, HR.out, Fr.drewN _ _ _⟩
  | cons c r =>
    have HE := Lib.hid (ended_any w b s (c :: r) false h rfl hz)
    have HN := Lib.hid (fun n => next_got (w.drewN n) b s c r h hz)
    clear h
    by_cases h1 : c = 119
    · subst h1
      have hs : suffixD (119 :: r) = some (0, r) := by simp [suffixD, sufK]
      rw [hs]
      clear hs
      go_enter Tryz.func225, Tryz.ntmps225
      go_wp2_with fail
      refine HE.out.mono ?_
      rintro e w1 ⟨rfl, n, rfl⟩
      have HN1 := Lib.hid (HN.out n)
      go_wp2_with fail
      refine HN1.out.mono ?_
      rintro e w2 ⟨rfl, hr, hf⟩
      have HR := Lib.hid hr
      have HF := Lib.hid hf
      clear hr hf
      go_wp2_with fail
      go_ret
      exact ⟨rfl, HR.out, fbn HF.out⟩
    · by_cases h2 : c = 115
      · subst h2
        have hs : suffixD (115 :: r) = some (1, r) := by simp [suffixD, sufK]
        rw [hs]
        clear hs
        go_enter Tryz.func225, Tryz.ntmps225
        go_wp2_with fail
        refine HE.out.mono ?_
        rintro e w1 ⟨rfl, n, rfl⟩
        have HN1 := Lib.hid (HN.out n)
        go_wp2_with fail
        refine HN1.out.mono ?_
        rintro e w2 ⟨rfl, hr, hf⟩
        have HR := Lib.hid hr
        have HF := Lib.hid hf
        clear hr hf
        go_wp2_with fail
        go_ret
        exact ⟨rfl, HR.out, fbn HF.out⟩
      · by_cases h3 : c = 117 ∨ c = 103 ∨ c = 122
        · have hs : suffixD (c :: r) = some (2, r) := by simp only [suffixD, sufK, if_neg h1, if_neg h2, if_pos h3]
          rw [hs]
          clear hs h1 h2
          rcases h3 with rfl | rfl | rfl
          all_goals
            go_enter Tryz.func225, Tryz.ntmps225
            go_wp2_with fail
            refine HE.out.mono ?_
            rintro e w1 ⟨rfl, n, rfl⟩
            have HN1 := Lib.hid (HN.out n)
            go_wp2_with fail
            refine HN1.out.mono ?_
            rintro e w2 ⟨rfl, hr, hf⟩
            have HR := Lib.hid hr
            have HF := Lib.hid hf
            clear hr hf
            go_wp2_with fail
            go_ret
            exact ⟨rfl, HR.out, fbn HF.out⟩
        · have hs : suffixD (c :: r) = none := by simp only [suffixD, sufK, if_neg h1, if_neg h2, if_neg h3]
          rw [hs]
          have e1 := u8_ne (m := 119) h1 rfl
          have e2 := u8_ne (m := 115) h2 rfl
          have e3 := u8_ne (m := 117) (fun h => h3 (.inl h)) rfl
          have e4 := u8_ne (m := 103) (fun h => h3 (.inr (.inl h))) rfl
          have e5 := u8_ne (m := 122) (fun h => h3 (.inr (.inr h))) rfl
          clear hs h1 h2 h3
          generalize (c.toNat : Int) = nc at HN e1 e2 e3 e4 e5
          go_enter Tryz.func225, Tryz.ntmps225
          go_wp2_with fail
          refine HE.out.mono ?_
          rintro e w1 ⟨rfl, n, rfl⟩
          have HN1 := Lib.hid (HN.out n)
          go_wp2_with fail
          refine HN1.out.mono ?_
          rintro e w2 ⟨rfl, hr, hf⟩
          have HF := Lib.hid hf
          clear hr hf
          go_wp2_with fail
          exact ⟨rfl, rfl, fbn HF.out⟩
theorem infoAt : (Tryz.prog.info? 63).map (·.size) = some 2 := by kernel_rfl
abbrev atV (v : Int × Nat) : Value := .agg #[.int .i64 v.1, .int .i64 (v.2 : Int)]
theorem fbf {a c d : World} {b : Nat} (h : Fr a c (fun _ => False)) (h2 : Fr c d (· = b)) : Fr a d (· = b) := h.trans h2 (fun _ _ h => h.elim) (fun _ _ h => h)
set_option maxHeartbeats 800000 in
theorem time_any (w : World) (b : Nat) (s : ByteArray) (l : Bs) (h : RdAt w b s l) (hz : s.size ≤ 1000000) :
    Calls Tryz.prog 193 #[.pointer (some ⟨b, 0, none⟩)] w (Ran (timeD l) atV b s w) := by
  have hbw := h.lt
  have hf0 := Fr.new w (.cells #[.int .i64 0, .int .i64 0] 63) (fun _ => False)
  have h0 := h.fr hf0 (fun h => h)
  have S1 := Lib.hid (signed_any _ b s l h0 hz)
  have HF0 := Lib.hid hf0
  have HB0 := Lib.hid (Blk.made w 63 #[.int .i64 0, .int .i64 0])
  clear h h0 hf0
  rcases hg : signedD l with _ | ⟨n, r⟩
  · have hs : timeD l = none := by simp [timeD, hg]
    rw [hs]
    rw [hg] at S1
    clear hg hs
    go_enter Tryz.func193, Tryz.ntmps193
    go_wp2_with fail
    refine S1.out.mono ?_
    rintro e w1 ⟨rfl, hf1⟩
    have HF1 := Lib.hid hf1
    clear hf1
    go_wp2_with fail
    exact ⟨rfl, rfl, fbf HF0.out HF1.out⟩
  · have S2 := Lib.hid (fun (W : World) (h : RdAt W b s r) => suffix_any W b s r h hz)
    rcases hg2 : suffixD r with _ | ⟨k, r2⟩
    · have hs : timeD l = none := by simp [timeD, hg, hg2]
      rw [hs]
      rw [hg] at S1
      rw [hg2] at S2
      clear hg hg2 hs
      go_enter Tryz.func193, Tryz.ntmps193
      go_wp2_with fail
      refine S1.out.mono ?_
      rintro e w1 ⟨rfl, hr1, hf1⟩
      have HF1 := Lib.hid hf1
      have S3 := Lib.hid (S2.out _ hr1)
      clear hf1 hr1
      go_wp2_with fail
      refine S3.out.mono ?_
      rintro e w2 ⟨rfl, hf2⟩
      have HF2 := Lib.hid hf2
      clear hf2
      go_wp2_with fail
      exact ⟨rfl, rfl, fb (fbf HF0.out HF1.out) HF2.out⟩
    · have hs : timeD l = some ((n, k), r2) := by simp [timeD, hg, hg2]
      rw [hs]
      rw [hg] at S1
      rw [hg2] at S2
      clear hg hg2 hs
      go_enter Tryz.func193, Tryz.ntmps193
      go_wp2_with fail
      refine S1.out.mono ?_
      rintro e w1 ⟨rfl, hr1, hf1⟩
      have HF1 := Lib.hid hf1
      have S3 := Lib.hid (S2.out _ hr1)
      clear hf1 hr1
      go_wp2_with fail
      refine S3.out.mono ?_
      rintro e w2 ⟨rfl, hr2, hf2⟩
      have HB2 := Lib.hid (hf2.blk (HF1.out.blk HB0.out (by omega)) (by omega))
      have HF2 := Lib.hid hf2
      have HR2 := Lib.hid hr2
      have c0 := cell_at HB2.out 0
      have c1 := cell_at HB2.out 1
      have f0 := free_at HB2.out 0
      have f1 := free_at HB2.out 1
      simp at c0 c1
      clear hf2 hr2
      go_wp2_with fail
      have hb4 : Blk ((w2.setCell ⟨w.heap.size, 0, none⟩ (.int .i64 n)).setCell ⟨w.heap.size, 1, none⟩ (.int .i64 (k : Int))) w.heap.size 63 #[.int .i64 n, .int .i64 (k : Int)] :=
        ((HB2.out.put' (cs' := #[.int .i64 n, .int .i64 0]) 0 (.int .i64 n) (by simp)).put' 1 (.int .i64 (k : Int)) (by simp))
      have hres := fun (tmps : Array Value) (hp : tmps.getD 2 undef = .pointer (some ⟨w.heap.size, 0, none⟩)) => results_cell_row (P := Tryz.prog) (fn := Tryz.f193) (p := 2) (ty := 63) rfl tmps _ w.heap.size 63 #[.int .i64 n, .int .i64 (k : Int)] (0, 0) _ hp hb4 Tryz.underlying63 rfl infoAt
      refine bodyPost_ret (hres _ rfl) rfl ⟨rfl, ?_, ?_⟩
      · exact (HR2.out.fr (Fr.set (S := (· = w.heap.size)) rfl) (by omega)).fr (Fr.set (S := (· = w.heap.size)) rfl) (by omega)
      · exact (fb (fbf HF0.out HF1.out) HF2.out).trans ((Fr.set (S := (· = w.heap.size)) rfl).trans (Fr.set (S := (· = w.heap.size)) rfl) (U := (· = w.heap.size)) (fun _ _ h => h) (fun _ _ h => h)) (fun _ _ h => h) (fun i hi h => by omega)
theorem amount_any (w : World) (b : Nat) (s : ByteArray) (l : Bs) (h : RdAt w b s l) (hz : s.size ≤ 1000000) :
    Calls Tryz.prog 195 #[.pointer (some ⟨b, 0, none⟩)] w (Ran (amountD l) intV b s w) := by
  have S1 := Lib.hid (signed_any w b s l h hz)
  clear h
  rcases hg : signedD l with _ | ⟨n, r⟩
  · have hs : amountD l = none := by simp [amountD, hg]
    rw [hs]
    rw [hg] at S1
    clear hg hs
    go_enter Tryz.func195, Tryz.ntmps195
    go_wp2_with fail
    refine S1.out.mono ?_
    rintro e w1 ⟨rfl, hf1⟩
    have HF1 := Lib.hid hf1
    clear hf1
    go_wp2_with fail
    exact ⟨rfl, rfl, HF1.out⟩
  · by_cases hin : -86400 ≤ n ∧ n ≤ 86400
    · have hs : amountD l = some (n, r) := by simp [amountD, hg, hin]
      rw [hs]
      rw [hg] at S1
      have HW := Lib.hid (fun w => within_any w n 86400 (by omega) (by omega) true (by simpa using hin))
      clear hg hs hin
      go_enter Tryz.func195, Tryz.ntmps195
      go_wp2_with fail
      refine S1.out.mono ?_
      rintro e w1 ⟨rfl, hr1, hf1⟩
      have HF1 := Lib.hid hf1
      have HR1 := Lib.hid hr1
      clear hf1 hr1
      go_wp2_with fail
      refine (HW.out _).mono ?_
      rintro e w2 ⟨rfl, rfl⟩
      go_wp2_with fail
      go_ret
      exact ⟨rfl, HR1.out, HF1.out⟩
    · have hs : amountD l = none := by simp [amountD, hg, hin]
      rw [hs]
      rw [hg] at S1
      have HW := Lib.hid (fun w => within_any w n 86400 (by omega) (by omega) false (by simpa using hin))
      clear hg hs hin
      go_enter Tryz.func195, Tryz.ntmps195
      go_wp2_with fail
      refine S1.out.mono ?_
      rintro e w1 ⟨rfl, hr1, hf1⟩
      have HF1 := Lib.hid hf1
      have HR1 := Lib.hid hr1
      clear hf1 hr1
      go_wp2_with fail
      refine (HW.out _).mono ?_
      rintro e w2 ⟨rfl, rfl⟩
      go_wp2_with fail
      exact ⟨rfl, rfl, HF1.out⟩
end Go.Proofs.YtodcnbejnchmhaaGreatDoor.S5
namespace Go.Proofs.YtodcnbejnchmhaaGreatDoor.S5
open Go.RowKit Go.Mem Go.Clk

theorem catchI_panicking (q : Nat) (x : Value) (w : World) (hb : Blk w q 26 #[x]) :
    CallsD Tryz.prog 226 #[.pointer (some ⟨q, 0, none⟩)] (.panicking [{ v := .iface 26 (.int .i64 7), recovered := false }]) w fun e u' w' =>
      e = .returned (.tuple #[]) ∧ u' = .panicking [{ v := .iface 26 (.int .i64 7), recovered := true }] ∧ w' = w.setCell ⟨q, 0, none⟩ (.int .i64 7) := by
  have hc := cell_at hb 0
  have hz := free_at hb 0
  simp at hc
  have hta : ∀ w : World, (Instr.typeAssert (.iface 26 (.int .i64 7)) 20 26 false).run Tryz.prog w = .ok (.int .i64 7) w := fun w => by kernel_rfl
  have hne : ∀ w : World, (binOp .neq 20 (.iface 26 (.int .i64 7)) .nilIface).run Tryz.prog w = .ok (.bool true) w := fun w => by kernel_rfl
  refine callsD_of_wpS Tryz.func226 rfl fun c₀ cs hu => ?_
  apply wpS_seq
  apply wpS_region
  simp [wpOpsS, go_sem, recoverD, hu, Tryz.ntmps226, Exit.thenS]
  apply wpS_seq
  apply wpS_region
  simp [wpOpsS, go_sem, Exit.thenS, Act.eval, Array.replicate, hne]
  refine wpS_cond (t := true) (by simp [Act.eval]) ?_
  simp only [if_true]
  apply wpS_region
  simp [wpOpsS, go_sem, Act.eval, hta, hc, hz, bodyPostS, results, Tryz.results226]
theorem catchI_idle (q : Nat) (w : World) :
    CallsD Tryz.prog 226 #[.pointer (some ⟨q, 0, none⟩)] .returning w fun e u' w' => e = .returned (.tuple #[]) ∧ u' = .returning ∧ w' = w := by
  have hne : ∀ w : World, (binOp .neq 20 .nilIface .nilIface).run Tryz.prog w = .ok (.bool false) w := fun w => by kernel_rfl
  refine callsD_of_wpS Tryz.func226 rfl fun c₀ cs hu => ?_
  apply wpS_seq
  apply wpS_region
  simp [wpOpsS, go_sem, recoverD, hu, Tryz.ntmps226, Exit.thenS]
  apply wpS_seq
  apply wpS_region
  simp [wpOpsS, go_sem, Exit.thenS, Act.eval, Array.replicate, hne]
  refine wpS_cond (t := false) (by simp [Act.eval]) ?_
  simp only [Bool.false_eq_true, if_false]
  refine wpS_of_wp (wp_skip ?_)
  cases c₀
  simp_all [bodyPostS, results, Tryz.results226]

/-- what read answers of a text -/
def ReadI (g : Option Int) (w : World) (e : Ending) (w' : World) : Prop := Fr w w' (fun _ => False) ∧ match g with
  | none => e = .returned (.tuple #[.int .i64 0, .int .i64 7])
  | some n => e = .returned (.tuple #[.int .i64 n, .int .i64 0])
theorem new_two (w : World) (l : Bs) (cs : Array Value) (t : TypeId) : Fr w ((w.alloc (.cells cs t)).alloc (.cells #[strV l, .int .i64 0] 262)) (fun _ => False) ∧
    Blk ((w.alloc (.cells cs t)).alloc (.cells #[strV l, .int .i64 0] 262)) w.heap.size t cs ∧
    RdAt ((w.alloc (.cells cs t)).alloc (.cells #[strV l, .int .i64 0] 262)) (w.heap.size + 1) ⟨l.toArray⟩ l := by
  have f1 := Fr.new w (.cells cs t) (fun _ => False)
  have f2 := Fr.new (w.alloc (.cells cs t)) (.cells #[strV l, .int .i64 0] 262) (fun _ => False)
  have b1 := Blk.made w t cs
  have b2 := Blk.made (w.alloc (.cells cs t)) 262 #[strV l, .int .i64 0]
  have hsz : (w.alloc (.cells cs t)).heap.size = w.heap.size + 1 := by simp
  rw [hsz] at b2
  exact ⟨f1.trans f2 (fun _ _ h => h) (fun _ _ h => h), f2.blk b1 (fun h => h), 0, Nat.zero_le _, by simp, b2⟩
theorem whole_none {α : Type} {z : α} {f : Bs → Option (α × Bs)} {l : Bs} (h0 : l ≠ [45]) (h : f l = none) : wholeD z f l = none := by rw [wholeD, if_neg h0, h]
theorem whole_some {α : Type} {z : α} {f : Bs → Option (α × Bs)} {l : Bs} {v : α} (h0 : l ≠ [45]) (h : f l = some (v, [])) : wholeD z f l = some v := by rw [wholeD, if_neg h0, h]; simp
theorem whole_more {α : Type} {z : α} {f : Bs → Option (α × Bs)} {l : Bs} {v : α} {r : Bs} (h0 : l ≠ [45]) (h : f l = some (v, r)) (hr : r ≠ []) : wholeD z f l = none := by rw [wholeD, if_neg h0, h]; simp [hr]
set_option maxHeartbeats 800000 in
theorem readI_any (l : Bs) (w : World) (hz : l.length ≤ 1000000) :
    Calls Tryz.prog 194 #[strV l, .func (.func 195) #[] #[]] w (ReadI (amtD l) w) := by
  have hmf : ∀ (fn : Fn) (first cap : Array Value) (w : World), (Instr.makeFunc fn first cap).run Tryz.prog w = .ok (.func fn first cap) w := fun _ _ _ _ => rfl
  by_cases h0 : l = [45]
  · subst h0
    have hb := Blk.made w 26 #[.int .i64 0]
    have hc := cell_at hb 0
    have hz := free_at hb 0
    simp at hc
    have HB := Lib.hid hb
    clear hb
    go_enter_defers Tryz.func194, Tryz.ntmps194
    go_wp2_with fail
    have hc := cell_at (HB.out.put 0 (.int .i64 0)) 0
    simp at hc
    simp [bodyPostD, Leaves, results, Tryz.results194, go_sem]
    exact ⟨Fr.new _ _ _, rfl⟩
  · have e0 : (l == [45]) = false := by simpa using h0
    obtain ⟨hf, hk, hr⟩ := new_two w l #[.int .i64 0] 26
    have hzs : (⟨l.toArray⟩ : ByteArray).size ≤ 1000000 := by rw [str_size]; exact hz
    have HQ := Lib.hid (amount_any _ _ _ l hr hzs)
    have HF := Lib.hid hf
    have HK := Lib.hid hk
    clear hf hk hr
    rcases hg : amountD l with _ | ⟨n, r⟩
    · rw [show amtD l = none from whole_none h0 hg]
      rw [hg] at HQ
      clear hg h0
      go_enter_defers Tryz.func194, Tryz.ntmps194
      go_wp2_with fail
      refine HQ.out.mono ?_
      rintro e w2 ⟨rfl, hf2⟩
      have HF2 := Lib.hid hf2
      have HK2 := Lib.hid (hf2.blk HK.out (by omega))
      clear hf2
      go_wp2_with fail
      refine leaves_cons (f := 226) (args := #[.pointer (some ⟨w.heap.size, 0, none⟩)]) (by simp) (by simp [go_sem]) ?_
      refine (catchI_panicking w.heap.size _ _ HK2.out).mono ?_
      rintro e u' w3 ⟨rfl, rfl, rfl⟩
      have hc := cell_at (HK2.out.put 0 (.int .i64 7)) 0
      simp at hc
      simp [Leaves, settle, results, Tryz.results194, go_sem, hc]
      exact ⟨(HF.out.fresh HF2.out (fun i e => by omega)).fresh (Fr.set (S := (· = w.heap.size)) rfl) (fun i e => by omega), rfl⟩
    · by_cases hr0 : r = []
      · subst hr0
        rw [show amtD l = some n from whole_some h0 hg]
        rw [hg] at HQ
        clear hg h0
        go_enter_defers Tryz.func194, Tryz.ntmps194
        go_wp2_with fail
        refine HQ.out.mono ?_
        rintro e w2 ⟨rfl, hr2, hf2⟩
        have HF2 := Lib.hid hf2
        have HK2 := Lib.hid (hf2.blk HK.out (by omega))
        have HE := Lib.hid (end_none w2 _ _ hr2 hzs)
        have f0 := free_at HK2.out 0
        have c0 := cell_at HK2.out 0
        simp at c0
        clear hf2 hr2
        go_wp2_with fail
        refine HE.out.mono ?_
        rintro e w3 ⟨rfl, m, rfl⟩
        go_wp2_with fail
        refine leaves_cons (f := 226) (args := #[.pointer (some ⟨w.heap.size, 0, none⟩)]) (by simp) (by simp [go_sem]) ?_
        refine (catchI_idle w.heap.size _).mono ?_
        rintro e u' w3 ⟨rfl, rfl, rfl⟩
        have hc := cell_at ((show Blk (w2.drewN m) _ _ _ from HK2.out).put 0 (.int .i64 0)) 0
        simp at hc
        simp [Leaves, settle, results, Tryz.results194, go_sem, hc]
        exact ⟨(fd (HF.out.fresh HF2.out (fun i e => by omega)) _).fresh (Fr.set (S := (· = w.heap.size)) rfl) (fun i e => by omega), rfl⟩
      · rw [show amtD l = none from whole_more h0 hg hr0]
        rw [hg] at HQ
        clear hg h0
        go_enter_defers Tryz.func194, Tryz.ntmps194
        go_wp2_with fail
        refine HQ.out.mono ?_
        rintro e w2 ⟨rfl, hr2, hf2⟩
        have HF2 := Lib.hid hf2
        have HK2 := Lib.hid (hf2.blk HK.out (by omega))
        have HE := Lib.hid (end_some w2 _ _ r hr0 hr2 hzs)
        clear hf2 hr2
        go_wp2_with fail
        refine HE.out.mono ?_
        rintro e w3 ⟨rfl, m, rfl⟩
        go_wp2_with fail
        refine leaves_cons (f := 226) (args := #[.pointer (some ⟨w.heap.size, 0, none⟩)]) (by simp) (by simp [go_sem]) ?_
        refine (catchI_panicking w.heap.size _ _ (show Blk (w2.drewN m) _ _ _ from HK2.out)).mono ?_
        rintro e u' w3 ⟨rfl, rfl, rfl⟩
        have hc := cell_at ((show Blk (w2.drewN m) _ _ _ from HK2.out).put 0 (.int .i64 7)) 0
        simp at hc
        simp [Leaves, settle, results, Tryz.results194, go_sem, hc]
        exact ⟨(fd (HF.out.fresh HF2.out (fun i e => by omega)) _).fresh (Fr.set (S := (· = w.heap.size)) rfl) (fun i e => by omega), rfl⟩
end Go.Proofs.YtodcnbejnchmhaaGreatDoor.S5
namespace Go.Proofs.YtodcnbejnchmhaaGreatDoor.S5
open Go.RowKit Go.Mem Go.Clk

theorem catchA_panicking (q : Nat) (x : Value) (w : World) (hb : Blk w q 26 #[x]) :
    CallsD Tryz.prog 222 #[.pointer (some ⟨q, 0, none⟩)] (.panicking [{ v := .iface 26 (.int .i64 7), recovered := false }]) w fun e u' w' =>
      e = .returned (.tuple #[]) ∧ u' = .panicking [{ v := .iface 26 (.int .i64 7), recovered := true }] ∧ w' = w.setCell ⟨q, 0, none⟩ (.int .i64 7) := by
  have hc := cell_at hb 0
  have hz := free_at hb 0
  simp at hc
  have hta : ∀ w : World, (Instr.typeAssert (.iface 26 (.int .i64 7)) 20 26 false).run Tryz.prog w = .ok (.int .i64 7) w := fun w => by kernel_rfl
  have hne : ∀ w : World, (binOp .neq 20 (.iface 26 (.int .i64 7)) .nilIface).run Tryz.prog w = .ok (.bool true) w := fun w => by kernel_rfl
  refine callsD_of_wpS Tryz.func222 rfl fun c₀ cs hu => ?_
  apply wpS_seq
  apply wpS_region
  simp [wpOpsS, go_sem, recoverD, hu, Tryz.ntmps222, Exit.thenS]
  apply wpS_seq
  apply wpS_region
  simp [wpOpsS, go_sem, Exit.thenS, Act.eval, Array.replicate, hne]
  refine wpS_cond (t := true) (by simp [Act.eval]) ?_
  simp only [if_true]
  apply wpS_region
  simp [wpOpsS, go_sem, Act.eval, hta, hc, hz, bodyPostS, results, Tryz.results222]
theorem catchA_idle (q : Nat) (w : World) :
    CallsD Tryz.prog 222 #[.pointer (some ⟨q, 0, none⟩)] .returning w fun e u' w' => e = .returned (.tuple #[]) ∧ u' = .returning ∧ w' = w := by
  have hne : ∀ w : World, (binOp .neq 20 .nilIface .nilIface).run Tryz.prog w = .ok (.bool false) w := fun w => by kernel_rfl
  refine callsD_of_wpS Tryz.func222 rfl fun c₀ cs hu => ?_
  apply wpS_seq
  apply wpS_region
  simp [wpOpsS, go_sem, recoverD, hu, Tryz.ntmps222, Exit.thenS]
  apply wpS_seq
  apply wpS_region
  simp [wpOpsS, go_sem, Exit.thenS, Act.eval, Array.replicate, hne]
  refine wpS_cond (t := false) (by simp [Act.eval]) ?_
  simp only [Bool.false_eq_true, if_false]
  refine wpS_of_wp (wp_skip ?_)
  cases c₀
  simp_all [bodyPostS, results, Tryz.results222]

/-- what read answers of a text, as a time -/
def ReadA (g : Option (Int × Nat)) (w : World) (e : Ending) (w' : World) : Prop := Fr w w' (fun _ => False) ∧ match g with
  | none => e = .returned (.tuple #[atV (0, 0), .int .i64 7])
  | some v => e = .returned (.tuple #[atV v, .int .i64 0])
theorem new_three (w : World) (l : Bs) : Fr w (((w.alloc (.cells #[.int .i64 0, .int .i64 0] 63)).alloc (.cells #[.int .i64 0] 26)).alloc (.cells #[strV l, .int .i64 0] 262)) (fun _ => False) ∧
    Blk (((w.alloc (.cells #[.int .i64 0, .int .i64 0] 63)).alloc (.cells #[.int .i64 0] 26)).alloc (.cells #[strV l, .int .i64 0] 262)) w.heap.size 63 #[.int .i64 0, .int .i64 0] ∧
    Blk (((w.alloc (.cells #[.int .i64 0, .int .i64 0] 63)).alloc (.cells #[.int .i64 0] 26)).alloc (.cells #[strV l, .int .i64 0] 262)) (w.heap.size + 1) 26 #[.int .i64 0] ∧
    RdAt (((w.alloc (.cells #[.int .i64 0, .int .i64 0] 63)).alloc (.cells #[.int .i64 0] 26)).alloc (.cells #[strV l, .int .i64 0] 262)) (w.heap.size + 2) ⟨l.toArray⟩ l := by
  obtain ⟨h1, h2, h3⟩ := new_two (w.alloc (.cells #[.int .i64 0, .int .i64 0] 63)) l #[.int .i64 0] 26
  have f1 := Fr.new w (.cells #[.int .i64 0, .int .i64 0] 63) (fun _ => False)
  have b1 := Blk.made w 63 #[.int .i64 0, .int .i64 0]
  have hsz : (w.alloc (.cells #[.int .i64 0, .int .i64 0] 63)).heap.size = w.heap.size + 1 := by simp
  rw [hsz] at h2 h3
  exact ⟨ff f1 h1, h1.blk b1 (fun h => h), h2, h3⟩
theorem load_at {w : World} {g : Nat} {x y : Value} (h : Blk w g 63 #[x, y]) : (loadVar 63 ⟨g, 0, none⟩).run Tryz.prog w = .ok (.agg #[x, y]) w := run_loadVar_row w g 63 63 #[x, y] (0, 0) _ h Tryz.underlying63 rfl infoAt
theorem results_readA (tmps : Array Value) (w : World) (q : Nat) (x y : Value) (k : Int) (h4 : tmps.getD 4 undef = .pointer (some ⟨q, 0, none⟩)) (h5 : tmps.getD 5 undef = .pointer (some ⟨q + 1, 0, none⟩))
    (hb : Blk w q 63 #[x, y]) (hk : Blk w (q + 1) 26 #[.int .i64 k]) : (results Tryz.f192 tmps).run Tryz.prog w = .ok (.tuple #[.agg #[x, y], .int .i64 k]) w := by
  have h4' : tmps[4]?.getD undef = .pointer (some ⟨q, 0, none⟩) := by simpa using h4
  have h5' : tmps[5]?.getD undef = .pointer (some ⟨q + 1, 0, none⟩) := by simpa using h5
  have hL := load_at hb
  have hk0 := cell_at hk 0
  simp at hk0
  have hK : (loadVar 26 ⟨q + 1, 0, none⟩).run Tryz.prog w = .ok (.int .i64 k) w := by
    simp [go_sem, hk0]
  simp [results, Tryz.results192, h4', h5', asAddr, hL, hK]
set_option maxHeartbeats 800000 in
theorem readA_any (l : Bs) (w : World) (hz : l.length ≤ 1000000) :
    Calls Tryz.prog 192 #[strV l, .func (.func 193) #[] #[]] w (ReadA (parseD l) w) := by
  have hmf : ∀ (fn : Fn) (first cap : Array Value) (w : World), (Instr.makeFunc fn first cap).run Tryz.prog w = .ok (.func fn first cap) w := fun _ _ _ _ => rfl
  by_cases h0 : l = [45]
  · subst h0
    rw [show parseD [45] = some (0, 0) from rfl]
    have b1 := (Fr.new (w.alloc (.cells #[.int .i64 0, .int .i64 0] 63)) (.cells #[.int .i64 0] 26) (fun _ => False)).blk (Blk.made w 63 #[.int .i64 0, .int .i64 0]) (fun h => h)
    have b2 := Blk.made (w.alloc (.cells #[.int .i64 0, .int .i64 0] 63)) 26 #[.int .i64 0]
    rw [show (w.alloc (.cells #[.int .i64 0, .int .i64 0] 63)).heap.size = w.heap.size + 1 by simp] at b2
    have c0 := cell_at b1 0
    have c1 := cell_at b1 1
    have c2 := cell_at b2 0
    have f0 := free_at b1 0
    have f1 := free_at b1 1
    have f2 := free_at b2 0
    simp at c0 c1 c2
    have HB1 := Lib.hid b1
    have HB2 := Lib.hid b2
    clear b1 b2
    go_enter_defers Tryz.func192, Tryz.ntmps192
    go_wp2_with fail
    have hL := load_at HB1.out
    have hK := cell_at HB2.out 0
    simp at hK
    simp [bodyPostD, Leaves, results, Tryz.results192, go_sem]
    exact ⟨ff (Fr.new _ _ _) (Fr.new _ _ _), rfl⟩
  · have e0 : (l == [45]) = false := by simpa using h0
    obtain ⟨hf, hv, hk, hr⟩ := new_three w l
    have hzs : (⟨l.toArray⟩ : ByteArray).size ≤ 1000000 := by rw [str_size]; exact hz
    have HQ := Lib.hid (time_any _ _ _ l hr hzs)
    have HF := Lib.hid hf
    have HV := Lib.hid hv
    have HK := Lib.hid hk
    clear hf hv hk hr
    rcases hg : timeD l with _ | ⟨n, r⟩
    · rw [show parseD l = none from whole_none h0 hg]
      rw [hg] at HQ
      clear hg h0
      go_enter_defers Tryz.func192, Tryz.ntmps192
      go_wp2_with fail
      refine HQ.out.mono ?_
      rintro e w2 ⟨rfl, hf2⟩
      have HF2 := Lib.hid hf2
      have HV2 := Lib.hid (hf2.blk HV.out (by omega))
      have HK2 := Lib.hid (hf2.blk HK.out (by omega))
      clear hf2
      go_wp2_with fail
      refine leaves_cons (f := 222) (args := #[.pointer (some ⟨w.heap.size + 1, 0, none⟩)]) (by simp) (by simp [go_sem]) ?_
      refine (catchA_panicking (w.heap.size + 1) _ _ HK2.out).mono ?_
      rintro e u' w3 ⟨rfl, rfl, rfl⟩
      have hb4 := (Fr.set (w := w2) (S := (· = w.heap.size + 1)) (v := .int .i64 7) (a := ⟨w.heap.size + 1, 0, none⟩) rfl).blk HV2.out (by omega)
      have hk4 := HK2.out.put' (cs' := #[.int .i64 7]) 0 (.int .i64 7) (by simp)
      exact ⟨_, results_readA _ _ w.heap.size _ _ 7 rfl rfl hb4 hk4, (HF.out.fresh HF2.out (fun i e => by omega)).fresh (Fr.set (S := (· = w.heap.size + 1)) rfl) (fun i e => by omega), rfl⟩
    · by_cases hr0 : r = []
      · subst hr0
        rw [show parseD l = some n from whole_some h0 hg]
        rw [hg] at HQ
        clear hg h0
        go_enter_defers Tryz.func192, Tryz.ntmps192
        go_wp2_with fail
        refine HQ.out.mono ?_
        rintro e w2 ⟨rfl, hr2, hf2⟩
        have HF2 := Lib.hid hf2
        have hf3 := Fr.new w2 (.cells #[.int .i64 n.1, .int .i64 (n.2 : Int)] 63) (fun _ => False)
        have HF3 := Lib.hid hf3
        have HV2 := Lib.hid (hf3.blk (hf2.blk HV.out (by omega)) (fun h => h))
        have HK2 := Lib.hid (hf3.blk (hf2.blk HK.out (by omega)) (fun h => h))
        have HT2 := Lib.hid (Blk.made w2 63 #[.int .i64 n.1, .int .i64 (n.2 : Int)])
        have HE := Lib.hid (end_none _ _ _ (hr2.fr hf3 (fun h => h)) hzs)
        have hsz := hf2.size
        simp at hsz
        have c0 := cell_at HV2.out 0
        have c1 := cell_at HV2.out 1
        have f0 := free_at HV2.out 0
        have f1 := free_at HV2.out 1
        have k0 := cell_at HK2.out 0
        have g0 := free_at HK2.out 0
        have t0 := cell_at HT2.out 0
        have t1 := cell_at HT2.out 1
        simp at c0 c1 k0
        have HR0 := Lib.hid t0
        have HR1 := Lib.hid t1
        clear hf2 hr2 hf3 t0 t1
        go_wp2_with fail
        refine HE.out.mono ?_
        rintro e w3 ⟨rfl, m, rfl⟩
        go_wp2_with fail
        refine leaves_cons (f := 222) (args := #[.pointer (some ⟨w.heap.size + 1, 0, none⟩)]) (by simp) (by simp [go_sem]) ?_
        refine (catchA_idle (w.heap.size + 1) _).mono ?_
        rintro e u' w3 ⟨rfl, rfl, rfl⟩
        have hb3 := (show Blk ((w2.alloc (.cells #[.int .i64 n.1, .int .i64 (n.2 : Int)] 63)).drewN m) w.heap.size 63 #[.int .i64 0, .int .i64 0] from HV2.out)
        have hb4 := (hb3.put' (cs' := #[.int .i64 n.1, .int .i64 0]) 0 (.int .i64 n.1) (by simp)).put' (cs' := #[.int .i64 n.1, .int .i64 (n.2 : Int)]) 1 (.int .i64 (n.2 : Int)) (by simp)
        have hb5 := (Fr.set (S := (· = w.heap.size + 1)) (v := .int .i64 0) (a := ⟨w.heap.size + 1, 0, none⟩) rfl).blk hb4 (by omega)
        have hk3 := (show Blk ((w2.alloc (.cells #[.int .i64 n.1, .int .i64 (n.2 : Int)] 63)).drewN m) (w.heap.size + 1) 26 #[.int .i64 0] from HK2.out)
        have hk4 := (Fr.set (S := (· = w.heap.size)) (v := .int .i64 n.1) (a := ⟨w.heap.size, 0, none⟩) rfl).blk hk3 (by omega)
        have hk5 := (Fr.set (S := (· = w.heap.size)) (v := .int .i64 (n.2 : Int)) (a := ⟨w.heap.size, 1, none⟩) rfl).blk hk4 (by omega)
        have hk6 := hk5.put' (cs' := #[.int .i64 0]) 0 (.int .i64 0) (by simp)
        have hfr := fd (ff (HF.out.fresh HF2.out (fun i e => by omega)) HF3.out) m
        have hfr1 := hfr.fresh (Fr.set (S := (· = w.heap.size)) (a := ⟨w.heap.size, 0, none⟩) (v := .int .i64 n.1) rfl) (fun i e => by omega)
        have hfr2 := hfr1.fresh (Fr.set (S := (· = w.heap.size)) (a := ⟨w.heap.size, 1, none⟩) (v := .int .i64 (n.2 : Int)) rfl) (fun i e => by omega)
        exact ⟨_, results_readA _ _ w.heap.size _ _ 0 rfl rfl hb5 hk6, hfr2.fresh (Fr.set (S := (· = w.heap.size + 1)) rfl) (fun i e => by omega), rfl⟩
      · rw [show parseD l = none from whole_more h0 hg hr0]
        rw [hg] at HQ
        clear hg h0
        go_enter_defers Tryz.func192, Tryz.ntmps192
        go_wp2_with fail
        refine HQ.out.mono ?_
        rintro e w2 ⟨rfl, hr2, hf2⟩
        have HF2 := Lib.hid hf2
        have hf3 := Fr.new w2 (.cells #[.int .i64 n.1, .int .i64 (n.2 : Int)] 63) (fun _ => False)
        have HF3 := Lib.hid hf3
        have HV2 := Lib.hid (hf3.blk (hf2.blk HV.out (by omega)) (fun h => h))
        have HK2 := Lib.hid (hf3.blk (hf2.blk HK.out (by omega)) (fun h => h))
        have HE := Lib.hid (end_some _ _ _ r hr0 (hr2.fr hf3 (fun h => h)) hzs)
        have hsz := hf2.size
        simp at hsz
        clear hf2 hr2 hf3
        go_wp2_with fail
        refine HE.out.mono ?_
        rintro e w3 ⟨rfl, m, rfl⟩
        go_wp2_with fail
        refine leaves_cons (f := 222) (args := #[.pointer (some ⟨w.heap.size + 1, 0, none⟩)]) (by simp) (by simp [go_sem]) ?_
        have hk3 := (show Blk ((w2.alloc (.cells #[.int .i64 n.1, .int .i64 (n.2 : Int)] 63)).drewN m) (w.heap.size + 1) 26 #[.int .i64 0] from HK2.out)
        refine (catchA_panicking (w.heap.size + 1) _ _ hk3).mono ?_
        rintro e u' w3 ⟨rfl, rfl, rfl⟩
        have hb3 := (show Blk ((w2.alloc (.cells #[.int .i64 n.1, .int .i64 (n.2 : Int)] 63)).drewN m) w.heap.size 63 #[.int .i64 0, .int .i64 0] from HV2.out)
        have hb4 := (Fr.set (S := (· = w.heap.size + 1)) (v := .int .i64 7) (a := ⟨w.heap.size + 1, 0, none⟩) rfl).blk hb3 (by omega)
        have hk4 := hk3.put' (cs' := #[.int .i64 7]) 0 (.int .i64 7) (by simp)
        have hfr := fd (ff (HF.out.fresh HF2.out (fun i e => by omega)) HF3.out) m
        exact ⟨_, results_readA _ _ w.heap.size _ _ 7 rfl rfl hb4 hk4, hfr.fresh (Fr.set (S := (· = w.heap.size + 1)) rfl) (fun i e => by omega), rfl⟩
end Go.Proofs.YtodcnbejnchmhaaGreatDoor.S5
namespace Go.Proofs.YtodcnbejnchmhaaGreatDoor.S5
open Go.RowKit Go.Mem Go.Clk

/-- what Parse answers -/
def numD (g : Option (Int × Nat)) : Value × Int := match g with
  | none => (atV (0, 0), 7)
  | some v => (atV v, 0)
theorem Amount_any (l : Bs) (w : World) (hz : l.length ≤ 1000000) : Calls Tryz.prog 170 #[strV l] w (ReadI (amtD l) w) := by
  have HQ := Lib.hid (readI_any l w hz)
  obtain ⟨T, hT⟩ : ∃ T, amtD l = T := ⟨_, rfl⟩
  rw [hT] at HQ ⊢
  clear hT
  cases T with
  | none =>
    go_enter Tryz.func170, Tryz.ntmps170
    go_wp2_with fail
    refine HQ.out.mono ?_
    rintro e w2 ⟨hf2, rfl⟩
    have HF2 := Lib.hid hf2
    clear hf2
    go_wp2_with fail
    go_ret2
    exact ⟨HF2.out, rfl⟩
  | some v =>
    go_enter Tryz.func170, Tryz.ntmps170
    go_wp2_with fail
    refine HQ.out.mono ?_
    rintro e w2 ⟨hf2, rfl⟩
    have HF2 := Lib.hid hf2
    clear hf2
    go_wp2_with fail
    go_ret2
    exact ⟨HF2.out, rfl⟩
theorem results_Parse (tmps : Array Value) (w : World) (q : Nat) (x y : Value) (k : Int) (h2 : tmps.getD 2 undef = .pointer (some ⟨q, 0, none⟩)) (h3 : tmps.getD 3 undef = .int .i64 k)
    (hb : Blk w q 63 #[x, y]) : (results Tryz.f169 tmps).run Tryz.prog w = .ok (.tuple #[.agg #[x, y], .int .i64 k]) w := by
  have h2' : tmps[2]?.getD undef = .pointer (some ⟨q, 0, none⟩) := by simpa using h2
  have h3' : tmps[3]?.getD undef = .int .i64 k := by simpa using h3
  have hL := load_at hb
  simp [results, Tryz.results169, h2', h3', asAddr, hL]
set_option maxHeartbeats 800000 in
theorem Parse_any (l : Bs) (w : World) (hz : l.length ≤ 1000000) : Calls Tryz.prog 169 #[strV l] w (ReadA (parseD l) w) := by
  have hf0 := Fr.new w (.cells #[.int .i64 0, .int .i64 0] 63) (fun _ => False)
  have HQ := Lib.hid (readA_any l (w.alloc (.cells #[.int .i64 0, .int .i64 0] 63)) hz)
  have HB := Lib.hid (Blk.made w 63 #[.int .i64 0, .int .i64 0])
  have HF := Lib.hid hf0
  obtain ⟨T, hT⟩ : ∃ T, parseD l = T := ⟨_, rfl⟩
  rw [hT] at HQ ⊢
  clear hT hf0
  cases T with
  | none =>
    go_enter Tryz.func169, Tryz.ntmps169
    go_wp2_with fail
    refine HQ.out.mono ?_
    rintro e w2 ⟨hf2, rfl⟩
    have HF2 := Lib.hid hf2
    have hb2 := hf2.blk HB.out (fun h => h)
    have c0 := cell_at hb2 0
    have c1 := cell_at hb2 1
    have f0 := free_at hb2 0
    have f1 := free_at hb2 1
    simp at c0 c1
    have HB2 := Lib.hid hb2
    clear hf2 hb2
    go_wp2_with fail
    (try simp only [Exit.inBlock, Exit.then])
    have hb4 := (HB2.out.put' (cs' := #[.int .i64 0, .int .i64 0]) 0 (.int .i64 0) (by simp)).put' (cs' := #[.int .i64 0, .int .i64 0]) 1 (.int .i64 ((0 : Nat) : Int)) (by simp)
    have hfr := ff HF.out HF2.out
    have hfr1 := hfr.fresh (Fr.set (S := (· = w.heap.size)) (a := ⟨w.heap.size, 0, none⟩) (v := .int .i64 0) rfl) (fun i e => by omega)
    exact bodyPost_ret (results_Parse _ _ w.heap.size _ _ 7 rfl rfl hb4) rfl ⟨hfr1.fresh (Fr.set (S := (· = w.heap.size)) rfl) (fun i e => by omega), rfl⟩
  | some v =>
    go_enter Tryz.func169, Tryz.ntmps169
    go_wp2_with fail
    refine HQ.out.mono ?_
    rintro e w2 ⟨hf2, rfl⟩
    have HF2 := Lib.hid hf2
    have hb2 := hf2.blk HB.out (fun h => h)
    have c0 := cell_at hb2 0
    have c1 := cell_at hb2 1
    have f0 := free_at hb2 0
    have f1 := free_at hb2 1
    simp at c0 c1
    have HB2 := Lib.hid hb2
    clear hf2 hb2
    go_wp2_with fail
    (try simp only [Exit.inBlock, Exit.then])
    have hb4 := (HB2.out.put' (cs' := #[.int .i64 v.1, .int .i64 0]) 0 (.int .i64 v.1) (by simp)).put' (cs' := #[.int .i64 v.1, .int .i64 (v.2 : Int)]) 1 (.int .i64 (v.2 : Int)) (by simp)
    have hfr := ff HF.out HF2.out
    have hfr1 := hfr.fresh (Fr.set (S := (· = w.heap.size)) (a := ⟨w.heap.size, 0, none⟩) (v := .int .i64 v.1) rfl) (fun i e => by omega)
    exact bodyPost_ret (results_Parse _ _ w.heap.size _ _ 0 rfl rfl hb4) rfl ⟨hfr1.fresh (Fr.set (S := (· = w.heap.size)) rfl) (fun i e => by omega), rfl⟩
end Go.Proofs.YtodcnbejnchmhaaGreatDoor.S5
namespace Go.Proofs.YtodcnbejnchmhaaGreatDoor.S8
open Go.RowKit Go.Mem Go.Kwd

abbrev strV (l : Bs) : Value := .string ⟨l.toArray⟩
abbrev u8V (c : UInt8) : Value := .int .u8 (c.toNat : Int)
theorem infoB : (Tryz.prog.info? 5).map (fun i => (i.zero, i.size, i.bytes)) = some (some (.int .u8 0), 1, 1) := by kernel_rfl
theorem infoS : (Tryz.prog.info? 9).map (fun i => (i.zero, i.size, i.bytes)) = some (some (.string ⟨#[]⟩), 1, 16) := by kernel_rfl
theorem str_size (l : Bs) : (⟨l.toArray⟩ : ByteArray).size = l.length := by show l.toArray.size = _; simp
theorem bytes_len (s : ByteArray) : s.data.toList.length = s.size := by rw [Array.length_toList]; rfl
theorem strV_of (s : ByteArray) : Value.string s = strV s.data.toList := by
  show Value.string s = .string ⟨s.data.toList.toArray⟩
  congr
theorem run_add_str {P : Program} (w : World) (a b : Bs) (h : a.length + b.length ≤ 1000000) : (Op.stringOp .add ⟨a.toArray⟩ ⟨b.toArray⟩).run P w = .ok (strV (a ++ b)) w := by
  rw [run_string_add_sum w _ _ (by show a.toArray.size + b.toArray.size ≤ _; simp; omega)]
  show Result.ok (Value.string ((⟨a.toArray⟩ : ByteArray) ++ ⟨b.toArray⟩)) w = .ok (.string ⟨(a ++ b).toArray⟩) w
  congr 2
theorem ff {a c d : World} (h : Fr a c (fun _ => False)) (h2 : Fr c d (fun _ => False)) : Fr a d (fun _ => False) := h.trans h2 (fun _ _ h => h) (fun _ _ h => h)
theorem fd {a b : World} (h : Fr a b (fun _ => False)) (n : Nat) : Fr a (b.drewN n) (fun _ => False) := ff h (Fr.drewN _ _ _)
theorem drop_cons {s : ByteArray} {a : Nat} {c : UInt8} {l : Bs} (h : s.data.toList.drop a = c :: l) : ∃ hs : a < s.size, s[a] = c ∧ s.data.toList.drop (a + 1) = l := by
  have hl : s.data.toList.length = s.size := bytes_len s
  have hs : a < s.size := by
    rw [← hl]
    rcases Nat.lt_or_ge a s.data.toList.length with h1 | h1
    · exact h1
    · rw [List.drop_eq_nil_of_le h1] at h
      cases h
  refine ⟨hs, ?_, ?_⟩
  · rw [List.drop_eq_getElem_cons (by rw [hl]; exact hs)] at h
    have := (List.cons.inj h).1
    rw [← this]
    rfl
  · rw [List.drop_eq_getElem_cons (by rw [hl]; exact hs)] at h
    exact (List.cons.inj h).2
theorem get_str {s : ByteArray} {l : Bs} (h : s.data.toList = l) {k : Nat} (hk : k < s.size) : l[k]? = some s[k] := by
  subst h
  rw [List.getElem?_eq_getElem (by rw [bytes_len]; exact hk)]
  rfl
theorem toNat_ne {c : UInt8} {n : Int} {k : UInt8} (h : c ≠ k) (hn : n = c.toNat) : (n == (k.toNat : Int)) = false := by
  rw [beq_eq_false_iff_ne]
  intro e
  exact h (UInt8.toNat_inj.1 (by omega))
theorem byte_lt (c : UInt8) : (c.toNat : Int) < 256 := by have := c.toNat_lt; omega
/-- a slice of texts at a place -/
theorem strs_at {w : World} {A : Option Addr} {n : Nat} {ls : List Bs} (h : Rd w 1 A n (ls.map strV)) {k : Nat} (hk : k < n) :
    ∃ b off x, A = some ⟨b, off, none⟩ ∧ ls[k]? = some x ∧ w.cell? ⟨b, off + k, none⟩ = some (strV x) := by
  obtain ⟨b, off, u, e, hu, hc⟩ := h.at_ hk
  rw [List.getElem?_map] at hu
  obtain ⟨x, hx, rfl⟩ := Option.map_eq_some_iff.1 hu
  exact ⟨b, off, x, e, hx, hc⟩
theorem strs_len {w : World} {A : Option Addr} {n : Nat} {ls : List Bs} (h : Rd w 1 A n (ls.map strV)) : ls.length = n := by have := h.1; simpa using this
theorem strs_fr {w w' : World} {A : Option Addr} {n : Nat} {ls : List Bs} (h : Rd w 1 A n (ls.map strV)) (hf : Fr w w' (fun _ => False)) : Rd w' 1 A n (ls.map strV) := Rd.fr h hf (fun _ _ _ _ h => h)
/-- the variables that the code reads hold what the program's text lays -/
structure WOk (w : World) : Prop where
  pow : ∃ B, B ≤ w.heap.size ∧ Lib.TabBelow Tryz.prog B w "internal/strconv.uint64pow10" .u64 Lib.pow10Tab
  max : ∃ m, w.cell? ⟨0, 0, none⟩ = some (.int .i64 m)
  ran : ∃ t p, w.cell? ⟨9, 0, none⟩ = some (.iface t p)
theorem WOk.fr {w w' : World} (h : WOk w) (f : Fr w w' (fun _ => False)) : WOk w' := by
  refine ⟨?_, ?_, ?_⟩
  · obtain ⟨B, hB, ht⟩ := h.pow
    exact ⟨B, Nat.le_trans hB f.size, ht.on (f.below hB (fun _ h => h.elim))⟩
  · obtain ⟨m, hm⟩ := h.max
    exact ⟨m, f.cell0 hm⟩
  · obtain ⟨t, p, hm⟩ := h.ran
    exact ⟨t, p, f.cell0 hm⟩
end Go.Proofs.YtodcnbejnchmhaaGreatDoor.S8
