import Derived.Test.YtcjednmenbdmnaaTell
import Derived.BigQuiet
import Derived.Deep.QuietTactic
import Derived.Test.YtcjednmenbdmnaaRef
namespace Go.Proofs.Ytcjednmenbdmnaa
open Go.RowKit Go.Mem Go.Wire

theorem Rd.u8 {w : World} {A : Option Addr} {n : Nat} {bs : List Int} (h : Rd w 1 A n (bs.map u8v)) {k : Nat} (hk : k < n) :
    ∃ b off, A = some ⟨b, off, none⟩ ∧ (∀ j (hj : j < bs.length), w.cell? ⟨b, off + j, none⟩ = some (.int .u8 bs[j])) := by
  obtain ⟨b, off, e, hc⟩ := h.2 (by omega)
  refine ⟨b, off, e, fun j hj => hc j _ ?_⟩
  rw [List.getElem?_map, List.getElem?_eq_getElem hj]
  rfl

/-- what first answers -/
def FirstOut (A0 : Option Addr) (n : Nat) (w : World) (bs : List Int) (e : Ending) (w' : World) : Prop :=
  ∃ A l c, e = .returned (.tuple #[.int .i64 ((firstW bs).1 : Nat), .int .i64 ((firstW bs).2.1 : Nat), .slice A l c]) ∧ l = (firstW bs).2.2.length ∧
    (∀ W, Rd W 1 A0 n (bs.map u8v) → Rd W 1 A l ((firstW bs).2.2.map u8v)) ∧ ∃ m, w' = w.drewN m

theorem first_any (A : Option Addr) (n cap : Nat) (bs : List Int) (w : World) (hb : ∀ x ∈ bs, 0 ≤ x ∧ x ≤ 255) (hbn : bs.length = n) (hr : Rd w 1 A n (bs.map u8v)) (hnc : n ≤ cap) (hn : n ≤ 1099511627776) :
    Calls Try.prog 15 #[.slice A n cap] w (FirstOut A n w bs) := by
  have HB := Lib.hid hb
  have HN := Lib.hid hbn
  have HR := Lib.hid hr
  clear hb hbn hr
  go_enter Try.func15, Try.ntmps15
  go_wp2_with fail
  go_loop [5, 6] (fun v5 v6 => ∃ (s : Int) (k : Nat), k ≤ n ∧ k ≤ 5 ∧ 0 ≤ s ∧ s ≤ 99999 ∧ s < 10 ^ k ∧ v5 = .int .i64 s ∧ v6 = .int .i64 k ∧ scanW bs 0 0 = scanW (bs.drop k) s k) (fun _ v6 => n - (intOf v6).toNat)
  case atStart => exact ⟨0, 0, by omega, by omega, by omega, by omega, by simp, rfl, rfl, rfl⟩
  case round =>
    obtain ⟨s, k, hk, hk5, hs0, hs1, hs2, rfl, rfl, hsc⟩ := hrel
    have HS2 := Lib.hid hs2
    have HSC := Lib.hid hsc
    clear hs2 hsc
    by_cases hlt : k < n
    · obtain ⟨b, off, rfl, hcell⟩ := Rd.u8 HR.out hlt
      have hkl : k < bs.length := by rw [HN.out]; exact hlt
      have hc := hcell k hkl
      have hcm := HB.out _ (List.getElem_mem hkl)
      obtain ⟨c, hcc⟩ : ∃ c, bs[k] = c := ⟨_, rfl⟩
      rw [hcc] at hc hcm
      have HC : Hid (bs.drop k = c :: bs.drop (k + 1)) := by
        show _ = _
        rw [List.drop_eq_getElem_cons hkl, hcc]
      have HCC : Hid (bs[k]? = some c) := by
        show _ = _
        rw [List.getElem?_eq_getElem hkl, hcc]
      have HCELL := Lib.hid hcell
      obtain ⟨c0, c1⟩ := hcm
      have hn0 : ((k : Int) == (n : Int)) = false := by simp; omega
      clear hcell hcc hkl
      by_cases hd : isDig c = true
      · have hd' := isDig_iff.1 hd
        obtain ⟨d0, d1⟩ := hd'
        have HD := Lib.hid hd
        clear hd
        by_cases hst : k = 5 ∨ (0 < k ∧ s = 0)
        · have HF : Hid (firstW bs = (2, k, [])) := by
            show _ = _
            have e : scanW bs 0 0 = (true, s, k) := by rw [HSC.out, HC.out, scanW, if_pos HD.out, if_pos hst]
            unfold firstW
            rw [e]
          by_cases h5 : k = 5
          · have e5 : ((k : Int) == 5) = true := by simp [h5]
            clear hst h5
            go_wp2_with fail
            go_ret3
            exact ⟨none, 0, 0, by rw [HF.out]; rfl, by rw [HF.out]; rfl, by rw [HF.out]; exact fun _ _ => Rd.zero _ _ _, 0, rfl⟩
          · have h6 : 0 < k ∧ s = 0 := by rcases hst with h | h; exact absurd h h5; exact h
            obtain ⟨h7, h8⟩ := h6
            have e5 : ((k : Int) == 5) = false := by simp; omega
            have e6 : (s == 0) = true := by simp [h8]
            clear hst h5 h8
            go_wp2_with fail
            go_ret3
            exact ⟨none, 0, 0, by rw [HF.out]; rfl, by rw [HF.out]; rfl, by rw [HF.out]; exact fun _ _ => Rd.zero _ _ _, 0, rfl⟩
        · have HF : Hid (scanW bs 0 0 = scanW (bs.drop (k + 1)) (s * 10 + (c - 48)) (k + 1)) := by
            show _ = _
            rw [HSC.out, HC.out, scanW, if_pos HD.out, if_neg hst]
          have e5 : ((k : Int) == 5) = false := by simp; omega
          have h5 : k < 5 := by omega
          have hp := Lib.hid (pow_step HS2.out d1)
          have hp5 := pow5 hp.out (by omega)
          by_cases h0 : k = 0
          · have h0' : k ≤ 0 := by omega
            clear hst h0
            go_wp2_with fail
            go_round
            case rel => exact ⟨_, k + 1, by omega, by omega, by omega, by omega, hp.out, rfl, by go_num, HF.out⟩
            case measure => simp [intOf]; omega
          · have h0' : 0 < k := by omega
            have e6 : (s == 0) = false := by
              simp
              omega
            clear hst h0
            go_wp2_with fail
            go_round
            case rel => exact ⟨_, k + 1, by omega, by omega, by omega, by omega, hp.out, rfl, by go_num, HF.out⟩
            case measure => simp [intOf]; omega
      · have HF0 : Hid (scanW bs 0 0 = (false, s, k)) := by
          show _ = _
          rw [HSC.out, HC.out, scanW, if_neg hd]
        have hout : c < 48 ∨ 57 < c := by
          rw [isDig_iff] at hd
          omega
        clear hd
        have hgk : Hid (bs.getD k 0 = c) := by
          show _ = _
          rw [List.getD_eq_getElem?_getD, HCC.out]
          rfl
        by_cases h0 : k = 0
        · have HF : Hid (firstW bs = (2, k, [])) := by
            show _ = _
            unfold firstW
            rw [HF0.out]
            simp only
            rw [if_neg (by rw [HN.out]; omega), if_pos (.inl h0)]
          have e0 : ((k : Int) == 0) = true := by simp [h0]
          clear h0
          rcases hout with ho | ho
          all_goals
            go_wp2_with fail
            go_ret3
            exact ⟨none, 0, 0, by rw [HF.out]; rfl, by rw [HF.out]; rfl, by rw [HF.out]; exact fun _ _ => Rd.zero _ _ _, 0, rfl⟩
        · have e0 : ((k : Int) == 0) = false := by simp; omega
          by_cases h58 : c = 58
          · by_cases hmax : 20000 < s
            · have HF : Hid (firstW bs = (2, k, [])) := by
                show _ = _
                unfold firstW
                rw [HF0.out]
                simp only
                rw [if_neg (by rw [HN.out]; omega), if_pos (.inr (.inr hmax))]
              have e58 : ((c : Int) != 58) = false := by simp [h58]
              have ho : 57 < c := by omega
              clear h0 h58 hout
              go_wp2_with fail
              go_ret3
              exact ⟨none, 0, 0, by rw [HF.out]; rfl, by rw [HF.out]; rfl, by rw [HF.out]; exact fun _ _ => Rd.zero _ _ _, 0, rfl⟩
            · obtain ⟨t, ht⟩ : ∃ t : Nat, s = (t : Int) := ⟨s.toNat, by omega⟩
              have e58 : ((c : Int) != 58) = false := by simp [h58]
              have ho : 57 < c := by omega
              have hpre : Hid (firstW bs = if n ≤ k + 1 + t then (0, 0, []) else if bs.getD (k + 1 + t) 0 ≠ 10 then (2, k + 1 + t, []) else (1, k + 1 + t + 1, (bs.drop (k + 1)).take t)) := by
                show _ = _
                have htt : s.toNat = t := by omega
                unfold firstW
                rw [HF0.out]
                simp only
                rw [if_neg (by rw [HN.out]; omega), if_neg (by rw [hgk.out]; rintro (h | h | h); exact h0 h; exact h h58; exact hmax h), htt, HN.out]
              have h0' : 1 ≤ k := by omega
              have HT := Lib.hid ht
              clear h0 h58 hout HS2 HSC HF0
              subst ht
              by_cases hw : n ≤ k + 1 + t
              · have HF : Hid (firstW bs = (0, 0, [])) := by
                  show _ = _
                  rw [hpre.out, if_pos hw]
                go_wp2_with fail
                go_ret3
                exact ⟨none, 0, 0, by rw [HF.out]; rfl, by rw [HF.out]; rfl, by rw [HF.out]; exact fun _ _ => Rd.zero _ _ _, 0, rfl⟩
              · obtain ⟨d, hdd⟩ : ∃ d, bs[k + 1 + t]'(by rw [HN.out]; omega) = d := ⟨_, rfl⟩
                have hcd := HCELL.out (k + 1 + t) (by rw [HN.out]; omega)
                rw [hdd] at hcd
                have hg : Hid (bs.getD (k + 1 + t) 0 = d) := by
                  show _ = _
                  rw [List.getD_eq_getElem?_getD, List.getElem?_eq_getElem (by rw [HN.out]; omega), hdd]
                  rfl
                clear hdd
                by_cases h10 : d = 10
                · have HF : Hid (firstW bs = (1, k + 1 + t + 1, (bs.drop (k + 1)).take t)) := by
                    show _ = _
                    rw [hpre.out, if_neg hw, hg.out, if_neg (by simp [h10])]
                  have e10 : ((d : Int) != 10) = false := by simp [h10]
                  clear h10
                  go_wp2_with fail
                  have x1 : IntKind.i64.wrap ((k : Int) + 1 + (t : Int)) = ((k + 1 + t : Nat) : Int) := by rw [IntWalk.i64_in _ (by omega)]; omega
                  have x2 : IntKind.i64.wrap (((k + 1 + t : Nat) : Int) + 1) = ((k + 1 + t + 1 : Nat) : Int) := by rw [IntWalk.i64_in _ (by omega)]; omega
                  have hsl : ∀ w, (Instr.slice 22 (.slice (some ⟨b, off, none⟩) n cap) (some (.int .i64 ((k : Int) + 1))) (some (.int .i64 ((k + 1 + t : Nat) : Int))) none).run Try.prog w = .ok (.slice (cutA (some ⟨b, off, none⟩) cap (k + 1) 1) (k + 1 + t - (k + 1)) (cap - (k + 1))) w :=
                    fun w => run_cut_lh w 22 5 1 Try.underlying22 size5 _ n cap (k + 1) (k + 1 + t) (by omega) (by omega)
                  go_quiet (fail)
                  go_wp2_with fail
                  go_ret3
                  have e1 : k + 1 + t - (k + 1) = t := by omega
                  have e2 : ((List.map u8v bs).drop ((k + 1) * 1)).take (t * 1) = ((bs.drop (k + 1)).take t).map u8v := by simp
                  refine ⟨some ⟨b, off + (k + 1), none⟩, k + 1 + t - (k + 1), cap - (k + 1), by rw [HF.out]; rfl, ?_, ?_, nq, rfl⟩
                  · rw [HF.out, e1]
                    simp
                    rw [HN.out]
                    omega
                  · rw [HF.out, e1]
                    intro W hW
                    have hcut := hW.cut (lo := k + 1) (hi := k + 1 + t) (by omega) (by omega)
                    rw [e1, e2] at hcut
                    simpa [Addr.add] using hcut
                · have HF : Hid (firstW bs = (2, k + 1 + t, [])) := by
                    show _ = _
                    rw [hpre.out, if_neg hw, hg.out, if_pos h10]
                  have e10 : ((d : Int) != 10) = true := by simpa using h10
                  clear h10
                  go_wp2_with fail
                  go_ret3
                  exact ⟨none, 0, 0, by rw [HF.out]; rfl, by rw [HF.out]; rfl, by rw [HF.out]; exact fun _ _ => Rd.zero _ _ _, 0, rfl⟩
          · have HF : Hid (firstW bs = (2, k, [])) := by
              show _ = _
              unfold firstW
              rw [HF0.out]
              simp only
              rw [if_neg (by rw [HN.out]; omega), if_pos (.inr (.inl (by rw [hgk.out]; exact h58)))]
            have e58 : ((c : Int) != 58) = true := by simpa using h58
            clear h0 h58
            rcases hout with ho | ho
            all_goals
              go_wp2_with fail
              go_ret3
              exact ⟨none, 0, 0, by rw [HF.out]; rfl, by rw [HF.out]; rfl, by rw [HF.out]; exact fun _ _ => Rd.zero _ _ _, 0, rfl⟩
    · have hkn : k = n := by omega
      have HF : Hid (firstW bs = (0, 0, [])) := by
        show _ = _
        have e : scanW bs 0 0 = (false, s, k) := by rw [HSC.out, List.drop_of_length_le (by rw [HN.out]; omega), scanW]
        unfold firstW
        rw [e]
        simp only
        rw [if_pos (by rw [HN.out]; exact hkn)]
      clear HSC
      subst hkn
      go_wp2_with fail
      go_ret3
      exact ⟨none, 0, 0, by rw [HF.out]; rfl, by rw [HF.out]; rfl, by rw [HF.out]; exact fun _ _ => Rd.zero _ _ _, 0, rfl⟩
end Go.Proofs.Ytcjednmenbdmnaa
