import Derived.Test.YtognobpgagaamaaDoorRnm
namespace Go.Proofs.YtognobpgagaamaaDoor
open Go.RowKit Go.Mem Go.Kwd

theorem rule_split (c : UInt8) : ruleB c = (letterB c || (digitB c || ((c.toNat : Int) == 45 || (c.toNat : Int) == 95))) := by
  obtain ⟨-, -, h1, h2⟩ := bools_of c
  rw [h1, h2, ruleB]
  cases letterB c <;> cases digitB c <;> cases (c == 45) <;> cases (c == 95) <;> rfl
theorem zone_bits (b : Bool) (c : UInt8) : zoneB b c = (letterB c || (digitB c || ((c.toNat : Int) == 43 || ((c.toNat : Int) == 95 || ((c.toNat : Int) == 45 && !b))))) := by
  obtain ⟨-, h3, h1, h2⟩ := bools_of c
  rw [h1, h2, h3, zoneB]
  cases letterB c <;> cases digitB c <;> cases (c == 43) <;> cases (c == 95) <;> cases (c == 45) <;> cases b <;> rfl
set_option maxHeartbeats 1000000 in
theorem rRule_any (l : Bs) (w : World) (hl : l.length ≤ 1000000) (x : Bool) (hx : ruleD l = x) : Calls Tryd.prog 25 #[strV l] w fun e w' => e = .returned (.bool x) ∧ w = w' := by
  have hsz := str_size l
  obtain ⟨s, hs⟩ : ∃ s : ByteArray, s = ⟨l.toArray⟩ := ⟨_, rfl⟩
  rw [← hs] at hsz
  have hsl : s.data.toList = l := by rw [hs]
  rw [show strV l = .string s by rw [hs]]
  by_cases h0 : s.size = 0
  · have hf : x = false := by
      rw [← hx, ← hsl, (emp_of h0).2]
      rfl
    subst hf
    have h0' : (s.size : Int) < 1 := by omega
    clear hx hs hsz hsl h0
    go_enter Tryd.func25, Tryd.ntmps25
    go_wp2_with fail
    go_ret
    exact ⟨rfl, rfl⟩
  · by_cases h30 : l.length ≤ 30
    · have hpos : 0 < s.size := by omega
      have h1 : (1 : Int) ≤ (s.size : Int) := by omega
      have h2 : (s.size : Int) ≤ 30 := by omega
      have HX := Lib.hid (conR_iff s hpos)
      have hxx : ruleM s.data.toList = x := by
        rw [← hx, hsl, ruleD, decide_eq_true h30]
        cases l with
        | nil => rfl
        | cons c r => simp
      rw [hxx] at HX
      have HL := Lib.hid (rletter_any s[0] w)
      have HF := Lib.hid (show firstB s[0] = (letterB s[0] || (s[0].toNat : Int) == 95) by unfold firstB; rw [eq_byte]; rfl)
      clear hx hxx hs hsz hsl h0 h30 hl
      generalize ha : letterB s[0] = a at HL HF
      have HFA := Lib.hid ha
      clear ha
      cases hb : (a || (s[0].toNat : Int) == 95) with
      | false =>
        have hf : x = false := by
          rw [Bool.eq_false_iff]
          intro e
          have := (HX.out.1 e).1
          rw [HF.out, hb] at this
          cases this
        subst hf
        simp only [Bool.or_eq_false_iff] at hb
        obtain ⟨rfl, hb⟩ := hb
        have hb2 : ((s[0].toNat : Int) != 95) = true := by unfold bne; rw [hb]; rfl
        go_enter Tryd.func25, Tryd.ntmps25
        go_wp2_with (go_at_call 39; refine HL.out.mono ?_; rintro e w2 ⟨rfl, rfl⟩)
        go_ret
        exact ⟨rfl, rfl⟩
      | true =>
        have HFT := Lib.hid (show firstB s[0] = true by rw [HF.out, hb])
        clear HF HFA
        have hcase : (a = true) ∨ (a = false ∧ ((s[0].toNat : Int) != 95) = false) := by
          cases a
          · right
            refine ⟨rfl, ?_⟩
            unfold bne
            rw [show ((s[0].toNat : Int) == 95) = true by simpa using hb]
            rfl
          · exact .inl rfl
        clear hb
        rcases hcase with rfl | ⟨rfl, hb⟩
        · go_enter Tryd.func25, Tryd.ntmps25
          go_wp2_with (go_at_call 39; refine HL.out.mono ?_; rintro e w2 ⟨rfl, rfl⟩)
          clear HL
          go_loopg [3] s.size (fun g v3 wr => ∃ k : Nat, k ≤ s.size ∧ 1 ≤ k ∧ k + g = s.size + 1 ∧ v3 = .int .i64 (k : Int) ∧ (∀ j (h : j < s.size), j < k → ruleB s[j] = true) ∧ w = wr)
          case atStart => exact ⟨1, by omega, by omega, by omega, rfl, fun j h hj => (by have e : j = 0 := (by omega); subst e; exact first_rule _ HFT.out), rfl⟩
          case round =>
            obtain ⟨k, hk0, hk1, hk, rfl, hall, rfl⟩ := hrel
            have HA := Lib.hid hall
            clear hall
            by_cases hlt : k < s.size
            · have i0 : (0 : Int) ≤ (k : Int) := by omega
              have i1 : (k : Int) < (s.size : Int) := by omega
              have HL := Lib.hid (rletter_any s[k] w)
              have HD := Lib.hid (rdigit_any s[k] w)
              have HR := Lib.hid (rule_split s[k])
              have HBAD := Lib.hid (show ruleB s[k] = false → x = false from fun hb => by
                rw [Bool.eq_false_iff]
                intro e
                have := (HX.out.1 e).2 k hlt
                rw [hb] at this
                cases this)
              generalize letterB s[k] = a at HL HR
              generalize digitB s[k] = d at HD HR
              obtain ⟨y, hy⟩ : ∃ y, ruleB s[k] = y := ⟨_, rfl⟩
              rw [hy] at HR HBAD
              have HY := Lib.hid hy
              clear hy
              obtain ⟨p, hp⟩ : ∃ p, ((s[k].toNat : Int) == 45) = p := ⟨_, rfl⟩
              obtain ⟨q, hq⟩ : ∃ q, ((s[k].toNat : Int) == 95) = q := ⟨_, rfl⟩
              rw [hp, hq] at HR
              have hp2 : ((s[k].toNat : Int) != 45) = !p := by unfold bne; rw [hp]
              have hq2 : ((s[k].toNat : Int) != 95) = !q := by unfold bne; rw [hq]
              have hcs : (y = true ∧ (a = true ∨ (a = false ∧ d = true) ∨ (a = false ∧ d = false ∧ p = true) ∨ (a = false ∧ d = false ∧ p = false ∧ q = true))) ∨ (y = false ∧ a = false ∧ d = false ∧ p = false ∧ q = false) := by
                have := HR.out
                revert this
                cases a <;> cases d <;> cases p <;> cases q <;> simp
              rcases hcs with ⟨rfl, hcs⟩ | ⟨rfl, rfl, rfl, rfl, rfl⟩
              · rcases hcs with rfl | ⟨rfl, rfl⟩ | ⟨rfl, rfl, rfl⟩ | ⟨rfl, rfl, rfl, rfl⟩
                all_goals
                  try simp only [Bool.not_true, Bool.not_false] at hp2 hq2
                  go_wp2_with (first | (go_at_call 39; refine HL.out.mono ?_; rintro e w2 ⟨rfl, rfl⟩) | (go_at_call 40; refine HD.out.mono ?_; rintro e w2 ⟨rfl, rfl⟩))
                  go_roundg (s.size - k)
                  case measure => omega
                  case rel => exact ⟨k + 1, by omega, by omega, by omega, by go_num, fun j h hj => (by
                    by_cases e : j = k
                    · subst e; exact HY.out
                    · exact HA.out j h (by omega)), rfl⟩
              · have hf := HBAD.out rfl
                subst hf
                simp only [Bool.not_false] at hp2 hq2
                go_wp2_with (first | (go_at_call 39; refine HL.out.mono ?_; rintro e w2 ⟨rfl, rfl⟩) | (go_at_call 40; refine HD.out.mono ?_; rintro e w2 ⟨rfl, rfl⟩))
                go_ret
                exact ⟨rfl, rfl⟩
            · have hf : x = true := HX.out.2 ⟨HFT.out, fun j h => HA.out j h (by omega)⟩
              subst hf
              have hk' : k = s.size := by omega
              subst hk'
              go_wp2_with fail
              go_ret
              exact ⟨rfl, rfl⟩
        · go_enter Tryd.func25, Tryd.ntmps25
          go_wp2_with (go_at_call 39; refine HL.out.mono ?_; rintro e w2 ⟨rfl, rfl⟩)
          clear HL
          go_loopg [3] s.size (fun g v3 wr => ∃ k : Nat, k ≤ s.size ∧ 1 ≤ k ∧ k + g = s.size + 1 ∧ v3 = .int .i64 (k : Int) ∧ (∀ j (h : j < s.size), j < k → ruleB s[j] = true) ∧ w = wr)
          case atStart => exact ⟨1, by omega, by omega, by omega, rfl, fun j h hj => (by have e : j = 0 := (by omega); subst e; exact first_rule _ HFT.out), rfl⟩
          case round =>
            obtain ⟨k, hk0, hk1, hk, rfl, hall, rfl⟩ := hrel
            have HA := Lib.hid hall
            clear hall
            by_cases hlt : k < s.size
            · have i0 : (0 : Int) ≤ (k : Int) := by omega
              have i1 : (k : Int) < (s.size : Int) := by omega
              have HL := Lib.hid (rletter_any s[k] w)
              have HD := Lib.hid (rdigit_any s[k] w)
              have HR := Lib.hid (rule_split s[k])
              have HBAD := Lib.hid (show ruleB s[k] = false → x = false from fun hb => by
                rw [Bool.eq_false_iff]
                intro e
                have := (HX.out.1 e).2 k hlt
                rw [hb] at this
                cases this)
              generalize letterB s[k] = a at HL HR
              generalize digitB s[k] = d at HD HR
              obtain ⟨y, hy⟩ : ∃ y, ruleB s[k] = y := ⟨_, rfl⟩
              rw [hy] at HR HBAD
              have HY := Lib.hid hy
              clear hy
              obtain ⟨p, hp⟩ : ∃ p, ((s[k].toNat : Int) == 45) = p := ⟨_, rfl⟩
              obtain ⟨q, hq⟩ : ∃ q, ((s[k].toNat : Int) == 95) = q := ⟨_, rfl⟩
              rw [hp, hq] at HR
              have hp2 : ((s[k].toNat : Int) != 45) = !p := by unfold bne; rw [hp]
              have hq2 : ((s[k].toNat : Int) != 95) = !q := by unfold bne; rw [hq]
              have hcs : (y = true ∧ (a = true ∨ (a = false ∧ d = true) ∨ (a = false ∧ d = false ∧ p = true) ∨ (a = false ∧ d = false ∧ p = false ∧ q = true))) ∨ (y = false ∧ a = false ∧ d = false ∧ p = false ∧ q = false) := by
                have := HR.out
                revert this
                cases a <;> cases d <;> cases p <;> cases q <;> simp
              rcases hcs with ⟨rfl, hcs⟩ | ⟨rfl, rfl, rfl, rfl, rfl⟩
              · rcases hcs with rfl | ⟨rfl, rfl⟩ | ⟨rfl, rfl, rfl⟩ | ⟨rfl, rfl, rfl, rfl⟩
                all_goals
                  try simp only [Bool.not_true, Bool.not_false] at hp2 hq2
                  go_wp2_with (first | (go_at_call 39; refine HL.out.mono ?_; rintro e w2 ⟨rfl, rfl⟩) | (go_at_call 40; refine HD.out.mono ?_; rintro e w2 ⟨rfl, rfl⟩))
                  go_roundg (s.size - k)
                  case measure => omega
                  case rel => exact ⟨k + 1, by omega, by omega, by omega, by go_num, fun j h hj => (by
                    by_cases e : j = k
                    · subst e; exact HY.out
                    · exact HA.out j h (by omega)), rfl⟩
              · have hf := HBAD.out rfl
                subst hf
                simp only [Bool.not_false] at hp2 hq2
                go_wp2_with (first | (go_at_call 39; refine HL.out.mono ?_; rintro e w2 ⟨rfl, rfl⟩) | (go_at_call 40; refine HD.out.mono ?_; rintro e w2 ⟨rfl, rfl⟩))
                go_ret
                exact ⟨rfl, rfl⟩
            · have hf : x = true := HX.out.2 ⟨HFT.out, fun j h => HA.out j h (by omega)⟩
              subst hf
              have hk' : k = s.size := by omega
              subst hk'
              go_wp2_with fail
              go_ret
              exact ⟨rfl, rfl⟩
    · have hf : x = false := by
        rw [← hx, ruleD, decide_eq_false h30]
        simp
      subst hf
      have h1 : (1 : Int) ≤ (s.size : Int) := by omega
      have h' : (30 : Int) < (s.size : Int) := by omega
      clear hx hs hsz hsl h0 h30
      go_enter Tryd.func25, Tryd.ntmps25
      go_wp2_with fail
      go_ret
      exact ⟨rfl, rfl⟩
theorem zone_cons (b : Bool) (c : UInt8) (r : Bs) : zoneM b (c :: r) = if c = 47 then !b && zoneM true r else zoneB b c && zoneM false r := rfl
set_option maxHeartbeats 1000000 in
theorem rZone_any (l : Bs) (w : World) (hl : l.length ≤ 1000000) (x : Bool) (hx : zoneD l = x) : Calls Tryd.prog 23 #[strV l] w fun e w' => e = .returned (.bool x) ∧ w = w' := by
  have hsz := str_size l
  obtain ⟨s, hs⟩ : ∃ s : ByteArray, s = ⟨l.toArray⟩ := ⟨_, rfl⟩
  rw [← hs] at hsz
  have hsl : s.data.toList = l := by rw [hs]
  rw [show strV l = .string s by rw [hs]]
  by_cases h0 : s.size = 0
  · have hf : x = false := by
      rw [← hx, ← hsl, (emp_of h0).2]
      rfl
    subst hf
    have h0' : (s.size : Int) < 1 := by omega
    clear hx hs hsz hsl h0
    go_enter Tryd.func23, Tryd.ntmps23
    go_wp2_with fail
    go_ret
    exact ⟨rfl, rfl⟩
  · by_cases h30 : l.length ≤ 30
    · have hpos : 0 < s.size := by omega
      have h1 : (1 : Int) ≤ (s.size : Int) := by omega
      have h2 : (s.size : Int) ≤ 30 := by omega
      have hxx : zoneM true s.data.toList = x := by
        rw [← hx, hsl, zoneD, decide_eq_true h30, decide_eq_true (by omega)]
        simp
      have HX := Lib.hid hxx
      clear hx hxx hs hsz hsl h0 h30 hl
      go_enter Tryd.func23, Tryd.ntmps23
      go_wp2_with fail
      go_loopg [3, 4, 5] s.size (fun g v3 v4 _ wr => ∃ (k : Nat) (b : Bool), k + g = s.size ∧ v4 = .int .i64 (k : Int) ∧ v3 = .bool b ∧ zoneM b (s.data.toList.drop k) = x ∧ w = wr)
      case atStart => exact ⟨0, true, by omega, rfl, rfl, HX.out, rfl⟩
      case round =>
        obtain ⟨k, b, hk, rfl, rfl, hz, rfl⟩ := hrel
        by_cases hlt : k < s.size
        · have i0 : (0 : Int) ≤ (k : Int) := by omega
          have i1 : (k : Int) < (s.size : Int) := by omega
          rw [List.drop_eq_getElem_cons (by rw [bytes_len]; exact hlt), show s.data.toList[k]'(by rw [bytes_len]; exact hlt) = s[k] from rfl, zone_cons] at hz
          by_cases h47 : s[k] = 47
          · have e47 : ((s[k].toNat : Int) == 47) = true := by rw [h47]; rfl
            rw [if_pos h47] at hz
            have HZ := Lib.hid hz
            clear hz h47
            cases b
            · go_wp2_with fail
              go_roundg (s.size - (k + 1))
              case measure => omega
              case rel => exact ⟨k + 1, true, by omega, by go_num, rfl, by have := HZ.out; simpa using this, rfl⟩
            · have hf : x = false := by have := HZ.out; simpa using this.symm
              subst hf
              go_wp2_with fail
              go_ret
              exact ⟨rfl, rfl⟩
          · have e47 : ((s[k].toNat : Int) == 47) = false := toNat_ne (k := 47) h47 rfl
            rw [if_neg h47] at hz
            have HL := Lib.hid (rletter_any s[k] w)
            have HD := Lib.hid (rdigit_any s[k] w)
            have HR := Lib.hid (zone_bits b s[k])
            generalize letterB s[k] = a at HL HR
            generalize digitB s[k] = d at HD HR
            obtain ⟨y, hy⟩ : ∃ y, zoneB b s[k] = y := ⟨_, rfl⟩
            rw [hy] at HR hz
            have HZ := Lib.hid hz
            clear hy hz h47
            obtain ⟨p, hp⟩ : ∃ p, ((s[k].toNat : Int) == 45) = p := ⟨_, rfl⟩
            obtain ⟨q, hq⟩ : ∃ q, ((s[k].toNat : Int) == 95) = q := ⟨_, rfl⟩
            obtain ⟨r, hr⟩ : ∃ r, ((s[k].toNat : Int) == 43) = r := ⟨_, rfl⟩
            rw [hp, hq, hr] at HR
            have hp2 : ((s[k].toNat : Int) != 45) = !p := by unfold bne; rw [hp]
            have hq2 : ((s[k].toNat : Int) != 95) = !q := by unfold bne; rw [hq]
            have hr2 : ((s[k].toNat : Int) != 43) = !r := by unfold bne; rw [hr]
            have hcs : (y = true ∧ (a = true ∨ (a = false ∧ d = true) ∨ (a = false ∧ d = false ∧ r = true) ∨ (a = false ∧ d = false ∧ r = false ∧ q = true) ∨ (a = false ∧ d = false ∧ r = false ∧ q = false ∧ p = true ∧ b = false))) ∨
                (y = false ∧ a = false ∧ d = false ∧ r = false ∧ q = false ∧ (p = false ∨ (p = true ∧ b = true))) := by
              have := HR.out
              revert this
              cases a <;> cases d <;> cases r <;> cases q <;> cases p <;> cases b <;> simp
            clear HR
            rcases hcs with ⟨rfl, hcs⟩ | ⟨rfl, rfl, rfl, rfl, rfl, hcs⟩
            · have HZ := Lib.hid (show zoneM false (s.data.toList.drop (k + 1)) = x by have := HZ.out; simpa using this)
              rcases hcs with rfl | ⟨rfl, rfl⟩ | ⟨rfl, rfl, rfl⟩ | ⟨rfl, rfl, rfl, rfl⟩ | ⟨rfl, rfl, rfl, rfl, rfl, rfl⟩
              all_goals
                try simp only [Bool.not_true, Bool.not_false] at hp2 hq2 hr2
                go_wp2_with (first | (go_at_call 39; refine HL.out.mono ?_; rintro e w2 ⟨rfl, rfl⟩) | (go_at_call 40; refine HD.out.mono ?_; rintro e w2 ⟨rfl, rfl⟩))
                go_roundg (s.size - (k + 1))
                case measure => omega
                case rel => exact ⟨k + 1, false, by omega, by go_num, rfl, HZ.out, rfl⟩
            · have hf : x = false := by have := HZ.out; simpa using this.symm
              subst hf
              rcases hcs with rfl | ⟨rfl, rfl⟩
              all_goals
                try simp only [Bool.not_true, Bool.not_false] at hp2 hq2 hr2
                go_wp2_with (first | (go_at_call 39; refine HL.out.mono ?_; rintro e w2 ⟨rfl, rfl⟩) | (go_at_call 40; refine HD.out.mono ?_; rintro e w2 ⟨rfl, rfl⟩))
                go_ret
                exact ⟨rfl, rfl⟩
        · have hk' : k = s.size := by omega
          subst hk'
          rw [List.drop_eq_nil_of_le (by rw [bytes_len]; omega)] at hz
          have hf : (!b) = x := hz
          subst hf
          go_wp2_with fail
          go_ret
          exact ⟨rfl, rfl⟩
    · have hf : x = false := by
        rw [← hx, zoneD, decide_eq_false h30]
        simp
      subst hf
      have h1 : (1 : Int) ≤ (s.size : Int) := by omega
      have h' : (30 : Int) < (s.size : Int) := by omega
      clear hx hs hsz hsl h0 h30
      go_enter Tryd.func23, Tryd.ntmps23
      go_wp2_with fail
      go_ret
      exact ⟨rfl, rfl⟩
end Go.Proofs.YtognobpgagaamaaDoor
