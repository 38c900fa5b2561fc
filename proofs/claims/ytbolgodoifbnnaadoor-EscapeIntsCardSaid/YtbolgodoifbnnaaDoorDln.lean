import Derived.Test.YtbolgodoifbnnaaDoorDlo
namespace Go.Proofs.YtbolgodoifbnnaaDoor
open Go.RowKit Go.Mem Go.Esc Go.Sort

theorem enc_bytes (c : UInt8) : (enc c).all (fun x => 32 ≤ x.toNat && x.toNat ≤ 126) = true := by
  revert c
  refine byte_all ?_
  decide +kernel
theorem quote_bytes (s : Bs) : ∀ x ∈ quoteL s, 32 ≤ x.toNat ∧ x.toNat ≤ 126 := by
  intro x hx
  simp only [quoteL, List.mem_cons, List.mem_append, List.mem_flatMap, List.not_mem_nil, or_false] at hx
  rcases hx with rfl | ⟨c, -, hc⟩ | rfl
  · decide
  · have := List.all_eq_true.1 (enc_bytes c) x hc
    simpa using this
  · decide
theorem cut_front (s : ByteArray) (a : Nat) (l : Bs) (h : s.data.toList.take a = l) : s.extract 0 a = ⟨l.toArray⟩ := by
  have := extract_str s 0 a
  rw [Nat.zero_add, List.drop_zero, h] at this
  exact this
/-- nothing is asked of a world between a cut and a call -/
def Keep0 (w : World) : Prop := w = w
theorem keep0 (w : World) : Keep0 w := rfl
set_option maxHeartbeats 1000000 in
theorem one_walk (s : ByteArray) (W : World) (hz : s.size ≤ maxLen) (hg : GOk W.heap.size W) :
    Calls Tryd.prog 5 #[.string s] W fun e w' => e = .returned (.bool true) ∧ Fr W w' (fun _ => False) := by
  unfold maxLen at hz
  by_cases h1 : 500 < s.size
  · clear hg
    go_enter Tryd.func5, Tryd.ntmps5
    go_wp2_with fail
    refine (alive_any W).mono ?_
    rintro e w2 ⟨rfl, hf2⟩
    have HF2 := Lib.hid hf2
    clear hf2
    go_wp2_with fail
    go_ret
    exact ⟨rfl, HF2.out⟩
  · have h1' : s.size ≤ 500 := by omega
    obtain ⟨l, hl⟩ : ∃ l, s.data.toList = l := ⟨_, rfl⟩
    have hll : l.length = s.size := by rw [← hl, bytes_len]
    have HP := ParseInt_any W.heap.size l W (by omega) (Nat.le_refl _) hg
    rw [← hl, ← strV_of] at HP
    have HP := Lib.hid HP
    have HU := Lib.hid (fun W => Unquote_any s W (by omega))
    have HQ := Lib.hid (fun W => Quote_any s W (by omega))
    rw [hl] at HU HQ
    rw [hl] at HP
    have HB := Lib.hid (quote_bytes l)
    have hql := quote_len l
    obtain ⟨t, htq⟩ : ∃ t : ByteArray, t.data.toList = quoteL l := ⟨⟨(quoteL l).toArray⟩, by simp⟩
    have hqt : strV (quoteL l) = .string t := by rw [← htq]
    have hts : t.size = (quoteL l).length := by rw [← bytes_len, htq]
    rw [hqt] at HQ
    have hbt : Hid (∀ k (h : k < t.size), 32 ≤ t[k].toNat ∧ t[k].toNat ≤ 126) := Lib.hid fun k h => HB.out t[k] (by rw [← htq]; exact List.getElem_mem (by rw [bytes_len]; exact h))
    have hts2 : t.size ≤ 2002 := by omega
    -- the number's part
    obtain ⟨n, k, hpn⟩ : ∃ n k, parsed l = (n, k) := ⟨_, _, rfl⟩
    rw [hpn] at HP
    have HNum : Hid ((k == 0) = false ∨ ((k == 0) = true ∧ ∀ w, Fr W w (fun _ => False) → Calls Tryd.prog 10 #[.int .i64 n] w fun e w' => e = .returned (.string s) ∧ Fr w w' (fun _ => False))) := by
      by_cases hk : k = 0
      · subst hk
        refine Lib.hid (.inr ⟨rfl, fun w hw => ?_⟩)
        have hi := itoa_parsed hpn
        have hr : inRange n := by
          unfold parsed at hpn
          split at hpn
          · split at hpn
            · rename_i h; simp at hpn; rw [hpn] at h; exact h
            · simp at hpn
          · simp at hpn
        have := Int_any W.heap.size n w hr hw.size (hg.fr (Nat.le_refl _) hw)
        rw [hi, ← hl, ← strV_of] at this
        exact this
      · exact Lib.hid (.inl (beq_eq_false_iff_ne.2 hk))
    -- the quoted part
    have HQuo : Hid (∃ (v : Bs) (a : Nat) (j : Int), (∀ w, Calls Tryd.prog 14 #[.string s] w fun e w' => e = .returned (.tuple #[strV v, .int .i64 (a : Int), .int .i64 j]) ∧ Fr w w' (fun _ => False)) ∧
        ((j == 0) = false ∨ ((j == 0) = true ∧ a ≤ s.size ∧ s.extract 0 a = ⟨(quoteL v).toArray⟩ ∧ ∀ w, Calls Tryd.prog 13 #[strV v] w fun e w' => e = .returned (strV (quoteL v)) ∧ Fr w w' (fun _ => False)))) := by
      rcases hq : quotedD l with j | ⟨v, r⟩
      · rw [hq] at HU
        refine Lib.hid ⟨[], 0, j, fun w => (HU.out w).mono fun e w' ⟨hf, he⟩ => ⟨he, hf⟩, .inl ?_⟩
        rcases quoted_kind hq with rfl | rfl <;> rfl
      · rw [hq] at HU
        have e1 := quoted_got l v r hq
        have e2 := congrArg List.length e1
        rw [List.length_append] at e2
        refine Lib.hid ⟨v, _, 0, fun w => (HU.out w).mono fun e w' ⟨hf, he⟩ => ⟨he, hf⟩, .inr ⟨rfl, by omega, ?_, fun w => ?_⟩⟩
        · have e3 : s.size - r.length = (quoteL v).length := by omega
          rw [e3]
          refine cut_front s _ _ ?_
          rw [hl, e1]
          simp
        · have := Quote_any ⟨v.toArray⟩ w (by
            have := encs_len v
            have e4 : (quoteL v).length = (v.flatMap enc).length + 2 := by simp only [quoteL, List.length_cons, List.length_append, List.length_nil]
            rw [size_str]
            omega)
          rw [list_str] at this
          exact this
    clear HU HB hql hqt hts htq hl hpn hg h1 hll
    obtain ⟨v, a, j, hu, hj⟩ := HQuo.out
    have HU := Lib.hid hu
    have hsum : ∀ w, Fr W w (fun _ => False) → Calls Tryd.prog 14 #[.string s] w fun e w' => e = .returned (.tuple #[strV v, .int .i64 (a : Int), .int .i64 j]) ∧ Fr W w' (fun _ => False) := fun w h => (HU.out w).mono fun e w' ⟨he, hf⟩ => ⟨he, ff h hf⟩
    clear HQuo hu hsum
    rcases HNum.out with hk | ⟨hk, hint⟩
    · clear HNum
      rcases hj with hj | ⟨hj, haz, hex, hquo⟩
      · go_enter Tryd.func5, Tryd.ntmps5
        go_wp2_with fail
        refine HP.out.mono ?_
        rintro e w2 ⟨rfl, hf2⟩
        have HF2 := Lib.hid hf2
        clear hf2
        have HFA := HF2
        go_wp2_with fail
        refine (HU.out _).mono ?_
        rintro e w3 ⟨rfl, hf3⟩
        have HF3 := Lib.hid (ff HFA.out hf3)
        clear hf3
        go_wp2_with fail
        go_quiet (fail)
        have HF4 := Lib.hid (fun n => ff HF3.out (Fr.drewN w3 n (fun _ => False)))
        go_wp2_with fail
        refine (HQ.out _).mono ?_
        rintro e w5 ⟨rfl, hf5⟩
        have HF5 := Lib.hid (ff (HF4.out _) hf5)
        clear hf5
        go_wp2_with fail
        go_loop [9] (fun v => ∃ k : Nat, k ≤ t.size ∧ v = .int .i64 (k : Int)) (fun v => t.size - (intOf v).toNat)
        case atStart => exact ⟨0, Nat.zero_le _, rfl⟩
        case round =>
          obtain ⟨k2, hk2, rfl⟩ := hrel
          by_cases hlt : k2 < t.size
          · obtain ⟨p1, p2⟩ := hbt.out k2 hlt
            have p1' : (32 : Int) ≤ (t[k2].toNat : Int) := by omega
            have p2' : (t[k2].toNat : Int) ≤ 126 := by omega
            clear p1 p2
            go_wp2_with fail
            go_round
            case rel => exact ⟨k2 + 1, by omega, by go_num⟩
            case measure => simp [intOf]; omega
          · go_wp2_with fail
            refine (alive_any _).mono ?_
            rintro e w6 ⟨rfl, hf6⟩
            have HF6 := Lib.hid (ff HF5.out hf6)
            clear hf6
            go_wp2_with fail
            go_ret
            exact ⟨rfl, HF6.out⟩
      · have HQV := Lib.hid hquo
        have ha0 : decide ((a : Int) < 0) = false := decide_eq_false (by omega)
        have ha0' : (0 : Int) ≤ (a : Int) := by omega
        have ha1 : decide (s.size < a) = false := decide_eq_false (by omega)
        have ha1' : (a : Int) ≤ (s.size : Int) := by omega
        have ex2 : (s.extract 0 a).toList = quoteL v := by rw [hex, Lib.toList_data]
        have HEX := Lib.hid hex
        generalize quoteL v = qv at HQV ex2 HEX
        have eqq : (qv == qv) = true := by simp
        clear hquo hex
        go_enter Tryd.func5, Tryd.ntmps5
        go_wp2_with fail
        refine HP.out.mono ?_
        rintro e w2 ⟨rfl, hf2⟩
        have HF2 := Lib.hid hf2
        clear hf2
        have HFA := HF2
        go_wp2_with fail
        refine (HU.out _).mono ?_
        rintro e w3 ⟨rfl, hf3⟩
        have HF3 := Lib.hid (ff HFA.out hf3)
        clear hf3
        go_wp2_with fail
        go_region_held3 (fun w' => Keep0 w') (exact keep0 _) ((go_at_call 13; refine (HQV.out _).mono ?_; rintro e w4 ⟨rfl, hf4⟩))
        all_goals
          have HF4 := Lib.hid (show Fr W w4 (fun _ => False) from ff (ff HF3.out (by first | exact Fr.refl _ _ | exact Fr.drew _ _ | exact Fr.drewN _ _ _)) hf4)
          clear hf4
          go_wp2_with fail
          refine (HQ.out _).mono ?_
          rintro e w5 ⟨rfl, hf5⟩
          have HF5 := Lib.hid (ff HF4.out hf5)
          clear hf5
          go_wp2_with fail
          go_loop [9] (fun v => ∃ k : Nat, k ≤ t.size ∧ v = .int .i64 (k : Int)) (fun v => t.size - (intOf v).toNat)
          case atStart => exact ⟨0, Nat.zero_le _, rfl⟩
          case round =>
            obtain ⟨k2, hk2, rfl⟩ := hrel
            by_cases hlt : k2 < t.size
            · obtain ⟨p1, p2⟩ := hbt.out k2 hlt
              have p1' : (32 : Int) ≤ (t[k2].toNat : Int) := by omega
              have p2' : (t[k2].toNat : Int) ≤ 126 := by omega
              clear p1 p2
              go_wp2_with fail
              go_round
              case rel => exact ⟨k2 + 1, by omega, by go_num⟩
              case measure => simp [intOf]; omega
            · go_wp2_with fail
              refine (alive_any _).mono ?_
              rintro e w6 ⟨rfl, hf6⟩
              have HF6 := Lib.hid (ff HF5.out hf6)
              clear hf6
              go_wp2_with fail
              go_ret
              exact ⟨rfl, HF6.out⟩
    · have HINT := Lib.hid hint
      clear HNum hint
      rcases hj with hj | ⟨hj, haz, hex, hquo⟩
      · have eqs : (s.toList == s.toList) = true := by simp
        go_enter Tryd.func5, Tryd.ntmps5
        go_wp2_with fail
        refine HP.out.mono ?_
        rintro e w2 ⟨rfl, hf2⟩
        have HF2 := Lib.hid hf2
        have HI := Lib.hid (HINT.out w2 hf2)
        clear hf2
        go_wp2_with fail
        refine HI.out.mono ?_
        rintro e wi ⟨rfl, hfi⟩
        have HFA := Lib.hid (ff HF2.out hfi)
        clear hfi
        go_wp2_with fail
        refine (HU.out _).mono ?_
        rintro e w3 ⟨rfl, hf3⟩
        have HF3 := Lib.hid (ff HFA.out hf3)
        clear hf3
        go_wp2_with fail
        go_quiet (fail)
        have HF4 := Lib.hid (fun n => ff HF3.out (Fr.drewN w3 n (fun _ => False)))
        go_wp2_with fail
        refine (HQ.out _).mono ?_
        rintro e w5 ⟨rfl, hf5⟩
        have HF5 := Lib.hid (ff (HF4.out _) hf5)
        clear hf5
        go_wp2_with fail
        go_loop [9] (fun v => ∃ k : Nat, k ≤ t.size ∧ v = .int .i64 (k : Int)) (fun v => t.size - (intOf v).toNat)
        case atStart => exact ⟨0, Nat.zero_le _, rfl⟩
        case round =>
          obtain ⟨k2, hk2, rfl⟩ := hrel
          by_cases hlt : k2 < t.size
          · obtain ⟨p1, p2⟩ := hbt.out k2 hlt
            have p1' : (32 : Int) ≤ (t[k2].toNat : Int) := by omega
            have p2' : (t[k2].toNat : Int) ≤ 126 := by omega
            clear p1 p2
            go_wp2_with fail
            go_round
            case rel => exact ⟨k2 + 1, by omega, by go_num⟩
            case measure => simp [intOf]; omega
          · go_wp2_with fail
            refine (alive_any _).mono ?_
            rintro e w6 ⟨rfl, hf6⟩
            have HF6 := Lib.hid (ff HF5.out hf6)
            clear hf6
            go_wp2_with fail
            go_ret
            exact ⟨rfl, HF6.out⟩
      · have eqs : (s.toList == s.toList) = true := by simp
        have HQV := Lib.hid hquo
        have ha0 : decide ((a : Int) < 0) = false := decide_eq_false (by omega)
        have ha0' : (0 : Int) ≤ (a : Int) := by omega
        have ha1 : decide (s.size < a) = false := decide_eq_false (by omega)
        have ha1' : (a : Int) ≤ (s.size : Int) := by omega
        have ex2 : (s.extract 0 a).toList = quoteL v := by rw [hex, Lib.toList_data]
        have HEX := Lib.hid hex
        generalize quoteL v = qv at HQV ex2 HEX
        have eqq : (qv == qv) = true := by simp
        clear hquo hex
        go_enter Tryd.func5, Tryd.ntmps5
        go_wp2_with fail
        refine HP.out.mono ?_
        rintro e w2 ⟨rfl, hf2⟩
        have HF2 := Lib.hid hf2
        have HI := Lib.hid (HINT.out w2 hf2)
        clear hf2
        go_wp2_with fail
        refine HI.out.mono ?_
        rintro e wi ⟨rfl, hfi⟩
        have HFA := Lib.hid (ff HF2.out hfi)
        clear hfi
        go_wp2_with fail
        refine (HU.out _).mono ?_
        rintro e w3 ⟨rfl, hf3⟩
        have HF3 := Lib.hid (ff HFA.out hf3)
        clear hf3
        go_wp2_with fail
        go_region_held3 (fun w' => Keep0 w') (exact keep0 _) ((go_at_call 13; refine (HQV.out _).mono ?_; rintro e w4 ⟨rfl, hf4⟩))
        all_goals
          have HF4 := Lib.hid (show Fr W w4 (fun _ => False) from ff (ff HF3.out (by first | exact Fr.refl _ _ | exact Fr.drew _ _ | exact Fr.drewN _ _ _)) hf4)
          clear hf4
          go_wp2_with fail
          refine (HQ.out _).mono ?_
          rintro e w5 ⟨rfl, hf5⟩
          have HF5 := Lib.hid (ff HF4.out hf5)
          clear hf5
          go_wp2_with fail
          go_loop [9] (fun v => ∃ k : Nat, k ≤ t.size ∧ v = .int .i64 (k : Int)) (fun v => t.size - (intOf v).toNat)
          case atStart => exact ⟨0, Nat.zero_le _, rfl⟩
          case round =>
            obtain ⟨k2, hk2, rfl⟩ := hrel
            by_cases hlt : k2 < t.size
            · obtain ⟨p1, p2⟩ := hbt.out k2 hlt
              have p1' : (32 : Int) ≤ (t[k2].toNat : Int) := by omega
              have p2' : (t[k2].toNat : Int) ≤ 126 := by omega
              clear p1 p2
              go_wp2_with fail
              go_round
              case rel => exact ⟨k2 + 1, by omega, by go_num⟩
              case measure => simp [intOf]; omega
            · go_wp2_with fail
              refine (alive_any _).mono ?_
              rintro e w6 ⟨rfl, hf6⟩
              have HF6 := Lib.hid (ff HF5.out hf6)
              clear hf6
              go_wp2_with fail
              go_ret
              exact ⟨rfl, HF6.out⟩
end Go.Proofs.YtbolgodoifbnnaaDoor
