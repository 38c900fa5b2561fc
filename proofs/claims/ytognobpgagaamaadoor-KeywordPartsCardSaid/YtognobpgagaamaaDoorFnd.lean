import Derived.Test.YtognobpgagaamaaDoorWrd
namespace Go.Proofs.YtognobpgagaamaaDoor
open Go.RowKit Go.Mem Go.Kwd

theorem emp_of {s : ByteArray} (h : s.size = 0) : s.toList.isEmpty = true ∧ s.data.toList = [] := by
  have h1 : s.data.toList = [] := List.length_eq_zero_iff.1 (by rw [bytes_len]; exact h)
  exact ⟨by rw [Lib.toList_data, h1]; rfl, h1⟩
theorem emp_not {s : ByteArray} (h : 0 < s.size) : s.toList.isEmpty = false ∧ s.data.toList ≠ [] := by
  have h1 : s.data.toList ≠ [] := fun e => by have := bytes_len s; rw [e] at this; simp at this; omega
  exact ⟨by rw [Lib.toList_data]; simpa using h1, h1⟩
theorem low_eq (a b : UInt8) (x : Bool) (h : decide (lowB a = lowB b) = x) : (((lowB a).toNat : Int) != ((lowB b).toNat : Int)) = !x := by
  rw [← h]
  unfold bne
  rw [← eq_byte]
  congr 1
/-- the word t begins with s, byte for byte -/
theorem begins_iff (t s : ByteArray) (h0 : 0 < s.size) : begD t.data.toList s.data.toList = true ↔ ∃ h1 : s.size ≤ t.size, ∀ j (h : j < s.size), lowB s[j] = lowB (t[j]'(by omega)) := by
  rw [beg_get, bytes_len, bytes_len]
  constructor
  · rintro ⟨-, h1, h2⟩
    exact ⟨h1, fun j h => h2 j _ _ (get_str rfl h) (get_str rfl (by omega))⟩
  · rintro ⟨h1, h2⟩
    refine ⟨(emp_not h0).2, h1, fun k c d hc hd => ?_⟩
    have hk : k < s.size := by rw [← bytes_len]; exact (List.getElem?_eq_some_iff.1 hc).1
    rw [get_str rfl hk] at hc
    rw [get_str rfl (by omega)] at hd
    obtain rfl := Option.some.inj hc
    obtain rfl := Option.some.inj hd
    exact h2 k hk
theorem quiet_small {f : FuncId} {args : Array Value} {W : World} {n : Nat} {v : Value} (h : Calls Tryd.prog f args (W.drewN n) fun e w' => e = .returned v ∧ W.drewN n = w') :
    Calls Tryd.prog f args (W.drewN n) fun e w' => e = .returned v ∧ ∃ m, w' = W.drewN m := h.mono fun _ _ h => ⟨h.1, n, h.2.symm⟩
theorem begins_any (t s : ByteArray) (w : World) (hs : s.size ≤ 1000000) (ht : t.size ≤ 1000000) (x : Bool) (hx : begD t.data.toList s.data.toList = x) :
    Calls Tryd.prog 43 #[.string t, .string s] w fun e w' => e = .returned (.bool x) ∧ ∃ n, w' = w.drewN n := by
  by_cases h0 : s.size = 0
  · obtain ⟨h1, h2⟩ := emp_of h0
    have hx : x = false := by rw [← hx, h2]; rfl
    subst hx
    clear h2
    go_enter Tryd.func43, Tryd.ntmps43
    go_wp2_with fail
    go_ret
    exact ⟨rfl, 0, rfl⟩
  · have hpos : 0 < s.size := by omega
    have he := (emp_not hpos).1
    have HB := Lib.hid (begins_iff t s hpos)
    rw [hx] at HB
    clear hx h0
    by_cases h1 : s.size ≤ t.size
    · have HS := Lib.hid (fun c W => small_any c W)
      go_enter Tryd.func43, Tryd.ntmps43
      go_wp2_with fail
      go_loopg [5, 17] s.size (fun g _ v17 wr => ∃ k : Nat, k + g = s.size ∧ v17 = .int .i64 (k : Int) ∧ (∀ j (h : j < s.size), j < k → lowB s[j] = lowB (t[j]'(by omega))) ∧ ∃ q, wr = w.drewN q)
      case atStart => exact ⟨0, by omega, rfl, fun j _ h => absurd h (by omega), 0, rfl⟩
      case round =>
        obtain ⟨k, hk, rfl, hall, q, hq⟩ := hrel
        have HA := Lib.hid hall
        have HQ := Lib.hid hq
        clear hall hq
        by_cases hlt : k < s.size
        · have hlt2 : k < t.size := by omega
          obtain ⟨y, hy⟩ : ∃ y, decide (lowB s[k] = lowB t[k]) = y := ⟨_, rfl⟩
          have hne := low_eq _ _ _ hy
          have HY := Lib.hid hy
          have HS1 := Lib.hid (fun n => quiet_small (HS.out s[k] (wr.drewN n)))
          have HS2 := Lib.hid (fun n => quiet_small (HS.out t[k] (wr.drewN n)))
          have i0 : (0 : Int) ≤ (k : Int) := by omega
          have i1 : (k : Int) < (s.size : Int) := by omega
          have i2 : (k : Int) < (t.size : Int) := by omega
          clear hy
          obtain ⟨a, ha⟩ : ∃ a : Int, a = ((lowB s[k]).toNat : Int) := ⟨_, rfl⟩
          obtain ⟨b, hb⟩ : ∃ b : Int, b = ((lowB t[k]).toNat : Int) := ⟨_, rfl⟩
          rw [← ha] at hne HS1
          rw [← hb] at hne HS2
          clear ha hb
          cases y with
          | true =>
            go_wp2_with fail
            go_quiet ((first | with_reducible exact HS1.out _ | with_reducible exact HS2.out _))
            go_wp2_with fail
            go_roundg (s.size - (k + 1))
            case measure => omega
            case rel => exact ⟨k + 1, by omega, by go_num, fun j h hj => by
              by_cases e : j = k
              · subst e; exact of_decide_eq_true HY.out
              · exact HA.out j h (by omega), _, by rw [HQ.out, World.drewN_drewN]⟩
          | false =>
            have hf : x = false := by
              rw [Bool.eq_false_iff]
              intro e
              obtain ⟨_, h2⟩ := HB.out.1 e
              exact of_decide_eq_false HY.out (h2 k hlt)
            subst hf
            go_wp2_with fail
            go_quiet ((first | with_reducible exact HS1.out _ | with_reducible exact HS2.out _))
            go_wp2_with fail
            go_ret
            exact ⟨rfl, _, by rw [HQ.out, World.drewN_drewN]⟩
        · have hf : x = true := HB.out.2 ⟨h1, fun j h => HA.out j h (by omega)⟩
          subst hf
          have hk' : k = s.size := by omega
          subst hk'
          go_wp2_with fail
          go_ret
          exact ⟨rfl, _, HQ.out⟩
    · have hf : x = false := by
        rw [Bool.eq_false_iff]
        intro e
        exact h1 (HB.out.1 e).1
      subst hf
      clear HB
      go_enter Tryd.func43, Tryd.ntmps43
      go_wp2_with fail
      go_ret
      exact ⟨rfl, 0, rfl⟩
end Go.Proofs.YtognobpgagaamaaDoor
