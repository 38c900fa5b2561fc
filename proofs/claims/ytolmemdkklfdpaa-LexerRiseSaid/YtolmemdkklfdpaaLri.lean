import Derived.Test.YtolmemdkklfdpaaLfi
namespace Go.Proofs.Ytolmemdkklfdpaa
open Go.RowKit Go.Mem Go.Lxr

theorem rises_at {l : Bs} : ∀ {fs : List FPair} {i : Nat} {x : FPair}, Rises 0 l fs → fs[i]? = some x → (∃ c, l[x.2]? = some c ∧ stopB c = false) ∧ ∀ j y, j < i → fs[j]? = some y → y.2 < x.2
  | [], i, x, _, h => by simp at h
  | z :: fs, 0, x, h, e => by
    simp at e
    subst e
    exact ⟨h.2.1, fun j y hj _ => absurd hj (by omega)⟩
  | z :: fs, i + 1, x, h, e => by
    have e : fs[i]? = some x := by simpa using e
    obtain ⟨h1, h2⟩ := rises_at h.2.2.2 e
    refine ⟨h1, fun j y hj hy => ?_⟩
    cases j with
    | zero =>
      simp at hy
      subst hy
      exact h.2.2.1 x (List.mem_of_getElem? e)
    | succ j => exact h2 j y (by omega) (by simpa using hy)
theorem byte_at {s : ByteArray} {k : Nat} {c : UInt8} (h : s.data.toList[k]? = some c) : ∃ hk : k < s.size, s[k] = c := by
  obtain ⟨h1, h2⟩ := List.getElem?_eq_some_iff.1 h
  have hk : k < s.size := by rw [bytes_len] at h1; exact h1
  exact ⟨hk, h2⟩
theorem stop_facts {c : UInt8} (h : stopB c = false) : ((c.toNat : Int) == 32) = false ∧ ((c.toNat : Int) == 35) = false ∧ ((c.toNat : Int) < 9 ∨ (9 ≤ (c.toNat : Int) ∧ 13 < (c.toNat : Int))) := by
  obtain ⟨h1, h2⟩ := stop_no h
  refine ⟨?_, u8_ne (k := 35) h1 (by decide), ?_⟩
  · refine u8_ne (k := 32) ?_ (by decide)
    rintro rfl
    revert h2
    decide
  · unfold whiteB at h2
    simp only [Bool.or_eq_false_iff, Bool.and_eq_false_iff] at h2
    rcases h2.2 with h3 | h3
    · have := of_decide_eq_false h3
      exact .inl (by omega)
    · have := of_decide_eq_false h3
      exact .inr ⟨by omega, by omega⟩
set_option maxHeartbeats 1600000 in
theorem rise_bad (s : ByteArray) (w : World) (hz : s.size ≤ 1000) (k : Nat) (hO : fieldsO s.data.toList = ([], (k : Int), 9)) (hk : k < s.size) (hc : s[k] = 34) : Calls Try.prog 7 #[.string s] w fun e w' => e = .returned (.bool true) ∧ Fr w w' (fun _ => False) := by
  have HA := Lib.hid (fun w => Fields_any s w (by omega))
  rw [hO] at HA
  have i0 : (0 : Int) ≤ (k : Int) := by omega
  have i1 : (k : Int) < (s.size : Int) := by omega
  have i2 : decide (k < s.size) = true := decide_eq_true hk
  have e1 : ((s[k].toNat : Int) == 34) = true := by rw [hc]; rfl
  clear hO hc
  go_enter Try.func7, Try.ntmps7
  go_wp2_with fail
  refine (HA.out w).mono ?_
  rintro e w2 ⟨A2, c2, rfl, hr2, hf2⟩
  have HF2 := Lib.hid hf2
  clear hf2 hr2
  go_wp2_with fail
  refine (alive_any _).mono ?_
  rintro e w6 ⟨rfl, hf6⟩
  have HF6 := Lib.hid (ff HF2.out hf6)
  clear hf6
  go_wp2_with fail
  go_ret
  exact ⟨rfl, HF6.out⟩
set_option maxHeartbeats 1600000 in
theorem rise_ok (s : ByteArray) (w : World) (hz : s.size ≤ 1000) (fs : List FPair) (k : Int) (hO : fieldsO s.data.toList = (fs, 0, k)) (hk : (k == 9) = false) (hr : Rises 0 s.data.toList fs) : Calls Try.prog 7 #[.string s] w fun e w' => e = .returned (.bool true) ∧ Fr w w' (fun _ => False) := by
  have HA := Lib.hid (fun w => Fields_any s w (by omega))
  have hfl := fieldsO_len s.data.toList
  rw [hO] at HA hfl
  have hfl : fs.length ≤ 200 := hfl
  have HR := Lib.hid (fun i x => rises_at (i := i) (x := x) hr)
  clear hO hr
  go_enter Try.func7, Try.ntmps7
  go_wp2_with fail
  refine (HA.out w).mono ?_
  rintro e w2 ⟨A2, c2, rfl, hr2, hf2⟩
  have HF2 := Lib.hid hf2
  have HR2 := Lib.hid hr2
  have HAL := Lib.hid (alive_any w2)
  clear hf2 hr2
  go_wp2_with fail
  go_loopg [6, 7] fs.length (fun g v6 _ wr => wr = w2 ∧ ∃ i : Nat, i + g = fs.length ∧ v6 = .int .i64 (i : Int))
  case atStart => exact ⟨rfl, 0, by omega, rfl⟩
  case round =>
    obtain ⟨rfl, i, hi, rfl⟩ := hrel
    by_cases hlt : i < fs.length
    · obtain ⟨b, off, x, rfl, hx, c0, c1⟩ := HR2.out.at_ (k := i) hlt
      obtain ⟨⟨c, hc, hst⟩, hprev⟩ := HR.out i x hx
      obtain ⟨hk, hc⟩ := byte_at hc
      obtain ⟨e32, e35, e9⟩ := stop_facts hst
      rw [← hc] at e32 e35 e9
      obtain ⟨⟨t, q⟩, rfl⟩ : ∃ y : FPair, y = x := ⟨x, rfl⟩
      simp only at c0 c1 hk e32 e35 e9 hprev
      have i0 : (0 : Int) ≤ (i : Int) := by omega
      have i1 : (i : Int) < (fs.length : Int) := by omega
      have g0 : decide ((q : Int) < 0) = false := decide_eq_false (by omega)
      have g1 : decide (s.size ≤ q) = false := decide_eq_false (by omega)
      have g2 : (q : Int) < (s.size : Int) := by omega
      have g3 : (0 : Int) ≤ (q : Int) := by omega
      have HPR := Lib.hid hprev
      clear hx hc hst hprev c0
      rcases Nat.eq_zero_or_pos i with h0 | h0
      · subst h0
        rcases e9 with e9 | ⟨e9, e13⟩
        · go_wp2_with fail
          go_roundg (fs.length - 1)
          case measure => omega
          case rel => exact ⟨rfl, 1, by omega, by go_num⟩
        · go_wp2_with fail
          go_roundg (fs.length - 1)
          case measure => omega
          case rel => exact ⟨rfl, 1, by omega, by go_num⟩
      · obtain ⟨j, rfl⟩ : ∃ j, i = j + 1 := ⟨i - 1, by omega⟩
        obtain ⟨b', off', y, e, hy, d0, d1⟩ := HR2.out.at_ (k := j) (by omega)
        injection e with e
        injection e with e1 e2
        subst e1 e2
        have hlt2 := HPR.out j y (by omega) hy
        obtain ⟨⟨t2, q2⟩, rfl⟩ : ∃ z : FPair, z = y := ⟨y, rfl⟩
        simp only at d0 d1 hlt2
        have g4 : decide (q ≤ q2) = false := decide_eq_false (by omega)
        have g5 : decide ((0 : Int) < ((j + 1 : Nat) : Int)) = true := decide_eq_true (by omega)
        have g6 : (((j + 1 : Nat) : Int) - 1) = (j : Int) := by omega
        clear hy d0
        rcases e9 with e9 | ⟨e9, e13⟩
        · go_wp2_with fail
          go_roundg (fs.length - (j + 2))
          case measure => omega
          case rel => exact ⟨rfl, j + 2, by omega, by go_num⟩
        · go_wp2_with fail
          go_roundg (fs.length - (j + 2))
          case measure => omega
          case rel => exact ⟨rfl, j + 2, by omega, by go_num⟩
    · go_wp2_with fail
      refine HAL.out.mono ?_
      rintro e w6 ⟨rfl, hf6⟩
      have HF6 := Lib.hid (ff HF2.out hf6)
      clear hf6
      go_wp2_with fail
      go_ret
      exact ⟨rfl, HF6.out⟩
end Go.Proofs.Ytolmemdkklfdpaa
