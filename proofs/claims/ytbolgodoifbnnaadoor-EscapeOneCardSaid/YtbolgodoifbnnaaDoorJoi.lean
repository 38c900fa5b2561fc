import Derived.Test.YtbolgodoifbnnaaDoorWrt
namespace Go.Proofs.YtbolgodoifbnnaaDoor
open Go.RowKit Go.Mem Go.Esc

theorem plain_all {s : ByteArray} : (∀ k (h : k < s.size), plainB s[k] = true) ↔ s.data.toList.all plainB = true := by
  rw [List.all_eq_true]
  constructor
  · intro h x hx
    obtain ⟨k, hk, e⟩ := List.getElem_of_mem hx
    rw [← e]
    exact h k (by rw [bytes_len] at hk; exact hk)
  · intro h k hk
    exact h _ (List.getElem_mem (by rw [bytes_len]; exact hk))
theorem mp_empty (s : ByteArray) (w : World) (h0 : s.data.toList = []) : Calls Tryd.prog 29 #[.string s] w fun e w' => e = .returned (.bool (mayPlain s.data.toList)) ∧ w = w' := by
  have hm : mayPlain s.data.toList = false := by rw [h0]; rfl
  rw [hm]
  obtain ⟨⟨l⟩⟩ := s
  have h0 : l = [] := h0
  subst h0
  go_enter Tryd.func29, Tryd.ntmps29
  go_wp2_with fail
  go_ret
  exact ⟨rfl, rfl⟩
theorem mp_some (s : ByteArray) (w : World) (h0 : 0 < s.size) (hz : s.size ≤ 999990) : Calls Tryd.prog 29 #[.string s] w fun e w' => e = .returned (.bool (mayPlain s.data.toList)) ∧ w = w' := by
  have hne : s.data.toList ≠ [] := fun e => by have := bytes_len s; rw [e] at this; simp at this; omega
  have hemp : s.toList.isEmpty = false := by rw [Lib.toList_data]; simpa using hne
  have hemp2 : s.data.toList.isEmpty = false := by simpa using hne
  have hhead : s.data.toList.head? = some s[0] := by
    rw [List.head?_eq_getElem?, List.getElem?_eq_getElem (by rw [bytes_len]; exact h0)]
    rfl
  obtain ⟨x, hx⟩ : ∃ x, mayPlain s.data.toList = x := ⟨_, rfl⟩
  rw [hx]
  by_cases h34 : s[0] = 34
  · have hm : x = false := by rw [← hx]; simp [mayPlain, hhead, h34]
    subst hm
    have h34' : ((s[0].toNat : Int) == 34) = true := by rw [h34]; rfl
    clear hne hhead h34 hx hemp2
    go_enter Tryd.func29, Tryd.ntmps29
    go_wp2_with fail
    go_ret
    exact ⟨rfl, rfl⟩
  · have h34' : ((s[0].toNat : Int) == 34) = false := toNat_ne (k := 34) h34 rfl
    have hm : x = s.data.toList.all plainB := by rw [← hx]; simp [mayPlain, hhead, h34, hemp2]
    have HX := Lib.hid hm
    clear hne hhead h34 hx hemp2 hm
    go_enter Tryd.func29, Tryd.ntmps29
    go_wp2_with fail
    go_loop [13] (fun v => ∃ k : Nat, k ≤ s.size ∧ v = .int .i64 k ∧ ∀ j (h : j < s.size), j < k → plainB s[j] = true) (fun v => s.size - (intOf v).toNat)
    case atStart => exact ⟨0, Nat.zero_le _, rfl, fun j _ h => absurd h (by omega)⟩
    case round =>
      obtain ⟨k, hk, rfl, hall⟩ := hrel
      have HA := Lib.hid hall
      clear hall
      by_cases hlt : k < s.size
      · have HI := Lib.hid (isPlain_any w s[k] _ rfl)
        obtain ⟨y, hy⟩ : ∃ y, plainB s[k] = y := ⟨_, rfl⟩
        rw [hy] at HI
        have HY := Lib.hid hy
        clear hy
        cases y
        · have hf : x = false := by
            rw [HX.out, Bool.eq_false_iff]
            intro e
            have := plain_all.2 e k hlt
            rw [HY.out] at this
            cases this
          subst hf
          go_wp2_with fail
          refine HI.out.mono ?_
          rintro e w' ⟨rfl, rfl⟩
          go_wp2_with fail
          go_ret
          exact ⟨rfl, rfl⟩
        · go_wp2_with fail
          refine HI.out.mono ?_
          rintro e w' ⟨rfl, rfl⟩
          go_wp2_with fail
          go_round
          case rel => exact ⟨k + 1, by omega, by go_num, fun j h hj => by
            by_cases e : j = k
            · subst e; exact HY.out
            · exact HA.out j h (by omega)⟩
          case measure => simp [intOf]; omega
      · have hf : x = true := by
          rw [HX.out]
          exact plain_all.1 fun j h => HA.out j h (by omega)
        subst hf
        go_wp2_with fail
        go_ret
        exact ⟨rfl, rfl⟩
theorem mp_any (s : ByteArray) (w : World) (hz : s.size ≤ 999990) : Calls Tryd.prog 29 #[.string s] w fun e w' => e = .returned (.bool (mayPlain s.data.toList)) ∧ w = w' := by
  by_cases h0 : 0 < s.size
  · exact mp_some s w h0 hz
  · exact mp_empty s w (List.length_eq_zero_iff.1 (by rw [bytes_len]; omega))

theorem word_len (x : Bs) : (wordL x).length ≤ 4 * x.length + 2 := by
  unfold wordL
  split
  · omega
  · exact quote_len x
theorem join_len (l : List Bs) (M : Nat) (h : ∀ x ∈ l, x.length ≤ M) : (joinL l).length ≤ l.length * (4 * M + 3) := by
  have : (sepL l).length ≤ l.length * (4 * M + 3) := by
    induction l with
    | nil => simp [sepL]
    | cons x l ih =>
      have e : sepL (x :: l) = 32 :: (wordL x ++ sepL l) := by simp [sepL]
      have h1 := word_len x
      have h2 := h x (by simp)
      have h3 := ih (fun y hy => h y (by simp [hy]))
      rw [e, List.length_cons, List.length_append, List.length_cons, Nat.add_mul]
      omega
  rw [joinL, List.length_drop]
  omega
theorem strV_of (s : ByteArray) : Value.string s = strV s.data.toList := by
  show Value.string s = .string ⟨s.data.toList.toArray⟩
  congr
theorem take_snoc' {α : Type} {ls : List α} {k : Nat} {x : α} (h : ls[k]? = some x) : ls.take (k + 1) = ls.take k ++ [x] := by
  obtain ⟨h1, h2⟩ := List.getElem?_eq_some_iff.1 h
  rw [List.take_succ_eq_append_getElem h1, h2]
/-- joining: the words so far -/
theorem join_next {ls : List Bs} {k : Nat} {x : Bs} (h : ls[k]? = some x) : joinL (ls.take (k + 1)) = if k = 0 then wordL x else joinL (ls.take k) ++ 32 :: wordL x := by
  rw [take_snoc' h, join_snoc]
  have : ls.take k = [] ↔ k = 0 := by
    obtain ⟨h1, -⟩ := List.getElem?_eq_some_iff.1 h
    rw [← List.length_eq_zero_iff, List.length_take]
    omega
  simp only [this]
end Go.Proofs.YtbolgodoifbnnaaDoor
