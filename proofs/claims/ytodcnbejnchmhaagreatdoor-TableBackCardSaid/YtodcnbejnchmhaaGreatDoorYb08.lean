namespace Go.Rope
abbrev Bs := List UInt8

/-- how many line feeds -/
def feeds (l : Bs) : Nat := l.count 10
/-- how many bytes up to the k-th line feed, with it -/
def behind : Bs → Nat → Nat
  | _, 0 => 0
  | [], _ + 1 => 0
  | c :: r, k + 1 => if c = 10 then behind r k + 1 else behind r (k + 1) + 1
/-- how many bytes are ahead of a line's end -/
def endOf (l : Bs) (i : Nat) : Nat := if i = feeds l then l.length else behind l (i + 1) - 1
def linesL : Bs → List Bs
  | [] => [[]]
  | c :: r => if c = 10 then [] :: linesL r else match linesL r with
    | [] => [[c]]
    | x :: xs => (c :: x) :: xs
/-- from a on, below b -/
def cut (l : Bs) (a b : Nat) : Bs := (l.take b).drop a

theorem feeds_nil : feeds [] = 0 := rfl
theorem feeds_app (a b : Bs) : feeds (a ++ b) = feeds a + feeds b := List.count_append
theorem feeds_cons10 (r : Bs) : feeds (10 :: r) = feeds r + 1 := by simp [feeds]
theorem feeds_cons {c : UInt8} (h : c ≠ 10) (r : Bs) : feeds (c :: r) = feeds r := by simp [feeds, h]
theorem feeds_le (l : Bs) : feeds l ≤ l.length := List.count_le_length

theorem behind_zero (l : Bs) : behind l 0 = 0 := by cases l <;> rfl
theorem behind_left {a : Bs} : ∀ {k : Nat} (b : Bs), k ≤ feeds a → behind (a ++ b) k = behind a k := by
  induction a with
  | nil => intro k b h; obtain rfl : k = 0 := by simp [feeds] at h; exact h
           simp [behind_zero]
  | cons c r ih =>
    intro k b h
    cases k with
    | zero => simp [behind_zero]
    | succ k =>
      by_cases hc : c = 10
      · subst hc
        rw [feeds_cons10] at h
        simp only [List.cons_append, behind, if_true]
        rw [ih b (by omega)]
      · rw [feeds_cons hc] at h
        simp only [List.cons_append, behind, if_neg hc]
        rw [ih b h]
theorem behind_right {a : Bs} : ∀ {k : Nat} (b : Bs), feeds a < k → behind (a ++ b) k = a.length + behind b (k - feeds a) := by
  induction a with
  | nil => intro k b h; simp [feeds]
  | cons c r ih =>
    intro k b h
    cases k with
    | zero => omega
    | succ k =>
      by_cases hc : c = 10
      · subst hc
        rw [feeds_cons10] at h ⊢
        simp only [List.cons_append, behind, if_true, List.length_cons]
        rw [ih b (by omega), show k + 1 - (feeds r + 1) = k - feeds r by omega]
        omega
      · rw [feeds_cons hc] at h ⊢
        simp only [List.cons_append, behind, if_neg hc, List.length_cons]
        rw [ih b h]
        omega
theorem behind_le (l : Bs) : ∀ k, behind l k ≤ l.length := by
  induction l with
  | nil => intro k; cases k <;> simp [behind]
  | cons c r ih =>
    intro k
    cases k with
    | zero => simp [behind]
    | succ k =>
      simp only [behind, List.length_cons]
      split
      · have := ih k; omega
      · have := ih (k + 1); omega
/-- a line's begin and its end -/
theorem behind_pos {l : Bs} : ∀ {k : Nat}, k < feeds l → behind l k < behind l (k + 1) ∧ l[behind l (k + 1) - 1]? = some 10 := by
  induction l with
  | nil => intro k h; simp [feeds] at h
  | cons c r ih =>
    intro k h
    by_cases hc : c = 10
    · subst hc
      rw [feeds_cons10] at h
      cases k with
      | zero => simp [behind, behind_zero]
      | succ k =>
        obtain ⟨h1, h2⟩ := ih (k := k) (by omega)
        simp only [behind, if_true]
        refine ⟨by omega, ?_⟩
        rw [show behind r (k + 1) + 1 - 1 = (behind r (k + 1) - 1) + 1 by omega]
        simpa using h2
    · rw [feeds_cons hc] at h
      obtain ⟨h1, h2⟩ := ih (k := k) h
      cases k with
      | zero =>
        simp only [behind, if_neg hc]
        refine ⟨by omega, ?_⟩
        rw [behind_zero] at h1
        rw [show behind r (0 + 1) + 1 - 1 = (behind r (0 + 1) - 1) + 1 by omega]
        simpa using h2
      | succ k =>
        simp only [behind, if_neg hc]
        refine ⟨by omega, ?_⟩
        rw [show behind r (k + 1 + 1) + 1 - 1 = (behind r (k + 1 + 1) - 1) + 1 by omega]
        simpa using h2
/-- feeds ahead of a place in line k -/
theorem feeds_take {l : Bs} : ∀ {k n : Nat}, k ≤ feeds l → behind l k ≤ n → (k < feeds l → n < behind l (k + 1)) → feeds (l.take n) = k := by
  induction l with
  | nil => intro k n h _ _; simp [feeds] at h ⊢; omega
  | cons c r ih =>
    intro k n h1 h2 h3
    cases n with
    | zero =>
      cases k with
      | zero => simp [feeds]
      | succ k =>
        simp only [behind] at h2
        split at h2 <;> omega
    | succ n =>
      rw [List.take_succ_cons]
      by_cases hc : c = 10
      · subst hc
        rw [feeds_cons10] at h1 h3 ⊢
        cases k with
        | zero =>
          have := h3 (by omega)
          simp [behind, behind_zero] at this
        | succ k =>
          simp only [behind, if_true] at h2 h3
          rw [ih (k := k) (by omega) (by omega) (fun h => by have := h3 (by omega); omega)]
      · rw [feeds_cons hc] at h1 h3 ⊢
        refine ih h1 ?_ ?_
        · cases k with
          | zero => simp [behind_zero]
          | succ k => simp only [behind, if_neg hc] at h2; omega
        · intro h
          have := h3 h
          simp only [behind, if_neg hc] at this
          omega
/-- a place stands in its line -/
theorem place_in (l : Bs) : ∀ n, n ≤ l.length → behind l (feeds (l.take n)) ≤ n ∧ (feeds (l.take n) < feeds l → n < behind l (feeds (l.take n) + 1)) := by
  induction l with
  | nil => intro n h; simp [feeds, behind]
  | cons c r ih =>
    intro n h
    cases n with
    | zero =>
      simp only [List.take_zero, feeds_nil, behind_zero, behind]
      refine ⟨by omega, fun _ => ?_⟩
      split <;> omega
    | succ n =>
      rw [List.take_succ_cons]
      simp only [List.length_cons] at h
      obtain ⟨h1, h2⟩ := ih n (by omega)
      by_cases hc : c = 10
      · subst hc
        rw [feeds_cons10, feeds_cons10]
        simp only [behind, if_true]
        exact ⟨by omega, fun h => by have := h2 (by omega); omega⟩
      · rw [feeds_cons hc, feeds_cons hc]
        constructor
        · cases hk : feeds (r.take n) with
          | zero => simp [behind_zero]
          | succ k => simp only [behind, if_neg hc]; rw [hk] at h1; omega
        · intro h
          simp only [behind, if_neg hc]
          have := h2 h
          omega

theorem feeds_take_le (l : Bs) (n : Nat) : feeds (l.take n) ≤ feeds l := by
  have := feeds_app (l.take n) (l.drop n)
  rw [List.take_append_drop] at this
  omega
theorem endOf_le (l : Bs) (i : Nat) : endOf l i ≤ l.length := by
  unfold endOf
  split
  · exact Nat.le_refl _
  · have := behind_le l (i + 1); omega
theorem begin_end {l : Bs} {i : Nat} (h : i ≤ feeds l) : behind l i ≤ endOf l i := by
  unfold endOf
  split
  · exact behind_le l i
  · have := (behind_pos (l := l) (k := i) (by omega)).1; omega
/-- the place of an offset in its line -/
theorem place_back {l : Bs} {i n : Nat} (h : i ≤ feeds l) (h1 : behind l i ≤ n) (h2 : n ≤ endOf l i) : feeds (l.take n) = i := by
  refine feeds_take h h1 fun hlt => ?_
  unfold endOf at h2
  rw [if_neg (by omega)] at h2
  have := (behind_pos hlt).1
  omega
theorem place_ends (l : Bs) (n : Nat) (h : n ≤ l.length) : behind l (feeds (l.take n)) ≤ n ∧ n ≤ endOf l (feeds (l.take n)) := by
  obtain ⟨h1, h2⟩ := place_in l n h
  refine ⟨h1, ?_⟩
  unfold endOf
  split
  · exact h
  · have := h2 (by have := feeds_take_le l n; omega); omega

/-! lines -/
theorem lines_ne (l : Bs) : linesL l ≠ [] := by
  cases l with
  | nil => simp [linesL]
  | cons c r =>
    unfold linesL
    split
    · simp
    · split <;> simp
theorem lines_len (l : Bs) : (linesL l).length = feeds l + 1 := by
  induction l with
  | nil => rfl
  | cons c r ih =>
    by_cases hc : c = 10
    · subst hc; rw [feeds_cons10]; simp [linesL, ih]
    · rw [feeds_cons hc]
      unfold linesL
      rw [if_neg hc]
      split
      · rename_i h; exact absurd h (lines_ne r)
      · rename_i h; rw [h] at ih; simpa using ih
/-- a line without a feed -/
theorem lines_one {x : Bs} (h : feeds x = 0) : linesL x = [x] := by
  induction x with
  | nil => rfl
  | cons c r ih =>
    by_cases hc : c = 10
    · subst hc; rw [feeds_cons10] at h; omega
    · rw [feeds_cons hc] at h
      unfold linesL
      rw [if_neg hc, ih h]
theorem lines_cut {x : Bs} (h : feeds x = 0) (r : Bs) : linesL (x ++ 10 :: r) = x :: linesL r := by
  induction x with
  | nil => simp [linesL]
  | cons c y ih =>
    by_cases hc : c = 10
    · subst hc; rw [feeds_cons10] at h; omega
    · rw [feeds_cons hc] at h
      rw [List.cons_append]
      conv => lhs; unfold linesL
      rw [if_neg hc, ih h]
theorem cut_eq (l : Bs) (a b : Nat) : cut l a b = (l.drop a).take (b - a) := by
  unfold cut
  rw [List.drop_take]
theorem cut_len {l : Bs} {a b : Nat} (h1 : a ≤ b) (h2 : b ≤ l.length) : (cut l a b).length = b - a := by
  unfold cut
  rw [List.length_drop, List.length_take]
  omega
/-- a line is what stands between its begin and its end -/
theorem line_at {l : Bs} : ∀ {i : Nat}, i ≤ feeds l → (linesL l)[i]? = some (cut l (behind l i) (endOf l i)) := by
  induction l with
  | nil => intro i h; obtain rfl : i = 0 := by simpa [feeds] using h
           rfl
  | cons c r ih =>
    intro i h
    by_cases hc : c = 10
    · subst hc
      rw [feeds_cons10] at h
      cases i with
      | zero => simp [linesL, behind, endOf, feeds_cons10, behind_zero, cut]
      | succ i =>
        have := ih (i := i) (by omega)
        have he : endOf (10 :: r) (i + 1) = endOf r i + 1 := by
          unfold endOf
          rw [feeds_cons10]
          by_cases e : i = feeds r
          · rw [if_pos (by omega), if_pos e, List.length_cons]
          · rw [if_neg (by omega), if_neg e]
            simp only [behind, if_true]
            have := (behind_pos (l := r) (k := i) (by omega)).1
            omega
        simp only [linesL, if_true, List.getElem?_cons_succ, behind]
        rw [this, he, cut, cut, List.take_succ_cons, List.drop_succ_cons]
    · rw [feeds_cons hc] at h
      have hx := ih (i := i) h
      have he : endOf (c :: r) i = endOf r i + 1 := by
        unfold endOf
        rw [feeds_cons hc]
        by_cases e : i = feeds r
        · rw [if_pos e, if_pos e, List.length_cons]
        · rw [if_neg e, if_neg e]
          simp only [behind, if_neg hc]
          have := (behind_pos (l := r) (k := i) (by omega)).1
          omega
      unfold linesL
      rw [if_neg hc]
      split
      · rename_i e; exact absurd e (lines_ne r)
      · rename_i x xs e
        rw [e] at hx
        rw [he]
        cases i with
        | zero =>
          simp [behind_zero, cut] at hx ⊢
          exact hx
        | succ i =>
          simp only [List.getElem?_cons_succ, behind, if_neg hc] at hx ⊢
          rw [hx, cut, cut, List.take_succ_cons, List.drop_succ_cons]
/-- lengths ahead of a line -/
theorem line_next {l : Bs} {i : Nat} (h : i < feeds l) : behind l (i + 1) = behind l i + ((linesL l)[i]?.getD []).length + 1 := by
  rw [line_at (by omega)]
  have h1 := (behind_pos h).1
  have h2 := behind_le l (i + 1)
  have he : endOf l i = behind l (i + 1) - 1 := by unfold endOf; rw [if_neg (by omega)]
  simp only [Option.getD_some]
  rw [cut_len (by omega) (by omega), he]
  omega
theorem cut_join {l : Bs} {a b c : Nat} (h1 : a ≤ b) (h2 : b ≤ c) : cut l a b ++ cut l b c = cut l a c := by
  unfold cut
  have h := List.take_append_drop b ((l.take c))
  rw [List.take_take, Nat.min_eq_left h2] at h
  conv => rhs; rw [← h]
  by_cases hb : a ≤ (l.take b).length
  · rw [List.drop_append_of_le_length hb]
  · rw [List.drop_append, List.drop_eq_nil_of_le (by omega)]
    have hl : l.length < a := by rw [List.length_take] at hb; omega
    have h0 : List.drop b (List.take c l) = [] := List.drop_eq_nil_of_le (by rw [List.length_take]; omega)
    rw [h0]
    simp
theorem cut_all (l : Bs) : cut l 0 l.length = l := by simp [cut]
theorem cut_app {a b : Bs} {from_ to : Nat} (h1 : from_ ≤ a.length) (h2 : a.length ≤ to) : cut (a ++ b) from_ to = cut a from_ a.length ++ cut b 0 (to - a.length) := by
  unfold cut
  rw [List.take_append, List.take_of_length_le h2, List.drop_append_of_le_length h1]
  simp
theorem cut_left {a b : Bs} {from_ to : Nat} (h2 : to ≤ a.length) : cut (a ++ b) from_ to = cut a from_ to := by
  unfold cut
  rw [List.take_append_of_le_length h2]
theorem cut_right {a b : Bs} {from_ to : Nat} (h1 : a.length ≤ from_) : cut (a ++ b) from_ to = cut b (from_ - a.length) (to - a.length) := by
  unfold cut
  rw [List.take_append, List.drop_append, List.drop_eq_nil_of_le (by rw [List.length_take]; omega), List.length_take]
  by_cases h : a.length ≤ to
  · rw [Nat.min_eq_right h]; simp
  · rw [show to - a.length = 0 by omega]; simp

/-- how few bytes a height may have -/
def least : Nat → Nat
  | 0 => 1
  | 1 => 1
  | n + 2 => least n + least (n + 1)
theorem least_mono : ∀ {a b : Nat}, a ≤ b → least a ≤ least b := by
  have step : ∀ n, least n ≤ least (n + 1) := by
    intro n
    cases n with
    | zero => decide
    | succ n => show least (n + 1) ≤ least n + least (n + 1); omega
  intro a b h
  induction h with
  | refl => exact Nat.le_refl _
  | step _ ih => exact Nat.le_trans ih (step _)
/-- a node's height from its halves' -/
theorem least_pair {ha hb a b : Nat} (h1 : 1 ≤ ha) (h2 : 1 ≤ hb) (h3 : ha ≤ hb + 1) (h4 : hb ≤ ha + 1) (h5 : least ha ≤ a) (h6 : least hb ≤ b) : least (1 + max ha hb) ≤ a + b := by
  rcases Nat.lt_or_ge ha hb with h | h
  · obtain rfl : hb = ha + 1 := by omega
    rw [Nat.max_eq_right (by omega), show 1 + (ha + 1) = ha + 2 by omega]
    show least ha + least (ha + 1) ≤ _
    omega
  · rw [Nat.max_eq_left h]
    rcases Nat.eq_or_lt_of_le h with e | h'
    · subst e
      obtain ⟨n, rfl⟩ : ∃ n, hb = n + 1 := ⟨hb - 1, by omega⟩
      rw [show 1 + (n + 1) = n + 2 by omega]
      show least n + least (n + 1) ≤ _
      have := least_mono (show n ≤ n + 1 by omega)
      omega
    · obtain rfl : ha = hb + 1 := by omega
      rw [show 1 + (hb + 1) = hb + 2 by omega]
      show least hb + least (hb + 1) ≤ _
      omega
end Go.Rope
