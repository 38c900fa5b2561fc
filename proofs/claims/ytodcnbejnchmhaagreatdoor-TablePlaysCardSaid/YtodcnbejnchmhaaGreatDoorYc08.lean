namespace Go.Rope
abbrev Bs := List UInt8

/-- how many line Qah -/
def Qah (l : Bs) : Nat := l.count 10
/-- how many bytes up to the k-th line feed,with it -/
def Qak : Bs → Nat → Nat
 | _,0 => 0
 | [],_ + 1 => 0
 | c :: r,k + 1 => if c = 10 then Qak r k + 1 else Qak r (k + 1) + 1
/-- how many bytes are ahead of a line's end -/
def Qbj (l : Bs) (i : Nat) : Nat := if i = Qah l then l.length else Qak l (i + 1) - 1
def Qas : Bs → List Bs
 | [] => [[]]
 | c :: r => if c = 10 then [] :: Qas r else match Qas r with
  | [] => [[c]]
  | x :: xs => (c :: x) :: xs
/-- from a on,below b -/
def cut (l : Bs) (a b : Nat) : Bs := (l.take b).drop a

theorem QjV : Qah [] = 0 := rfl
theorem QbP (a b : Bs) : Qah (a ++ b) = Qah a + Qah b := List.count_append
theorem Qa8 (r : Bs) : Qah (10 :: r) = Qah r + 1 := by simp [Qah]
theorem QbE {c : UInt8} (h : c ≠ 10) (r : Bs) : Qah (c :: r) = Qah r := by simp [Qah,h]
theorem QbM (l : Bs) : Qah l ≤ l.length := List.count_le_length

theorem Qa6 (l : Bs) : Qak l 0 = 0 := by cases l <;> rfl
theorem QlE {a : Bs} : ∀ {k : Nat} (b : Bs),k ≤ Qah a → Qak (a ++ b) k = Qak a k := by
 induction a with
 | nil =>
  intro k b h;have hk : k = 0 := by simpa [Qah] using h
  rw [hk];simp [Qa6]
 | cons c r ih =>
  intro k b h;cases k with
  | zero => simp [Qa6]
  | succ k =>
   by_cases hc : c = 10
   ·subst hc;rw [Qa8] at h;simp only [List.cons_append,Qak,if_true];rw [ih b (by omega)]
   ·rw [QbE hc] at h;simp only [List.cons_append,Qak,if_neg hc];rw [ih b h]
theorem Qf7 {a : Bs} : ∀ {k : Nat} (b : Bs),Qah a < k → Qak (a ++ b) k = a.length + Qak b (k - Qah a) := by
 induction a with
 | nil => intro k b h; simp [Qah]
 | cons c r ih =>
  intro k b h;cases k with
  | zero => omega
  | succ k =>
   by_cases hc : c = 10
   ·subst hc;rw [Qa8] at h ⊢;simp only [List.cons_append,Qak,if_true,List.length_cons];rw [ih b (by omega),show k + 1 - (Qah r + 1) = k - Qah r by omega];omega
   ·rw [QbE hc] at h ⊢;simp only [List.cons_append,Qak,if_neg hc,List.length_cons];rw [ih b h];omega
theorem Qb5 (l : Bs) : ∀ k,Qak l k ≤ l.length := by
 induction l with
 | nil => intro k; cases k <;> simp [Qak]
 | cons c r ih =>
  intro k;cases k with
  | zero => simp [Qak]
  | succ k =>
   simp only [Qak,List.length_cons];split
   ·have := ih k; omega
   ·have := ih (k + 1); omega
/-- a line's begin and its end -/
theorem Qcp {l : Bs} : ∀ {k : Nat},k < Qah l → Qak l k < Qak l (k + 1) ∧ l[Qak l (k + 1) - 1]? = some 10 := by
 induction l with
 | nil => intro k h; simp [Qah] at h
 | cons c r ih =>
  intro k h;by_cases hc : c = 10
  ·subst hc;rw [Qa8] at h;cases k with
   | zero => simp [Qak,Qa6]
   | succ k =>
    obtain ⟨h1,h2⟩ := ih (k := k) (by omega);simp only [Qak,if_true];refine ⟨by omega,?_⟩;rw [show Qak r (k + 1) + 1 - 1 = (Qak r (k + 1) - 1) + 1 by omega];simpa using h2
  ·rw [QbE hc] at h;obtain ⟨h1,h2⟩ := ih (k := k) h;cases k with
   | zero =>
    simp only [Qak,if_neg hc];refine ⟨by omega,?_⟩;rw [Qa6] at h1;rw [show Qak r (0 + 1) + 1 - 1 = (Qak r (0 + 1) - 1) + 1 by omega];simpa using h2
   | succ k =>
    simp only [Qak,if_neg hc];refine ⟨by omega,?_⟩;rw [show Qak r (k + 1 + 1) + 1 - 1 = (Qak r (k + 1 + 1) - 1) + 1 by omega];simpa using h2
/-- Qah ahead of a place in line k -/
theorem Qib {l : Bs} : ∀ {k n : Nat},k ≤ Qah l → Qak l k ≤ n → (k < Qah l → n < Qak l (k + 1)) → Qah (l.take n) = k := by
 induction l with
 | nil => intro k n h _ _; simp [Qah] at h ⊢; omega
 | cons c r ih =>
  intro k n h1 h2 h3;cases n with
  | zero =>
   cases k with
   | zero => simp [Qah]
   | succ k =>
    simp only [Qak] at h2;split at h2 <;> omega
  | succ n =>
   rw [List.take_succ_cons];by_cases hc : c = 10
   ·subst hc;rw [Qa8] at h1 h3 ⊢;cases k with
    | zero =>
     have := h3 (by omega);simp [Qak,Qa6] at this
    | succ k =>
     simp only [Qak,if_true] at h2 h3;rw [ih (k := k) (by omega) (by omega) (fun h => by have := h3 (by omega); omega)]
   ·rw [QbE hc] at h1 h3 ⊢;refine ih h1 ?_ ?_
    ·cases k with
     | zero => simp [Qa6]
     | succ k => simp only [Qak,if_neg hc] at h2; omega
    ·intro h;have := h3 h;simp only [Qak,if_neg hc] at this;omega
theorem QiO (l : Bs) (n : Nat) : Qah (l.take n) ≤ Qah l := by
 have := QbP (l.take n) (l.drop n);rw [List.take_append_drop] at this;omega
theorem QeG (l : Bs) (i : Nat) : Qbj l i ≤ l.length := by
 unfold Qbj;split
 ·exact Nat.le_refl _
 ·have := Qb5 l (i + 1); omega
theorem QfB {l : Bs} {i : Nat} (h : i ≤ Qah l) : Qak l i ≤ Qbj l i := by
 unfold Qbj;split
 ·exact Qb5 l i
 ·have := (Qcp (l := l) (k := i) (by omega)).1; omega
/-- the place of an offset in its line -/
theorem Qey {l : Bs} {i n : Nat} (h : i ≤ Qah l) (h1 : Qak l i ≤ n) (h2 : n ≤ Qbj l i) : Qah (l.take n) = i := by
 refine Qib h h1 fun hlt => ?_;unfold Qbj at h2;rw [if_neg (by omega)] at h2;have := (Qcp hlt).1;omega
/-! lines -/
theorem QdR (l : Bs) : Qas l ≠ [] := by
 cases l with
 | nil => simp [Qas]
 | cons c r =>
  unfold Qas;split
  ·simp
  ·split <;> simp
theorem Qb3 (l : Bs) : (Qas l).length = Qah l + 1 := by
 induction l with
 | nil => rfl
 | cons c r ih =>
  by_cases hc : c = 10
  ·subst hc; rw [Qa8]; simp [Qas,ih]
  ·rw [QbE hc];unfold Qas;rw [if_neg hc];split
   ·rename_i h; exact absurd h (QdR r)
   ·rename_i h; rw [h] at ih; simpa using ih
/-- a line without a feed -/
theorem Qhd {x : Bs} (h : Qah x = 0) : Qas x = [x] := by
 induction x with
 | nil => rfl
 | cons c r ih =>
  by_cases hc : c = 10
  ·subst hc; rw [Qa8] at h; omega
  ·rw [QbE hc] at h;unfold Qas;rw [if_neg hc,ih h]
theorem QjG {x : Bs} (h : Qah x = 0) (r : Bs) : Qas (x ++ 10 :: r) = x :: Qas r := by
 induction x with
 | nil => simp [Qas]
 | cons c y ih =>
  by_cases hc : c = 10
  ·subst hc; rw [Qa8] at h; omega
  ·rw [QbE hc] at h;rw [List.cons_append]
   conv => lhs; unfold Qas
   rw [if_neg hc,ih h]
theorem Qde (l : Bs) (a b : Nat) : cut l a b = (l.drop a).take (b - a) := by
 unfold cut;rw [List.drop_take]
theorem Qbw {l : Bs} {a b : Nat} (h1 : a ≤ b) (h2 : b ≤ l.length) : (cut l a b).length = b - a := by
 unfold cut;rw [List.length_drop,List.length_take];omega
/-- a line is what stands between its begin and its end -/
theorem Qk9 {l : Bs} : ∀ {i : Nat},i ≤ Qah l → (Qas l)[i]? = some (cut l (Qak l i) (Qbj l i)) := by
 induction l with
 | nil =>
  intro i h;have hk : i = 0 := by simpa [Qah] using h
  rw [hk];rfl
 | cons c r ih =>
  intro i h;by_cases hc : c = 10
  ·subst hc;rw [Qa8] at h;cases i with
   | zero => simp [Qas,Qak,Qbj,Qa8,Qa6,cut]
   | succ i =>
    have := ih (i := i) (by omega);have he : Qbj (10 :: r) (i + 1) = Qbj r i + 1 := by
     unfold Qbj;rw [Qa8];by_cases e : i = Qah r
     ·rw [if_pos (by omega),if_pos e,List.length_cons]
     ·rw [if_neg (by omega),if_neg e];simp only [Qak,if_true];have := (Qcp (l := r) (k := i) (by omega)).1;omega
    simp only [Qas,if_true,List.getElem?_cons_succ,Qak];rw [this,he,cut,cut,List.take_succ_cons,List.drop_succ_cons]
  ·rw [QbE hc] at h;have hx := ih (i := i) h;have he : Qbj (c :: r) i = Qbj r i + 1 := by
    unfold Qbj;rw [QbE hc];by_cases e : i = Qah r
    ·rw [if_pos e,if_pos e,List.length_cons]
    ·rw [if_neg e,if_neg e];simp only [Qak,if_neg hc];have := (Qcp (l := r) (k := i) (by omega)).1;omega
   unfold Qas;rw [if_neg hc];split
   ·rename_i e; exact absurd e (QdR r)
   ·rename_i x xs e;rw [e] at hx;rw [he];cases i with
    | zero =>
     simp [Qa6,cut] at hx ⊢;exact hx
    | succ i =>
     simp only [List.getElem?_cons_succ,Qak,if_neg hc] at hx ⊢;rw [hx,cut,cut,List.take_succ_cons,List.drop_succ_cons]
/-- lengths ahead of a line -/
theorem QpI {l : Bs} {i : Nat} (h : i < Qah l) : Qak l (i + 1) = Qak l i + ((Qas l)[i]?.getD []).length + 1 := by
 rw [Qk9 (by omega)];have h1 := (Qcp h).1;have h2 := Qb5 l (i + 1);have he : Qbj l i = Qak l (i + 1) - 1 := by unfold Qbj; rw [if_neg (by omega)]
 simp only [Option.getD_some];rw [Qbw (by omega) (by omega),he];omega
theorem cut_join {l : Bs} {a b c : Nat} (h1 : a ≤ b) (h2 : b ≤ c) : cut l a b ++ cut l b c = cut l a c := by
 unfold cut;have h := List.take_append_drop b ((l.take c));rw [List.take_take,Nat.min_eq_left h2] at h
 conv => rhs; rw [← h]
 by_cases hb : a ≤ (l.take b).length
 ·rw [List.drop_append_of_le_length hb]
 ·rw [List.drop_append,List.drop_eq_nil_of_le (by omega)];have hl : l.length < a := by rw [List.length_take] at hb; omega
  have h0 : List.drop b (List.take c l) = [] := List.drop_eq_nil_of_le (by rw [List.length_take]; omega);rw [h0];simp
theorem Qlw (l : Bs) : cut l 0 l.length = l := by simp [cut]
theorem cut_app {a b : Bs} {from_ to : Nat} (h1 : from_ ≤ a.length) (h2 : a.length ≤ to) : cut (a ++ b) from_ to = cut a from_ a.length ++ cut b 0 (to - a.length) := by
 unfold cut;rw [List.take_append,List.take_of_length_le h2,List.drop_append_of_le_length h1];simp
theorem cut_left {a b : Bs} {from_ to : Nat} (h2 : to ≤ a.length) : cut (a ++ b) from_ to = cut a from_ to := by
 unfold cut;rw [List.take_append_of_le_length h2]
theorem Qqa {a b : Bs} {from_ to : Nat} (h1 : a.length ≤ from_) : cut (a ++ b) from_ to = cut b (from_ - a.length) (to - a.length) := by
 unfold cut;rw [List.take_append,List.drop_append,List.drop_eq_nil_of_le (by rw [List.length_take]; omega),List.length_take];by_cases h : a.length ≤ to
 ·rw [Nat.min_eq_right h]; simp
 ·rw [show to - a.length = 0 by omega]; simp

/-- how few bytes a height may have -/
def Qc9 : Nat → Nat
 | 0 => 1
 | 1 => 1
 | n + 2 => Qc9 n + Qc9 (n + 1)
theorem QfS : ∀ {a b : Nat},a ≤ b → Qc9 a ≤ Qc9 b := by
 have step : ∀ n,Qc9 n ≤ Qc9 (n + 1) := by
  intro n;cases n with
  | zero => decide
  | succ n => show Qc9 (n + 1) ≤ Qc9 n + Qc9 (n + 1); omega
 intro a b h
 induction h with
 | refl => exact Nat.le_refl _
 | step _ ih => exact Nat.le_trans ih (step _)
/-- a node's height from its halves' -/
theorem QnI {ha hb a b : Nat} (h1 : 1 ≤ ha) (h2 : 1 ≤ hb) (h3 : ha ≤ hb + 1) (h4 : hb ≤ ha + 1) (h5 : Qc9 ha ≤ a) (h6 : Qc9 hb ≤ b) : Qc9 (1 + max ha hb) ≤ a + b := by
 rcases Nat.lt_or_ge ha hb with h | h
 ·obtain rfl : hb = ha + 1 := by omega
  rw [Nat.max_eq_right (by omega),show 1 + (ha + 1) = ha + 2 by omega];show Qc9 ha + Qc9 (ha + 1) ≤ _;omega
 ·rw [Nat.max_eq_left h];rcases Nat.eq_or_lt_of_le h with e | h'
  ·subst e;obtain ⟨n,rfl⟩ : ∃ n,hb = n + 1 := ⟨hb - 1,by omega⟩;rw [show 1 + (n + 1) = n + 2 by omega];show Qc9 n + Qc9 (n + 1) ≤ _;have := QfS (show n ≤ n + 1 by omega);omega
  ·obtain rfl : ha = hb + 1 := by omega
   rw [show 1 + (hb + 1) = hb + 2 by omega];show Qc9 hb + Qc9 (hb + 1) ≤ _;omega
end Go.Rope
