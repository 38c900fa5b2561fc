namespace Go.Lxr
abbrev Bs := List UInt8

def whiteB (c : UInt8) : Bool := c == 32 || (9 ≤ c.toNat && c.toNat ≤ 13)
/-- what ends a field -/
def stopB (c : UInt8) : Bool := whiteB c || c == 35
theorem stop_34 : stopB 34 = false := by decide
theorem stop_35 : stopB 35 = true := by decide
theorem stop_32 : stopB 32 = true := by decide
/-- the rest of a quoted part, and what is behind it -/
def quoteD : Bs → Option (Bs × Bs)
  | [] => none
  | c :: r => if c = 34 then some ([], r) else (quoteD r).map fun x => (c :: x.1, x.2)
theorem quote_is {r q r' : Bs} (h : quoteD r = some (q, r')) : r = q ++ 34 :: r' ∧ (34 : UInt8) ∉ q := by
  induction r generalizing q with
  | nil => cases h
  | cons c r ih =>
    unfold quoteD at h
    split at h
    · rename_i e
      injection h with h
      injection h with h1 h2
      subst h1 h2 e
      exact ⟨rfl, by simp⟩
    · rename_i e
      obtain ⟨x, hx, hq⟩ := Option.map_eq_some_iff.1 h
      injection hq with h1 h2
      subst h1 h2
      obtain ⟨g1, g2⟩ := ih hx
      refine ⟨by rw [List.cons_append, ← g1], ?_⟩
      intro hm
      rcases List.mem_cons.1 hm with e' | e'
      · exact e e'.symm
      · exact g2 e'
theorem quote_of {q : Bs} (h : (34 : UInt8) ∉ q) (r : Bs) : quoteD (q ++ 34 :: r) = some (q, r) := by
  induction q with
  | nil => simp [quoteD]
  | cons c q ih =>
    have hc : c ≠ 34 := fun e => h (by simp [e])
    rw [List.cons_append, quoteD, if_neg hc, ih (fun x => h (List.mem_cons_of_mem _ x))]
    rfl
theorem quote_none {r : Bs} : quoteD r = none ↔ (34 : UInt8) ∉ r := by
  induction r with
  | nil => simp [quoteD]
  | cons c r ih =>
    unfold quoteD
    by_cases e : c = 34
    · rw [if_pos e]; simp [e]
    · rw [if_neg e]
      have e' : ¬ 34 = c := fun x => e x.symm
      simp [ih, e']
theorem quote_lt {r q r' : Bs} (h : quoteD r = some (q, r')) : r'.length < r.length := by
  rw [(quote_is h).1]
  simp
  omega
/-- a field from a place on: its text, and what is left; or where a quoted part begins that has no end -/
def fieldD (p : Nat) (l : Bs) : Except Nat (Bs × Bs) :=
  match l with
  | [] => .ok ([], [])
  | c :: r => if stopB c = true then .ok ([], c :: r)
    else if c = 34 then match _h : quoteD r with
      | none => .error p
      | some (q, r') => (fieldD (p + q.length + 2) r').map fun x => (q ++ x.1, x.2)
    else (fieldD (p + 1) r).map fun x => (c :: x.1, x.2)
termination_by l.length
decreasing_by
  · have := quote_lt _h
    simp
    omega
  · simp
theorem field_nil (p : Nat) : fieldD p [] = .ok ([], []) := by rw [fieldD]
theorem field_stop {c : UInt8} (h : stopB c = true) (p : Nat) (r : Bs) : fieldD p (c :: r) = .ok ([], c :: r) := by rw [fieldD, if_pos h]
theorem field_none {r : Bs} (h : quoteD r = none) (p : Nat) : fieldD p (34 :: r) = .error p := by
  rw [fieldD, if_neg (by decide), if_pos rfl]
  split
  · rfl
  · rename_i e
    rw [h] at e
    cases e
theorem field_some {r q r' : Bs} (h : quoteD r = some (q, r')) (p : Nat) : fieldD p (34 :: r) = (fieldD (p + q.length + 2) r').map fun x => (q ++ x.1, x.2) := by
  rw [fieldD, if_neg (by decide), if_pos rfl]
  split
  · rename_i e
    rw [h] at e
    cases e
  · rename_i q2 r2 e
    rw [h] at e
    injection e with e
    injection e with e1 e2
    subst e1 e2
    rfl
theorem field_one {c : UInt8} (h : stopB c = false) (hc : c ≠ 34) (p : Nat) (r : Bs) : fieldD p (c :: r) = (fieldD (p + 1) r).map fun x => (c :: x.1, x.2) := by
  rw [fieldD, if_neg (by simp [h]), if_neg hc]
/-- one case of a field a proof -/
theorem field_ind {M : Nat → Bs → Prop} (h0 : ∀ p, M p []) (h1 : ∀ p c r, stopB c = true → M p (c :: r)) (h2 : ∀ p r, quoteD r = none → M p (34 :: r))
    (h3 : ∀ p q r r', quoteD r = some (q, r') → M (p + q.length + 2) r' → M p (34 :: r)) (h4 : ∀ p c r, stopB c = false → c ≠ 34 → M (p + 1) r → M p (c :: r)) : ∀ l p, M p l := by
  intro l
  induction hn : l.length using Nat.strongRecOn generalizing l with
  | _ n ih =>
    intro p
    cases l with
    | nil => exact h0 p
    | cons c r =>
      cases hs : stopB c with
      | true => exact h1 p c r hs
      | false =>
        by_cases hc : c = 34
        · subst hc
          cases hq : quoteD r with
          | none => exact h2 p r hq
          | some x =>
            obtain ⟨q, r'⟩ := x
            have := quote_lt hq
            exact h3 p q r r' hq (ih r'.length (by simp at hn; omega) r' rfl _)
        · exact h4 p c r hs hc (ih r.length (by simp at hn; omega) r rfl _)
/-- what a field's end is -/
theorem field_ok : ∀ (l : Bs) (p : Nat) (t r : Bs), fieldD p l = .ok (t, r) → r.length ≤ l.length ∧ (r = [] ∨ ∃ c r0, r = c :: r0 ∧ stopB c = true) ∧ (∃ u, l = u ++ r) ∧ ((∃ c l0, l = c :: l0 ∧ stopB c = false) → r.length < l.length) := by
  refine field_ind ?_ ?_ ?_ ?_ ?_
  · intro p t r h
    rw [field_nil] at h
    injection h with h
    injection h with h1 h2
    subst h1 h2
    exact ⟨by simp, .inl rfl, ⟨[], rfl⟩, fun ⟨c, l0, e, _⟩ => by cases e⟩
  · intro p c l hs t r h
    rw [field_stop hs] at h
    injection h with h
    injection h with h1 h2
    subst h1 h2
    refine ⟨by simp, .inr ⟨c, l, rfl, hs⟩, ⟨[], rfl⟩, fun ⟨c', l0, e, hf⟩ => ?_⟩
    injection e with e1 e2
    subst e1
    rw [hs] at hf
    cases hf
  · intro p l hq t r h
    rw [field_none hq] at h
    cases h
  · intro p q l l' hq ih t r h
    rw [field_some hq] at h
    cases hf : fieldD (p + q.length + 2) l' with
    | error k => rw [hf] at h; cases h
    | ok x =>
      rw [hf] at h
      injection h with h
      injection h with h1 h2
      subst h1 h2
      obtain ⟨a, b, ⟨u, hu⟩, -⟩ := ih x.1 x.2 hf
      have hlt := quote_lt hq
      refine ⟨by simp; omega, b, ⟨34 :: q ++ 34 :: u, ?_⟩, fun _ => by simp; omega⟩
      rw [(quote_is hq).1]
      conv => lhs; rw [hu]
      simp
  · intro p c l hs hc ih t r h
    rw [field_one hs hc] at h
    cases hf : fieldD (p + 1) l with
    | error k => rw [hf] at h; cases h
    | ok x =>
      rw [hf] at h
      injection h with h
      injection h with h1 h2
      subst h1 h2
      obtain ⟨a, b, ⟨u, hu⟩, -⟩ := ih x.1 x.2 hf
      refine ⟨by simp; omega, b, ⟨c :: u, ?_⟩, fun _ => by simp; omega⟩
      conv => lhs; rw [hu]
      simp
theorem field_bad : ∀ (l : Bs) (p k : Nat), fieldD p l = .error k → p ≤ k ∧ l[k - p]? = some 34 := by
  refine field_ind ?_ ?_ ?_ ?_ ?_
  · intro p k h
    rw [field_nil] at h
    cases h
  · intro p c l hs k h
    rw [field_stop hs] at h
    cases h
  · intro p l hq k h
    rw [field_none hq] at h
    injection h with h
    subst h
    exact ⟨Nat.le_refl _, by simp⟩
  · intro p q l l' hq ih k h
    rw [field_some hq] at h
    cases hf : fieldD (p + q.length + 2) l' with
    | ok x => rw [hf] at h; cases h
    | error j =>
      rw [hf] at h
      injection h with h
      subst h
      obtain ⟨a, b⟩ := ih j hf
      refine ⟨by omega, ?_⟩
      rw [(quote_is hq).1]
      have e : j - p = (34 :: q ++ [34]).length + (j - (p + q.length + 2)) := by simp; omega
      have e2 : (34 : UInt8) :: (q ++ 34 :: l') = (34 :: q ++ [34]) ++ l' := by simp
      rw [e2, e, List.getElem?_append_right (by omega)]
      simpa using b
  · intro p c l hs hc ih k h
    rw [field_one hs hc] at h
    cases hf : fieldD (p + 1) l with
    | ok x => rw [hf] at h; cases h
    | error j =>
      rw [hf] at h
      injection h with h
      subst h
      obtain ⟨a, b⟩ := ih j hf
      refine ⟨by omega, ?_⟩
      rw [show j - p = (j - (p + 1)) + 1 by omega, List.getElem?_cons_succ]
      exact b
/-- white behind a line changes no field of it -/
theorem field_more (m : Bs) : ∀ (l : Bs) (p : Nat) (t r : Bs), fieldD p l = .ok (t, r) → fieldD p (l ++ 32 :: m) = .ok (t, r ++ 32 :: m) := by
  refine field_ind ?_ ?_ ?_ ?_ ?_
  · intro p t r h
    rw [field_nil] at h
    injection h with h
    injection h with h1 h2
    subst h1 h2
    exact field_stop stop_32 p m
  · intro p c l hs t r h
    rw [field_stop hs] at h
    injection h with h
    injection h with h1 h2
    subst h1 h2
    exact field_stop hs p _
  · intro p l hq t r h
    rw [field_none hq] at h
    cases h
  · intro p q l l' hq ih t r h
    rw [field_some hq] at h
    cases hf : fieldD (p + q.length + 2) l' with
    | error k => rw [hf] at h; cases h
    | ok x =>
      rw [hf] at h
      injection h with h
      injection h with h1 h2
      subst h1 h2
      have hq2 : quoteD (l ++ 32 :: m) = some (q, l' ++ 32 :: m) := by
        obtain ⟨g1, g2⟩ := quote_is hq
        rw [g1, List.append_assoc, List.cons_append]
        exact quote_of g2 _
      rw [List.cons_append, field_some hq2, ih x.1 x.2 hf]
      rfl
  · intro p c l hs hc ih t r h
    rw [field_one hs hc] at h
    cases hf : fieldD (p + 1) l with
    | error k => rw [hf] at h; cases h
    | ok x =>
      rw [hf] at h
      injection h with h
      injection h with h1 h2
      subst h1 h2
      rw [List.cons_append, field_one hs hc, ih x.1 x.2 hf]
      rfl
theorem field_move (n : Nat) : ∀ (l : Bs) (p : Nat), fieldD (p + n) l = match fieldD p l with | .ok x => .ok x | .error k => .error (k + n) := by
  refine field_ind ?_ ?_ ?_ ?_ ?_
  · intro p
    rw [field_nil, field_nil]
  · intro p c l hs
    rw [field_stop hs, field_stop hs]
  · intro p l hq
    rw [field_none hq, field_none hq]
  · intro p q l l' hq ih
    rw [field_some hq, field_some hq, show p + n + q.length + 2 = p + q.length + 2 + n by omega, ih]
    cases fieldD (p + q.length + 2) l' <;> rfl
  · intro p c l hs hc ih
    rw [field_one hs hc, field_one hs hc, show p + n + 1 = p + 1 + n by omega, ih]
    cases fieldD (p + 1) l <;> rfl
/-- all fields of a line from a place on -/
def fieldsD (p : Nat) (l : Bs) : Except Nat (List (Bs × Nat)) :=
  match l with
  | [] => .ok []
  | c :: r => if c = 35 then .ok []
    else if whiteB c = true then fieldsD (p + 1) r
    else match fieldD p (c :: r) with
      | .error k => .error k
      | .ok (t, r') => if r'.length < (c :: r).length then (fieldsD (p + ((c :: r).length - r'.length)) r').map fun x => (t, p) :: x else .ok []
termination_by l.length
theorem fields_nil (p : Nat) : fieldsD p [] = .ok [] := by rw [fieldsD]
theorem fields_note (p : Nat) (r : Bs) : fieldsD p (35 :: r) = .ok [] := by rw [fieldsD, if_pos rfl]
theorem fields_white {c : UInt8} (h : whiteB c = true) (p : Nat) (r : Bs) : fieldsD p (c :: r) = fieldsD (p + 1) r := by
  have hc : c ≠ 35 := fun e => by rw [e] at h; revert h; decide
  rw [fieldsD, if_neg hc, if_pos h]
theorem stop_no {c : UInt8} (h : stopB c = false) : c ≠ 35 ∧ whiteB c = false := by
  unfold stopB at h
  simp only [Bool.or_eq_false_iff, beq_eq_false_iff_ne] at h
  exact ⟨h.2, h.1⟩
theorem fields_bad {c : UInt8} (h : stopB c = false) (p k : Nat) (r : Bs) (hf : fieldD p (c :: r) = .error k) : fieldsD p (c :: r) = .error k := by
  obtain ⟨h1, h2⟩ := stop_no h
  rw [fieldsD, if_neg h1, if_neg (by simp [h2]), hf]
theorem fields_one {c : UInt8} (h : stopB c = false) (p : Nat) (r t r' : Bs) (hf : fieldD p (c :: r) = .ok (t, r')) : fieldsD p (c :: r) = (fieldsD (p + ((c :: r).length - r'.length)) r').map fun x => (t, p) :: x := by
  obtain ⟨h1, h2⟩ := stop_no h
  obtain ⟨-, -, -, hlt⟩ := field_ok _ p t r' hf
  rw [fieldsD, if_neg h1, if_neg (by simp [h2]), hf]
  simp only
  rw [if_pos (hlt ⟨c, r, rfl, h⟩)]
theorem fields_ind {M : Nat → Bs → Prop} (h0 : ∀ p, M p []) (h1 : ∀ p r, M p (35 :: r)) (h2 : ∀ p c r, whiteB c = true → M (p + 1) r → M p (c :: r)) (h3 : ∀ p c r k, stopB c = false → fieldD p (c :: r) = .error k → M p (c :: r))
    (h4 : ∀ p c r t r', stopB c = false → fieldD p (c :: r) = .ok (t, r') → r'.length < (c :: r).length → M (p + ((c :: r).length - r'.length)) r' → M p (c :: r)) : ∀ l p, M p l := by
  intro l
  induction hn : l.length using Nat.strongRecOn generalizing l with
  | _ n ih =>
    intro p
    cases l with
    | nil => exact h0 p
    | cons c r =>
      cases hs : stopB c with
      | true =>
        by_cases h35 : c = 35
        · subst h35
          exact h1 p r
        · have hw : whiteB c = true := by
            unfold stopB at hs
            simpa [h35] using hs
          exact h2 p c r hw (ih r.length (by simp at hn; omega) r rfl _)
      | false =>
        cases hf : fieldD p (c :: r) with
        | error k => exact h3 p c r k hs hf
        | ok x =>
          obtain ⟨t, r'⟩ := x
          have hlt := (field_ok _ p t r' hf).2.2.2 ⟨c, r, rfl, hs⟩
          exact h4 p c r t r' hs hf hlt (ih r'.length (by omega) r' rfl _)
theorem fields_bad_at : ∀ (l : Bs) (p k : Nat), fieldsD p l = .error k → p ≤ k ∧ l[k - p]? = some 34 := by
  refine fields_ind ?_ ?_ ?_ ?_ ?_
  · intro p k h
    rw [fields_nil] at h
    cases h
  · intro p r k h
    rw [fields_note] at h
    cases h
  · intro p c r hw ih k h
    rw [fields_white hw] at h
    obtain ⟨a, b⟩ := ih k h
    exact ⟨by omega, by rw [show k - p = (k - (p + 1)) + 1 by omega, List.getElem?_cons_succ]; exact b⟩
  · intro p c r j hs hf k h
    rw [fields_bad hs p j r hf] at h
    injection h with h
    subst h
    exact field_bad _ p j hf
  · intro p c r t r' hs hf hlt ih k h
    rw [fields_one hs p r t r' hf] at h
    cases hg : fieldsD (p + ((c :: r).length - r'.length)) r' with
    | ok x => rw [hg] at h; cases h
    | error j =>
      rw [hg] at h
      injection h with h
      subst h
      obtain ⟨a, b⟩ := ih j hg
      obtain ⟨-, -, ⟨u, hu⟩, -⟩ := field_ok _ p t r' hf
      have hul : (c :: r).length = u.length + r'.length := by rw [hu]; simp
      refine ⟨by omega, ?_⟩
      rw [hu, show j - p = u.length + (j - (p + ((c :: r).length - r'.length))) by omega, List.getElem?_append_right (by omega)]
      simpa using b
/-- fields' columns: they rise, and stand at bytes that begin a field -/
def Rises (p : Nat) (l : Bs) : List (Bs × Nat) → Prop
  | [] => True
  | x :: r => p ≤ x.2 ∧ (∃ c, l[x.2 - p]? = some c ∧ stopB c = false) ∧ (∀ y ∈ r, x.2 < y.2) ∧ Rises p l r
theorem rises_up {p : Nat} {u l : Bs} : ∀ {fs : List (Bs × Nat)}, Rises (p + u.length) l fs → Rises p (u ++ l) fs
  | [], _ => trivial
  | x :: r, ⟨h1, ⟨c, h2, h3⟩, h4, h5⟩ => ⟨by omega, ⟨c, by rw [List.getElem?_append_right (by omega), ← h2]; congr 1; omega, h3⟩, h4, rises_up h5⟩
theorem rises_ge {p : Nat} {l : Bs} : ∀ {fs : List (Bs × Nat)}, Rises p l fs → ∀ y ∈ fs, p ≤ y.2
  | [], _, _, hy => by cases hy
  | x :: r, ⟨h1, _, _, h5⟩, y, hy => by
    rcases List.mem_cons.1 hy with e | e
    · rw [e]; exact h1
    · exact rises_ge h5 y e
theorem fields_rise : ∀ (l : Bs) (p : Nat) (fs : List (Bs × Nat)), fieldsD p l = .ok fs → Rises p l fs := by
  refine fields_ind ?_ ?_ ?_ ?_ ?_
  · intro p fs h
    rw [fields_nil] at h
    injection h with h
    subst h
    trivial
  · intro p r fs h
    rw [fields_note] at h
    injection h with h
    subst h
    trivial
  · intro p c r hw ih fs h
    rw [fields_white hw] at h
    exact rises_up (u := [c]) (ih fs h)
  · intro p c r k hs hf fs h
    rw [fields_bad hs p k r hf] at h
    cases h
  · intro p c r t r' hs hf hlt ih fs h
    rw [fields_one hs p r t r' hf] at h
    cases hg : fieldsD (p + ((c :: r).length - r'.length)) r' with
    | error j => rw [hg] at h; cases h
    | ok x =>
      rw [hg] at h
      injection h with h
      subst h
      have hr := ih x hg
      obtain ⟨-, -, ⟨u, hu⟩, -⟩ := field_ok _ p t r' hf
      have hul : (c :: r).length = u.length + r'.length := by rw [hu]; simp
      rw [show p + ((c :: r).length - r'.length) = p + u.length by omega] at hr
      refine ⟨Nat.le_refl _, ⟨c, by simp, hs⟩, fun y hy => ?_, ?_⟩
      · have := rises_ge hr y hy
        show p < y.2
        omega
      · rw [hu]
        exact rises_up hr
/-- white, and more, behind a line -/
theorem fields_more (m : Bs) : ∀ (l : Bs) (p : Nat) (fs : List (Bs × Nat)), fieldsD p l = .ok fs → ((35 : UInt8) ∉ l → fieldsD p (l ++ 32 :: m) = (fieldsD (p + l.length + 1) m).map fun x => fs ++ x) ∧ (∀ m', m = 35 :: m' → fieldsD p (l ++ 32 :: m) = .ok fs) := by
  refine fields_ind ?_ ?_ ?_ ?_ ?_
  · intro p fs h
    rw [fields_nil] at h
    injection h with h
    subst h
    refine ⟨fun _ => ?_, fun m' e => ?_⟩
    · rw [List.nil_append, fields_white (by decide)]
      show fieldsD (p + 1) m = (fieldsD (p + 1) m).map fun x => [] ++ x
      cases fieldsD (p + 1) m <;> rfl
    · rw [List.nil_append, fields_white (by decide), e, fields_note]
  · intro p r fs h
    rw [fields_note] at h
    injection h with h
    subst h
    refine ⟨fun hn => absurd (by simp) hn, fun m' e => ?_⟩
    rw [List.cons_append, fields_note]
  · intro p c r hw ih fs h
    rw [fields_white hw] at h
    obtain ⟨a, b⟩ := ih fs h
    refine ⟨fun hn => ?_, fun m' e => ?_⟩
    · rw [List.cons_append, fields_white hw, a (fun x => hn (List.mem_cons_of_mem _ x)), List.length_cons, show p + 1 + r.length + 1 = p + (r.length + 1) + 1 by omega]
    · rw [List.cons_append, fields_white hw, b m' e]
  · intro p c r k hs hf fs h
    rw [fields_bad hs p k r hf] at h
    cases h
  · intro p c r t r' hs hf hlt ih fs h
    rw [fields_one hs p r t r' hf] at h
    cases hg : fieldsD (p + ((c :: r).length - r'.length)) r' with
    | error j => rw [hg] at h; cases h
    | ok x =>
      rw [hg] at h
      injection h with h
      subst h
      obtain ⟨a, b⟩ := ih x hg
      obtain ⟨-, -, ⟨u, hu⟩, -⟩ := field_ok _ p t r' hf
      have hm := field_more m _ p t r' hf
      rw [List.cons_append] at hm
      have hone := fields_one hs p _ t _ hm
      have hlen : (c :: (r ++ 32 :: m)).length - (r' ++ 32 :: m).length = (c :: r).length - r'.length := by simp; omega
      rw [hlen] at hone
      refine ⟨fun hn => ?_, fun m' e => ?_⟩
      · rw [List.cons_append, hone, a (fun y => hn (by rw [hu]; exact List.mem_append_right _ y))]
        rw [show p + ((c :: r).length - r'.length) + r'.length + 1 = p + (c :: r).length + 1 by omega]
        cases fieldsD (p + (c :: r).length + 1) m <;> rfl
      · rw [List.cons_append, hone, b m' e]
        rfl
def moved (n : Nat) (fs : List (Bs × Nat)) : List (Bs × Nat) := fs.map fun x => (x.1, x.2 + n)
theorem fields_move (n : Nat) : ∀ (l : Bs) (p : Nat) (fs : List (Bs × Nat)), fieldsD p l = .ok fs → fieldsD (p + n) l = .ok (moved n fs) := by
  refine fields_ind ?_ ?_ ?_ ?_ ?_
  · intro p fs h
    rw [fields_nil] at h
    injection h with h
    subst h
    exact fields_nil _
  · intro p r fs h
    rw [fields_note] at h
    injection h with h
    subst h
    exact fields_note _ _
  · intro p c r hw ih fs h
    rw [fields_white hw] at h
    rw [fields_white hw, show p + n + 1 = p + 1 + n by omega]
    exact ih fs h
  · intro p c r k hs hf fs h
    rw [fields_bad hs p k r hf] at h
    cases h
  · intro p c r t r' hs hf hlt ih fs h
    rw [fields_one hs p r t r' hf] at h
    cases hg : fieldsD (p + ((c :: r).length - r'.length)) r' with
    | error j => rw [hg] at h; cases h
    | ok x =>
      rw [hg] at h
      injection h with h
      subst h
      have hf2 : fieldD (p + n) (c :: r) = .ok (t, r') := by rw [field_move, hf]
      rw [fields_one hs (p + n) r t r' hf2, show p + n + ((c :: r).length - r'.length) = p + ((c :: r).length - r'.length) + n by omega, ih x hg]
      rfl
theorem fields_tabs (n : Nat) (l : Bs) : ∀ p, fieldsD p (List.replicate n 9 ++ l) = fieldsD (p + n) l := by
  induction n with
  | zero => intro p; rfl
  | succ n ih =>
    intro p
    rw [List.replicate_succ, List.cons_append, fields_white (by decide), ih, show p + 1 + n = p + (n + 1) by omega]
/- Show -/
def quotedB (s : Bs) : Bool := s.isEmpty || s.any stopB
def showOne (s : Bs) : Bs := if quotedB s = true then 34 :: (s ++ [34]) else s
def joinL : List Bs → Bs
  | [] => []
  | [s] => showOne s
  | s :: r => showOne s ++ 32 :: joinL r
/-- what Show answers, with its kind -/
def showD (l : List Bs) : Bs × Int := if l.any (fun s => s.contains 34) = true then ([], 1) else if 200 < (joinL l).length then ([], 17) else (joinL l, 0)
theorem field_plain (m : Bs) (hm : m = [] ∨ ∃ c r, m = c :: r ∧ stopB c = true) : ∀ (s : Bs) (p : Nat), (34 : UInt8) ∉ s → s.any stopB = false → fieldD p (s ++ m) = .ok (s, m) := by
  intro s
  induction s with
  | nil =>
    intro p _ _
    rcases hm with rfl | ⟨c, r, rfl, hc⟩
    · exact field_nil p
    · exact field_stop hc p r
  | cons c s ih =>
    intro p h34 hs
    simp only [List.any_cons, Bool.or_eq_false_iff] at hs
    have hc : c ≠ 34 := fun e => h34 (by simp [e])
    rw [List.cons_append, field_one hs.1 hc, ih (p + 1) (fun x => h34 (List.mem_cons_of_mem _ x)) hs.2]
    rfl
theorem field_show (m : Bs) (hm : m = [] ∨ ∃ c r, m = c :: r ∧ stopB c = true) (s : Bs) (p : Nat) (h34 : (34 : UInt8) ∉ s) : fieldD p (showOne s ++ m) = .ok (s, m) := by
  unfold showOne
  split
  · have hq : quoteD (s ++ 34 :: m) = some (s, m) := quote_of h34 m
    have : fieldD (p + s.length + 2) m = .ok ([], m) := by
      rcases hm with rfl | ⟨c, r, rfl, hc⟩
      · exact field_nil _
      · exact field_stop hc _ r
    rw [show (34 :: (s ++ [34]) ++ m : Bs) = 34 :: (s ++ 34 :: m) by simp, field_some hq, this]
    show Except.ok (s ++ [], m) = _
    rw [List.append_nil]
  · rename_i h
    have hn : s.any stopB = false := by
      unfold quotedB at h
      simp only [Bool.not_eq_true, Bool.or_eq_false_iff] at h
      exact h.2
    exact field_plain m hm s p h34 hn
theorem show_head (s m : Bs) (_h34 : (34 : UInt8) ∉ s) : ∃ c r, showOne s ++ m = c :: r ∧ stopB c = false := by
  unfold showOne
  split
  · exact ⟨34, _, rfl, by decide⟩
  · rename_i h
    unfold quotedB at h
    simp only [Bool.not_eq_true, Bool.or_eq_false_iff] at h
    cases s with
    | nil => cases h.1
    | cons c s =>
      have := h.2
      simp only [List.any_cons, Bool.or_eq_false_iff] at this
      exact ⟨c, _, rfl, this.1⟩
/-- what is shown is read as the same fields -/
theorem fields_show : ∀ (l : List Bs) (p : Nat), (∀ s ∈ l, (34 : UInt8) ∉ s) → ∃ fs, fieldsD p (joinL l) = .ok fs ∧ fs.map (·.1) = l
  | [], p, _ => ⟨[], fields_nil p, rfl⟩
  | [s], p, h => by
    have h34 := h s (by simp)
    have hf := field_show [] (.inl rfl) s p h34
    obtain ⟨c, r, e, hc⟩ := show_head s [] h34
    rw [e] at hf
    rw [List.append_nil] at e
    refine ⟨[(s, p)], ?_, rfl⟩
    rw [joinL, e, fields_one hc p r s [] hf, fields_nil]
    rfl
  | s :: s2 :: l, p, h => by
    have h34 := h s (by simp)
    have hf := field_show (32 :: joinL (s2 :: l)) (.inr ⟨32, _, rfl, by decide⟩) s p h34
    obtain ⟨c, r, e, hc⟩ := show_head s (32 :: joinL (s2 :: l)) h34
    rw [e] at hf
    obtain ⟨fs, h1, h2⟩ := fields_show (s2 :: l) (p + ((c :: r).length - (32 :: joinL (s2 :: l)).length) + 1) (fun x hx => h x (List.mem_cons_of_mem _ hx))
    refine ⟨(s, p) :: fs, ?_, by rw [List.map_cons, h2]⟩
    rw [show joinL (s :: s2 :: l) = showOne s ++ 32 :: joinL (s2 :: l) from rfl, e, fields_one hc p r s _ hf, fields_white (by decide), h1]
    rfl
end Go.Lxr
