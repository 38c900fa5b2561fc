namespace Go.Esc
abbrev Bs := List UInt8

def hexd (n : UInt8) : UInt8 := if n < 10 then 48 + n else 87 + n
def plainB (c : UInt8) : Bool := 33 ≤ c && c ≤ 126
def codedB (c : UInt8) : Bool := c != 32 && !plainB c && c != 10 && c != 9
/-- a byte in a quoted text -/
def enc (c : UInt8) : Bs :=
  if c = 34 ∨ c = 92 then [92, c] else if c = 10 then [92, 110] else if c = 9 then [92, 116]
  else if codedB c = true then [92, 120, hexd (c >>> 4), hexd (c &&& 15)] else [c]
def quoteL (s : Bs) : Bs := 34 :: (s.flatMap enc ++ [34])

/-- what is read: a value and what is left, or a kind -/
inductive Got (α : Type) where
  | err (k : Int)
  | got (v : α) (rest : Bs)

def digV (c : UInt8) : Option UInt8 := if 48 ≤ c ∧ c ≤ 57 then some (c - 48) else if 97 ≤ c ∧ c ≤ 102 then some (c - 97 + 10) else none
def digitD : Bs → Got UInt8
  | [] => .err 9
  | c :: r => match digV c with
    | some d => .got d r
    | none => .err 3
def beginsB (h : UInt8) : Bool := h ≤ 1 || h ≥ 7
def codeD (l : Bs) : Got UInt8 := match digitD l with
  | .err k => .err k
  | .got h r => if beginsB h = true then
      match digitD r with
      | .err k => .err k
      | .got d r' => if codedB ((h <<< 4) ||| d) = true then .got ((h <<< 4) ||| d) r' else .err 3
    else .err 3
def escD : Bs → Got UInt8
  | [] => .err 9
  | c :: r => if c = 34 ∨ c = 92 then .got c r else if c = 110 then .got 10 r else if c = 116 then .got 9 r else if c = 120 then codeD r else .err 3
def stepD : Bs → Got UInt8
  | [] => .err 9
  | c :: r => if c = 92 then escD r else if c = 32 ∨ plainB c = true then .got c r else .err 3
def Got.cons {α : Type} (x : α) : Got (List α) → Got (List α)
  | .err k => .err k
  | .got v r => .got (x :: v) r
def Got.glue {α : Type} (xs : List α) : Got (List α) → Got (List α)
  | .err k => .err k
  | .got v r => .got (xs ++ v) r
def bodyD : Nat → Bs → Got Bs
  | 0, l => if l.head? = some 34 then .got [] l.tail else .err 9
  | f + 1, l => if l.head? = some 34 then .got [] l.tail else match stepD l with
    | .err k => .err k
    | .got c r => (bodyD f r).cons c
def quotedD (l : Bs) : Got Bs := if l.head? = some 34 then bodyD l.tail.length l.tail else .err 3
def plainD (l : Bs) : Got Bs := if l.takeWhile plainB = [] then .err 3 else .got (l.takeWhile plainB) (l.dropWhile plainB)
def fieldD (l : Bs) : Got Bs := if l.head? = some 34 then quotedD l else plainD l
def tailD : Nat → Bs → Got (List Bs)
  | 0, _ => .got [] []
  | f + 1, l => if l = [] then .got [] [] else if l.head? = some 32 then match fieldD l.tail with
      | .err k => .err k
      | .got v r => (tailD f r).cons v
    else .err 3
def fieldsD (l : Bs) : Got (List Bs) := if l = [] then .got [] [] else match fieldD l with
  | .err k => .err k
  | .got v r => (tailD r.length r).cons v
def mayPlain (s : Bs) : Bool := !s.isEmpty && s.head? != some 34 && s.all plainB
def wordL (s : Bs) : Bs := if mayPlain s = true then s else quoteL s
def sepL (l : List Bs) : Bs := l.flatMap fun x => 32 :: wordL x
def joinL (l : List Bs) : Bs := (sepL l).drop 1

theorem byte_all {p : UInt8 → Prop} [DecidablePred p] (h : ∀ n : Fin 256, p (UInt8.ofNat n)) (c : UInt8) : p c := by
  have := h ⟨c.toNat, c.toNat_lt⟩
  simpa using this
theorem glue_nil {α : Type} (g : Got (List α)) : g.glue [] = g := by cases g <;> rfl
theorem glue_cons {α : Type} (xs : List α) (x : α) (g : Got (List α)) : (g.cons x).glue xs = g.glue (xs ++ [x]) := by cases g <;> simp [Got.cons, Got.glue]
theorem cons_glue {α : Type} (xs : List α) (x : α) (g : Got (List α)) : (g.glue xs).cons x = g.glue (x :: xs) := by cases g <;> simp [Got.cons, Got.glue]

theorem dig_hex : ∀ d : UInt8, d < 16 → digV (hexd d) = some d := by
  refine byte_all ?_
  decide +kernel
theorem hex_dig : ∀ c d : UInt8, digV c = some d → c = hexd d ∧ d < 16 := by
  have h : ∀ c : UInt8, ∀ d, digV c = some d → c = hexd d ∧ d < 16 := by
    refine byte_all (p := fun c => ∀ d, digV c = some d → c = hexd d ∧ d < 16) ?_
    have : ∀ n : Fin 256, (digV (UInt8.ofNat n)).all (fun d => UInt8.ofNat n == hexd d && d < 16) = true := by decide +kernel
    intro n d hd
    have := this n
    rw [hd] at this
    simpa using this
  exact h
theorem high_lt (c : UInt8) : c >>> 4 < 16 := by revert c; refine byte_all ?_; decide +kernel
theorem low_lt (c : UInt8) : c &&& 15 < 16 := by revert c; refine byte_all ?_; decide +kernel
theorem glued (c : UInt8) : (c >>> 4) <<< 4 ||| (c &&& 15) = c := by revert c; refine byte_all ?_; decide +kernel
theorem coded_begins (c : UInt8) : codedB c = true → beginsB (c >>> 4) = true := by revert c; refine byte_all ?_; decide +kernel
theorem parts : ∀ h : UInt8, ∀ d : UInt8, h < 16 → d < 16 → (h <<< 4 ||| d) >>> 4 = h ∧ (h <<< 4 ||| d) &&& 15 = d := by
  have : ∀ h : Fin 16, ∀ d : Fin 16, (UInt8.ofNat h <<< 4 ||| UInt8.ofNat d) >>> 4 = UInt8.ofNat h ∧ (UInt8.ofNat h <<< 4 ||| UInt8.ofNat d) &&& 15 = UInt8.ofNat d := by decide +kernel
  intro h d hh hd
  have := this ⟨h.toNat, by simpa [UInt8.lt_iff_toNat_lt] using hh⟩ ⟨d.toNat, by simpa [UInt8.lt_iff_toNat_lt] using hd⟩
  simpa using this

theorem digit_hex (d : UInt8) (h : d < 16) (r : Bs) : digitD (hexd d :: r) = .got d r := by simp [digitD, dig_hex d h]
theorem digit_got {l : Bs} {d : UInt8} {r : Bs} (h : digitD l = .got d r) : l = hexd d :: r ∧ d < 16 := by
  cases l with
  | nil => cases h
  | cons c l =>
    simp only [digitD] at h
    split at h
    · rename_i hd
      cases h
      obtain ⟨e, h2⟩ := hex_dig _ _ hd
      exact ⟨by rw [e], h2⟩
    · cases h
/-- what is written is read -/
theorem step_enc (c : UInt8) (h : c ≠ 34 ∨ True) (t : Bs) : stepD (enc c ++ t) = .got c t := by
  unfold enc
  split
  · rename_i hc
    rcases hc with rfl | rfl <;> simp [stepD, escD]
  · split
    · subst c; simp [stepD, escD]
    · split
      · subst c; simp [stepD, escD]
      · split
        · rename_i hc
          simp [stepD, escD, codeD, digit_hex _ (high_lt c), digit_hex _ (low_lt c), coded_begins c hc, glued, hc]
        · rename_i h1 h2 h3 h4
          have h1' : c ≠ 92 := fun e => h1 (.inr e)
          have : c = 32 ∨ plainB c = true := by
            by_cases hs : c = 32
            · exact .inl hs
            · right
              simp [codedB, h2, h3, hs] at h4
              exact h4
          simp only [List.singleton_append, stepD, if_neg h1', if_pos this]
/-- what is read is written so -/
theorem enc_step (l : Bs) (c : UInt8) (r : Bs) (h34 : l.head? ≠ some 34) (h : stepD l = .got c r) : l = enc c ++ r := by
  match l, h with
  | x :: l, h =>
    simp only [stepD] at h
    split at h
    · subst x
      match l, h with
      | y :: l, h =>
        simp only [escD] at h
        split at h
        · cases h; unfold enc; rw [if_pos ‹_›]; rfl
        · split at h
          · subst y; cases h; rfl
          · split at h
            · subst y; cases h; rfl
            · split at h
              · subst y
                simp only [codeD] at h
                rcases hd1 : digitD l with k | ⟨hv, r1⟩ <;> rw [hd1] at h <;> simp only at h
                · cases h
                · split at h
                  · rcases hd2 : digitD r1 with k | ⟨dv, r2⟩ <;> rw [hd2] at h <;> simp only at h
                    · cases h
                    · split at h
                      · cases h
                        have hco : codedB (hv <<< 4 ||| dv) = true := by assumption
                        obtain ⟨rfl, h16⟩ := digit_got hd1
                        obtain ⟨rfl, h16'⟩ := digit_got hd2
                        obtain ⟨p1, p2⟩ := parts hv dv h16 h16'
                        unfold enc
                        have hn : ∀ k : UInt8, codedB k = false → (hv <<< 4 ||| dv) ≠ k := fun k hk e => by rw [e, hk] at hco; cases hco
                        rw [if_neg (by rintro (e | e); exact hn 34 rfl e; exact hn 92 rfl e), if_neg (hn 10 rfl), if_neg (hn 9 rfl), if_pos hco, p1, p2]
                        rfl
                      · cases h
                  · cases h
              · cases h
    · split at h
      · cases h
        rename_i hx hp
        have h3 : c ≠ 34 := fun e => h34 (by simp [e])
        have hco : codedB c = false := by
          rcases hp with rfl | hp
          · rfl
          · simp [codedB, hp]
        unfold enc
        rw [if_neg (by rintro (e | e); exact h3 e; exact hx e), if_neg (by rintro rfl; rcases hp with hp | hp <;> revert hp <;> decide), if_neg (by rintro rfl; rcases hp with hp | hp <;> revert hp <;> decide), if_neg (by rw [hco]; decide)]
        rfl
      · cases h

theorem enc_head (c : UInt8) (t : Bs) : (enc c ++ t).head? ≠ some 34 := by
  unfold enc
  split
  · simp
  · split
    · simp
    · split
      · simp
      · split
        · simp
        · simp; intro e; simp_all
theorem enc_len (c : UInt8) : 1 ≤ (enc c).length ∧ (enc c).length ≤ 4 := by
  unfold enc
  split
  · simp
  · split
    · simp
    · split
      · simp
      · split <;> simp
theorem encs_len (s : Bs) : s.length ≤ (s.flatMap enc).length ∧ (s.flatMap enc).length ≤ 4 * s.length := by
  induction s with
  | nil => simp
  | cons c s ih =>
    have := enc_len c
    rw [List.flatMap_cons, List.length_append, List.length_cons]
    omega
theorem quote_len (s : Bs) : (quoteL s).length ≤ 4 * s.length + 2 := by
  have := encs_len s
  simp only [quoteL, List.length_cons, List.length_append, List.length_nil]
  omega
theorem body_quote (s : Bs) : ∀ (rest : Bs) (f : Nat), s.length ≤ f → bodyD f (s.flatMap enc ++ 34 :: rest) = .got s rest := by
  induction s with
  | nil => intro rest f _; cases f <;> simp [bodyD]
  | cons c s ih =>
    intro rest f hf
    obtain ⟨f, rfl⟩ : ∃ g, f = g + 1 := ⟨f - 1, by simp at hf; omega⟩
    rw [List.flatMap_cons, List.append_assoc, bodyD, if_neg (enc_head _ _), step_enc _ (.inr trivial)]
    simp only
    rw [ih rest f (by simpa using hf)]
    rfl
theorem quoted_quote (s rest : Bs) : quotedD (quoteL s ++ rest) = .got s rest := by
  have := encs_len s
  simp only [quotedD, quoteL, List.cons_append, List.head?_cons, if_true, List.tail_cons, List.append_assoc, List.nil_append]
  exact body_quote s rest _ (by simp only [List.length_append]; omega)
theorem body_got : ∀ (f : Nat) (l v r : Bs), bodyD f l = .got v r → l = v.flatMap enc ++ 34 :: r := by
  have base : ∀ l r : Bs, l.head? = some 34 → l.tail = r → l = 34 :: r := by
    intro l r h1 h2
    cases l with
    | nil => cases h1
    | cons x l => simp at h1 h2; rw [h1, h2]
  intro f
  induction f with
  | zero =>
    intro l v r h
    rw [bodyD] at h
    split at h
    · cases h
      exact base l _ ‹_› rfl
    · cases h
  | succ f ih =>
    intro l v r h
    rw [bodyD] at h
    split at h
    · cases h
      exact base l _ ‹_› rfl
    · rename_i h34
      rcases hs : stepD l with k | ⟨c, r1⟩ <;> rw [hs] at h <;> simp only at h
      · cases h
      · rcases hb : bodyD f r1 with k | ⟨v2, r2⟩ <;> rw [hb] at h
        · cases h
        · cases h
          have h1 := enc_step l c r1 h34 hs
          have h2 := ih r1 v2 r hb
          rw [List.flatMap_cons, List.append_assoc, ← h2, ← h1]
theorem quoted_got (l v r : Bs) (h : quotedD l = .got v r) : l = quoteL v ++ r := by
  unfold quotedD at h
  split at h
  · cases l with
    | nil => rename_i h1; cases h1
    | cons x l =>
      have := body_got _ _ _ _ h
      simp at this
      rename_i h1
      simp at h1
      simp [quoteL, this, h1]
  · cases h

theorem step_kind {l : Bs} {k : Int} (h : stepD l = .err k) : k = 3 ∨ k = 9 := by
  have hdig : ∀ {l : Bs} {k : Int}, digitD l = .err k → k = 3 ∨ k = 9 := by
    intro l k h
    cases l with
    | nil => cases h; exact .inr rfl
    | cons c l =>
      simp only [digitD] at h
      split at h
      · cases h
      · cases h; exact .inl rfl
  have hcode : ∀ {l : Bs} {k : Int}, codeD l = .err k → k = 3 ∨ k = 9 := by
    intro l k h
    unfold codeD at h
    rcases h1 : digitD l with k1 | ⟨a, r1⟩ <;> rw [h1] at h <;> simp only at h
    · cases h; exact hdig h1
    · split at h
      · rcases h2 : digitD r1 with k2 | ⟨b, r2⟩ <;> rw [h2] at h <;> simp only at h
        · cases h; exact hdig h2
        · split at h
          · cases h
          · cases h; exact .inl rfl
      · cases h; exact .inl rfl
  cases l with
  | nil => cases h; exact .inr rfl
  | cons c l =>
    simp only [stepD] at h
    split at h
    · cases l with
      | nil => cases h; exact .inr rfl
      | cons d l =>
        simp only [escD] at h
        split at h
        · cases h
        · split at h
          · cases h
          · split at h
            · cases h
            · split at h
              · exact hcode h
              · cases h; exact .inl rfl
    · split at h
      · cases h
      · cases h; exact .inl rfl
theorem body_kind : ∀ (f : Nat) (l : Bs) (k : Int), bodyD f l = .err k → k = 3 ∨ k = 9 := by
  intro f
  induction f with
  | zero => intro l k h; rw [bodyD] at h; split at h <;> cases h; exact .inr rfl
  | succ f ih =>
    intro l k h
    rw [bodyD] at h
    split at h
    · cases h
    · rcases hs : stepD l with k1 | ⟨c, r1⟩ <;> rw [hs] at h <;> simp only at h
      · cases h; exact step_kind hs
      · rcases hb : bodyD f r1 with k2 | ⟨v2, r2⟩ <;> rw [hb] at h
        · cases h; exact ih _ _ hb
        · cases h
theorem quoted_kind {l : Bs} {k : Int} (h : quotedD l = .err k) : k = 3 ∨ k = 9 := by
  unfold quotedD at h
  split at h
  · exact body_kind _ _ _ h
  · cases h; exact .inl rfl

/-- the byte whose escape begins a text -/
theorem one_got {l : Bs} {c : UInt8} {r : Bs} (h34 : l.head? ≠ some 34) (h : stepD l = .got c r) : l = enc c ++ r ∧ ∀ c', enc c' <+: l → c' = c := by
  refine ⟨enc_step l c r h34 h, fun c' ⟨t, ht⟩ => ?_⟩
  rw [← ht, step_enc c' (.inr trivial)] at h
  cases h
  rfl
theorem one_none {l : Bs} {k : Int} (h : stepD l = .err k) (c : UInt8) : ¬ enc c <+: l := by
  rintro ⟨t, ht⟩
  rw [← ht, step_enc c (.inr trivial)] at h
  cases h
theorem some_coded : ∀ h : UInt8, h < 16 → beginsB h = true → codedB (h <<< 4 ||| 15) = true := by
  refine byte_all ?_
  decide +kernel
theorem one_part {l : Bs} {k : Int} (h0 : l ≠ []) (h : stepD l = .err k) : k = 9 ↔ ∃ c, l <+: enc c := by
  constructor
  · rintro rfl
    cases l with
    | nil => exact absurd rfl h0
    | cons c l =>
      simp only [stepD] at h
      split at h
      · subst c
        cases l with
        | nil => exact ⟨34, [34], rfl⟩
        | cons d l =>
          simp only [escD] at h
          split at h
          · cases h
          · split at h
            · cases h
            · split at h
              · cases h
              · split at h
                · subst d
                  unfold codeD at h
                  cases l with
                  | nil => exact ⟨0, [48, 48], rfl⟩
                  | cons a l =>
                    rcases h1 : digitD (a :: l) with k1 | ⟨x, r1⟩ <;> rw [h1] at h <;> simp only at h
                    · cases h
                      simp only [digitD] at h1
                      split at h1 <;> cases h1
                    · obtain ⟨e1, h16⟩ := digit_got h1
                      split at h
                      · rename_i hb
                        cases r1 with
                        | nil =>
                          refine ⟨x <<< 4 ||| 15, [hexd 15], ?_⟩
                          obtain ⟨p1, p2⟩ := parts x 15 h16 (by decide)
                          have hco := some_coded x h16 hb
                          have hn : ∀ k : UInt8, codedB k = false → (x <<< 4 ||| 15) ≠ k := fun k hk e => by rw [e, hk] at hco; cases hco
                          unfold enc
                          rw [if_neg (by rintro (e | e); exact hn 34 rfl e; exact hn 92 rfl e), if_neg (hn 10 rfl), if_neg (hn 9 rfl), if_pos hco, p1, p2, e1]
                          rfl
                        | cons b r1 =>
                          rcases h2 : digitD (b :: r1) with k2 | ⟨y, r2⟩ <;> rw [h2] at h <;> simp only at h
                          · cases h
                            simp only [digitD] at h2
                            split at h2 <;> cases h2
                          · split at h <;> cases h
                      · cases h
                · cases h
      · split at h <;> cases h
  · rintro ⟨c, t, ht⟩
    have hl : l ≠ enc c := fun e => by rw [e, ← List.append_nil (enc c), step_enc c (.inr trivial)] at h; cases h
    unfold enc at ht hl
    have h2 : ∀ a b : UInt8, l ++ t = [a, b] → l ≠ [a, b] → l = [a] := by
      intro a b e ne
      match l, e, ne, h0 with
      | [], _, _, h0 => exact absurd rfl h0
      | [x], e, _, _ => simp at e; simp [e.1]
      | [x, y], e, ne, _ => simp at e; simp [e] at ne
      | x :: y :: z :: l, e, _, _ => simp at e
    split at ht
    · rename_i hc
      rw [if_pos hc] at hl
      have := h2 _ _ ht hl
      subst this
      cases h
      rfl
    · rename_i hc
      rw [if_neg hc] at hl
      split at ht
      · rename_i hc; rw [if_pos hc] at hl
        have := h2 _ _ ht hl
        subst this
        cases h
        rfl
      · rename_i hc; rw [if_neg hc] at hl
        split at ht
        · rename_i hc; rw [if_pos hc] at hl
          have := h2 _ _ ht hl
          subst this
          cases h
          rfl
        · rename_i hc; rw [if_neg hc] at hl
          split at ht
          · rename_i hc; rw [if_pos hc] at hl
            match l, ht, hl, h0, h with
            | [], _, _, h0, _ => exact absurd rfl h0
            | [x], e, _, _, h =>
              simp at e
              obtain ⟨rfl, -⟩ := e
              cases h
              rfl
            | [x, y], e, _, _, h =>
              simp at e
              obtain ⟨rfl, rfl, -⟩ := e
              cases h
              rfl
            | [x, y, z], e, _, _, h =>
              simp at e
              obtain ⟨rfl, rfl, rfl, -⟩ := e
              have hd := digit_hex _ (high_lt c) []
              simp [stepD, escD, codeD, hd, coded_begins c hc] at h
              cases h
              rfl
            | [x, y, z, u], e, ne, _, _ => simp at e; simp [e] at ne
            | x :: y :: z :: u :: v :: l, e, _, _, _ => simp at e
          · rename_i hc; rw [if_neg hc] at hl
            match l, ht, hl, h0 with
            | [], _, _, h0 => exact absurd rfl h0
            | [x], e, ne, _ => simp at e; simp [e] at ne
            | x :: y :: l, e, _, _ => simp at e

theorem word_ne (x : Bs) : wordL x ≠ [] := by
  unfold wordL
  split
  · rename_i h
    intro e
    subst e
    cases h
  · simp [quoteL]
theorem join_cons (x : Bs) (l : List Bs) : joinL (x :: l) = wordL x ++ sepL l := by simp [joinL, sepL]
theorem join_snoc (l : List Bs) (x : Bs) : joinL (l ++ [x]) = if l = [] then wordL x else joinL l ++ 32 :: wordL x := by
  cases l with
  | nil => simp [joinL, sepL]
  | cons y l =>
    rw [if_neg (by simp), List.cons_append, join_cons, join_cons]
    simp [sepL]
theorem take_plain (x rest : Bs) (h : x.all plainB = true) (hr : rest = [] ∨ rest.head? = some 32) : (x ++ rest).takeWhile plainB = x ∧ (x ++ rest).dropWhile plainB = rest := by
  induction x with
  | nil =>
    cases rest with
    | nil => exact ⟨rfl, rfl⟩
    | cons a r =>
      have ha : a = 32 := by simpa using hr
      subst ha
      exact ⟨rfl, rfl⟩
  | cons a x ih =>
    simp at h
    obtain ⟨h1, h2⟩ := ih (by simpa using h.2)
    simp only [List.cons_append, List.takeWhile_cons, List.dropWhile_cons, h.1, if_true, h1, h2]
    exact ⟨trivial, trivial⟩
theorem field_word (x rest : Bs) (hr : rest = [] ∨ rest.head? = some 32) : fieldD (wordL x ++ rest) = .got x rest := by
  unfold wordL
  split
  · rename_i h
    unfold mayPlain at h
    simp only [Bool.and_eq_true, Bool.not_eq_true', bne_iff_ne, ne_eq] at h
    obtain ⟨⟨h1, h2⟩, h3⟩ := h
    have hne : x ≠ [] := by intro e; subst e; cases h1
    have hh : (x ++ rest).head? = x.head? := by cases x with | nil => exact absurd rfl hne | cons a x => rfl
    obtain ⟨t1, t2⟩ := take_plain x rest h3 hr
    rw [fieldD, hh, if_neg h2, plainD, t1, t2, if_neg hne]
  · rw [fieldD, if_pos (by simp [quoteL]), quoted_quote]
theorem sep_head (l : List Bs) : sepL l = [] ∨ (sepL l).head? = some 32 := by cases l <;> simp [sepL]
theorem tail_sep (l : List Bs) : ∀ f, l.length ≤ f → tailD f (sepL l) = .got l [] := by
  induction l with
  | nil => intro f _; cases f <;> simp [tailD, sepL]
  | cons x l ih =>
    intro f hf
    obtain ⟨f, rfl⟩ : ∃ g, f = g + 1 := ⟨f - 1, by simp at hf; omega⟩
    have e : sepL (x :: l) = 32 :: (wordL x ++ sepL l) := by simp [sepL]
    rw [e, tailD, if_neg (by simp), if_pos (by rfl), List.tail_cons, field_word x _ (sep_head l)]
    simp only
    rw [ih f (by simpa using hf)]
    rfl
theorem sep_len (l : List Bs) : l.length ≤ (sepL l).length := by
  induction l with
  | nil => simp
  | cons x l ih =>
    have e : sepL (x :: l) = 32 :: (wordL x ++ sepL l) := by simp [sepL]
    rw [e, List.length_cons, List.length_cons, List.length_append]
    omega
/-- fields are read as they were written -/
theorem fields_join (l : List Bs) : fieldsD (joinL l) = .got l [] := by
  cases l with
  | nil => simp [fieldsD, joinL, sepL]
  | cons x l =>
    rw [join_cons, fieldsD, if_neg (by intro e; exact word_ne x (List.append_eq_nil_iff.1 e).1), field_word x _ (sep_head l)]
    simp only
    rw [tail_sep l _ (sep_len l)]
    rfl
theorem quoted_lt {l v r : Bs} (h : quotedD l = .got v r) : r.length + 2 ≤ l.length := by
  rw [quoted_got l v r h]
  simp only [quoteL, List.length_append, List.length_cons, List.length_nil]
  omega
theorem field_lt {l v r : Bs} (h : fieldD l = .got v r) : r.length < l.length ∧ ∃ n, r = l.drop n := by
  unfold fieldD at h
  split at h
  · have := quoted_lt h
    refine ⟨by omega, (quoteL v).length, ?_⟩
    conv => rhs; rw [quoted_got l v r h]
    simp
  · unfold plainD at h
    split at h
    · cases h
    · rename_i h0 h1
      cases h
      have e := List.takeWhile_append_dropWhile (p := plainB) (l := l)
      have := congrArg List.length e
      rw [List.length_append] at this
      have : 0 < (l.takeWhile plainB).length := List.length_pos_iff.2 h1
      refine ⟨by omega, (l.takeWhile plainB).length, ?_⟩
      have := List.drop_left (l₁ := l.takeWhile plainB) (l₂ := l.dropWhile plainB)
      rw [e] at this
      exact this.symm
theorem step_suffix {l : Bs} {c : UInt8} {r : Bs} (h34 : l.head? ≠ some 34) (h : stepD l = .got c r) : r = l.drop (enc c).length := by
  have e := enc_step l c r h34 h
  conv => rhs; rw [e]
  simp
theorem tail_kind : ∀ (f : Nat) (l : Bs) (k : Int), tailD f l = .err k → k = 3 ∨ k = 9 := by
  have hfield : ∀ {l : Bs} {k : Int}, fieldD l = .err k → k = 3 ∨ k = 9 := by
    intro l k h
    unfold fieldD at h
    split at h
    · exact quoted_kind h
    · unfold plainD at h
      split at h <;> cases h
      exact .inl rfl
  intro f
  induction f with
  | zero => intro l k h; cases h
  | succ f ih =>
    intro l k h
    rw [tailD] at h
    split at h
    · cases h
    · split at h
      · rcases hs : fieldD l.tail with k1 | ⟨c, r1⟩ <;> rw [hs] at h <;> simp only at h
        · cases h; exact hfield hs
        · rcases hb : tailD f r1 with k2 | ⟨v2, r2⟩ <;> rw [hb] at h
          · cases h; exact ih _ _ hb
          · cases h
      · cases h; exact .inl rfl
end Go.Esc
