import Derived.Lib.ItoaNum
namespace Go.Clk
abbrev Bs := List UInt8
def digB (c : UInt8) : Bool := 48 ≤ c.toNat && c.toNat ≤ 57
def dv (c : UInt8) : Nat := c.toNat - 48
theorem digB_iff (c : UInt8) : digB c = true ↔ 48 ≤ c.toNat ∧ c.toNat ≤ 57 := by simp [digB]

/- what the reader's methods take: a value and what is left, or none -/
def digitD : Bs → Option (Nat × Bs)
  | [] => none
  | c :: r => if digB c = true then some (dv c, r) else none
def moreD : Nat → Nat → Bs → Nat × Bs
  | 0, n, r => (n, r)
  | _ + 1, n, [] => (n, [])
  | k + 1, n, c :: r => if digB c = true then moreD k (n * 10 + dv c) r else (n, c :: r)
def hoursD (l : Bs) : Option (Nat × Bs) := match digitD l with
  | none => none
  | some (a, r) => if (moreD 2 a r).1 ≤ 167 then some (moreD 2 a r) else none
def sixD (l : Bs) : Option (Nat × Bs) := match digitD l with
  | none => none
  | some (a, r) => match digitD r with
    | none => none
    | some (b, r') => if a * 10 + b < 60 then some (a * 10 + b, r') else none
def secondsD (l : Bs) : Option (Nat × Bs) := match hoursD l with
  | none => none
  | some (h, r) => if r.head? = some 58 then match sixD r.tail with
      | none => none
      | some (m, r1) => if r1.head? = some 58 then match sixD r1.tail with
          | none => none
          | some (s, r2) => some (h * 3600 + (m * 60 + s), r2)
        else some (h * 3600 + m * 60, r1)
    else some (h * 3600, r)
def signedD (l : Bs) : Option (Int × Bs) := if l.head? = some 45 then match secondsD l.tail with
    | none => none
    | some (n, r) => some (-(n : Int), r)
  else match secondsD l with
    | none => none
    | some (n, r) => some ((n : Int), r)
def sufK (c : UInt8) : Option Nat := if c = 119 then some 0 else if c = 115 then some 1 else if c = 117 ∨ c = 103 ∨ c = 122 then some 2 else none
def suffixD : Bs → Option (Nat × Bs)
  | [] => some (0, [])
  | c :: r => match sufK c with
    | none => none
    | some k => some (k, r)
def timeD (l : Bs) : Option ((Int × Nat) × Bs) := match signedD l with
  | none => none
  | some (n, r) => match suffixD r with
    | none => none
    | some (k, r') => some ((n, k), r')
def amountD (l : Bs) : Option (Int × Bs) := match signedD l with
  | none => none
  | some (n, r) => if -86400 ≤ n ∧ n ≤ 86400 then some (n, r) else none
def wholeD {α : Type} (z : α) (f : Bs → Option (α × Bs)) (l : Bs) : Option α := if l = [45] then some z else match f l with
  | none => none
  | some (v, r) => if r = [] then some v else none
abbrev parseD (l : Bs) : Option (Int × Nat) := wholeD (0, 0) timeD l
abbrev amtD (l : Bs) : Option Int := wholeD 0 amountD l

/- the words: which texts are times -/
inductive Hrs : Bs → Nat → Prop
  | one (a : UInt8) : digB a = true → Hrs [a] (dv a)
  | two (a b : UInt8) : digB a = true → digB b = true → Hrs [a, b] (dv a * 10 + dv b)
  | three (a b c : UInt8) : digB a = true → digB b = true → digB c = true → (dv a * 10 + dv b) * 10 + dv c ≤ 167 → Hrs [a, b, c] ((dv a * 10 + dv b) * 10 + dv c)
inductive Six : Bs → Nat → Prop
  | mk (a b : UInt8) : digB a = true → digB b = true → dv a * 10 + dv b < 60 → Six [a, b] (dv a * 10 + dv b)
inductive Mns : Bs → Nat → Prop
  | nil : Mns [] 0
  | m (x : Bs) (n : Nat) : Six x n → Mns (58 :: x) (n * 60)
  | ms (x y : Bs) (n k : Nat) : Six x n → Six y k → Mns (58 :: (x ++ 58 :: y)) (n * 60 + k)
inductive Txt : Bs → Nat → Prop
  | mk (h m : Bs) (n k : Nat) : Hrs h n → Mns m k → Txt (h ++ m) (n * 3600 + k)
inductive Sgn : Bs → Int → Prop
  | pos (t : Bs) (m : Nat) : Txt t m → Sgn t (m : Int)
  | neg (t : Bs) (m : Nat) : Txt t m → Sgn (45 :: t) (-(m : Int))
inductive Suf : Bs → Nat → Prop
  | nil : Suf [] 0
  | one (c : UInt8) (k : Nat) : sufK c = some k → Suf [c] k
inductive Tells : Bs → Int × Nat → Prop
  | dash : Tells [45] (0, 0)
  | mk (t x : Bs) (n : Int) (k : Nat) : Sgn t n → Suf x k → Tells (t ++ x) (n, k)
inductive Amts : Bs → Int → Prop
  | dash : Amts [45] 0
  | mk (t : Bs) (n : Int) : Sgn t n → -86400 ≤ n → n ≤ 86400 → Amts t n

theorem dv_lt {c : UInt8} (h : digB c = true) : dv c < 10 := by
  have := (digB_iff c).1 h
  unfold dv
  omega
theorem suf_ne {c : UInt8} {k : Nat} (h : sufK c = some k) : c ≠ 58 ∧ c ≠ 45 ∧ digB c = false ∧ k ≤ 2 := by
  unfold sufK at h
  split at h
  · rename_i e; subst e; cases h; decide
  · split at h
    · rename_i e; subst e; cases h; decide
    · split at h
      · rename_i e
        rcases e with e | e | e <;> (subst e; cases h; decide)
      · cases h

/-- what may stand behind a time -/
def Stop (r : Bs) : Prop := r.head? ≠ some 58 ∧ ∀ c, r.head? = some c → digB c = false
theorem Stop.nil : Stop [] := ⟨by simp, by simp⟩
theorem more_stop (k n : Nat) {r : Bs} (h : ∀ c, r.head? = some c → digB c = false) : moreD k n r = (n, r) := by
  cases k with
  | zero => rfl
  | succ k => cases r with
    | nil => rfl
    | cons c r => simp [moreD, h c rfl]
/- what is read is a time's text -/
theorem digit_got {l : Bs} {a : Nat} {r : Bs} (h : digitD l = some (a, r)) : ∃ c, l = c :: r ∧ digB c = true ∧ a = dv c := by
  cases l with
  | nil => cases h
  | cons c l =>
    simp only [digitD] at h
    split at h
    · rename_i hc
      cases h
      exact ⟨c, rfl, hc, rfl⟩
    · cases h
theorem hours_got {l : Bs} {n : Nat} {r : Bs} (h : hoursD l = some (n, r)) : ∃ t, l = t ++ r ∧ Hrs t n := by
  unfold hoursD at h
  cases hd : digitD l with
  | none => rw [hd] at h; cases h
  | some p =>
    obtain ⟨a, q⟩ := p
    obtain ⟨c, rfl, hc, rfl⟩ := digit_got hd
    rw [hd] at h
    simp only at h
    split at h
    · rename_i hle
      have h := Option.some.inj h
      rw [h] at hle
      cases q with
      | nil => cases h; exact ⟨[c], rfl, .one c hc⟩
      | cons b q =>
        simp only [moreD] at h
        split at h
        · rename_i hb
          cases q with
          | nil => cases h; exact ⟨[c, b], rfl, .two c b hc hb⟩
          | cons d q =>
            simp only [moreD] at h
            split at h
            · rename_i hd'
              cases h; exact ⟨[c, b, d], rfl, .three c b d hc hb hd' hle⟩
            · cases h; exact ⟨[c, b], rfl, .two c b hc hb⟩
        · cases h; exact ⟨[c], rfl, .one c hc⟩
    · cases h
theorem six_got {l : Bs} {n : Nat} {r : Bs} (h : sixD l = some (n, r)) : ∃ t, l = t ++ r ∧ Six t n := by
  unfold sixD at h
  cases hd : digitD l with
  | none => rw [hd] at h; cases h
  | some p =>
    obtain ⟨a, q⟩ := p
    obtain ⟨c, rfl, hc, rfl⟩ := digit_got hd
    rw [hd] at h
    simp only at h
    cases hd2 : digitD q with
    | none => rw [hd2] at h; cases h
    | some p =>
      obtain ⟨b, q'⟩ := p
      obtain ⟨e, rfl, he, rfl⟩ := digit_got hd2
      rw [hd2] at h
      simp only at h
      split at h
      · cases h; exact ⟨[c, e], rfl, .mk c e hc he (by assumption)⟩
      · cases h
theorem head_tail {r : Bs} {c : UInt8} (h : r.head? = some c) : r = c :: r.tail := by
  cases r with
  | nil => cases h
  | cons d r =>
    obtain rfl : d = c := by simpa using h
    rfl
theorem seconds_got {l : Bs} {n : Nat} {r : Bs} (h : secondsD l = some (n, r)) : ∃ t, l = t ++ r ∧ Txt t n := by
  unfold secondsD at h
  cases h1 : hoursD l with
  | none => rw [h1] at h; cases h
  | some p =>
    obtain ⟨a, q⟩ := p
    rw [h1] at h
    obtain ⟨th, e1, g1⟩ := hours_got h1
    simp only at h
    split at h
    · rename_i hq
      have hq := head_tail hq
      cases h2 : sixD q.tail with
      | none => rw [h2] at h; cases h
      | some p =>
        obtain ⟨m, q2⟩ := p
        rw [h2] at h
        obtain ⟨tm, e2, g2⟩ := six_got h2
        simp only at h
        split at h
        · rename_i hq2
          have hq2 := head_tail hq2
          cases h3 : sixD q2.tail with
          | none => rw [h3] at h; cases h
          | some p =>
            obtain ⟨s, q3⟩ := p
            rw [h3] at h
            obtain ⟨ts, e3, g3⟩ := six_got h3
            cases h
            exact ⟨th ++ 58 :: (tm ++ 58 :: ts), by rw [e1, hq, e2, hq2, e3]; simp, .mk _ _ _ _ g1 (.ms _ _ _ _ g2 g3)⟩
        · cases h
          exact ⟨th ++ 58 :: tm, by rw [e1, hq, e2]; simp, .mk _ _ _ _ g1 (.m _ _ g2)⟩
    · cases h
      exact ⟨th, e1, by simpa using Txt.mk _ _ _ _ g1 .nil⟩
theorem signed_got {l : Bs} {n : Int} {r : Bs} (h : signedD l = some (n, r)) : ∃ t, l = t ++ r ∧ Sgn t n := by
  unfold signedD at h
  split at h
  · rename_i h45
    have h45 := head_tail h45
    cases h1 : secondsD l.tail with
    | none => rw [h1] at h; cases h
    | some p =>
      obtain ⟨a, q⟩ := p
      rw [h1] at h
      obtain ⟨t, e, g⟩ := seconds_got h1
      cases h
      exact ⟨45 :: t, by rw [h45, e]; rfl, .neg _ _ g⟩
  · cases h1 : secondsD l with
    | none => rw [h1] at h; cases h
    | some p =>
      obtain ⟨a, q⟩ := p
      rw [h1] at h
      obtain ⟨t, e, g⟩ := seconds_got h1
      cases h
      exact ⟨t, e, .pos _ _ g⟩
theorem of_parse {l : Bs} {v : Int × Nat} (h : parseD l = some v) : Tells l v := by
  unfold parseD wholeD at h
  split at h
  · rename_i e
    subst e
    cases h
    exact .dash
  · unfold timeD at h
    cases h1 : signedD l with
    | none => rw [h1] at h; cases h
    | some p =>
      obtain ⟨n, r⟩ := p
      rw [h1] at h
      obtain ⟨t, e, g⟩ := signed_got h1
      cases r with
      | nil =>
        cases h
        have := Tells.mk t [] n 0 g .nil
        rwa [← e] at this
      | cons c r =>
        simp only [suffixD] at h
        cases hk : sufK c with
        | none => rw [hk] at h; cases h
        | some k =>
          rw [hk] at h
          simp only at h
          split at h
          · rename_i hr
            subst hr
            cases h
            have := Tells.mk t [c] n k g (.one c k hk)
            rwa [← e] at this
          · cases h
theorem of_amt {l : Bs} {n : Int} (h : amtD l = some n) : Amts l n := by
  unfold amtD wholeD at h
  split at h
  · rename_i e
    subst e
    cases h
    exact .dash
  · unfold amountD at h
    cases h1 : signedD l with
    | none => rw [h1] at h; cases h
    | some p =>
      obtain ⟨m, r⟩ := p
      rw [h1] at h
      obtain ⟨t, e, g⟩ := signed_got h1
      simp only at h
      split at h
      · cases h
      · rename_i hr
        split at hr
        · rename_i hin
          cases hr
          split at h
          · rename_i hr2
            subst hr2
            cases h
            rw [List.append_nil] at e
            subst e
            exact .mk _ _ g hin.1 hin.2
          · cases h
        · cases hr

/- the document's answer -/
def splitC : Bs → List Bs
  | [] => [[]]
  | c :: r => if c = 58 then [] :: splitC r else (c :: (splitC r).headD []) :: (splitC r).tail
theorem split_one {h : Bs} (hh : ∀ c ∈ h, c ≠ 58) : splitC h = [h] := by
  induction h with
  | nil => rfl
  | cons c h ih =>
    have hc : c ≠ 58 := hh c (by simp)
    have := ih (fun d hd => hh d (by simp [hd]))
    simp [splitC, hc, this]
/- what is shown -/
theorem txt_range {t : Bs} {m : Nat} (h : Txt t m) : m ≤ 604799 := by
  cases h with
  | mk h ms n k hh hm =>
    have a1 : n ≤ 167 := by
      cases hh with
      | one a ha => have := dv_lt ha; omega
      | two a b ha hb => have := dv_lt ha; have := dv_lt hb; omega
      | three a b c ha hb hc hle => exact hle
    have s59 : ∀ {x : Bs} {n : Nat}, Six x n → n ≤ 59 := fun hx => by cases hx with | mk a b ha hb h => omega
    have a2 : k ≤ 3599 := by
      cases hm with
      | nil => omega
      | m x n hx => have := s59 hx; omega
      | ms x y n k hx hy => have := s59 hx; have := s59 hy; omega
    omega
theorem parse_range {l : Bs} {n : Int} {k : Nat} (h : parseD l = some (n, k)) : -604799 ≤ n ∧ n ≤ 604799 ∧ k ≤ 2 := by
  cases of_parse h with
  | dash => omega
  | mk t x n k g hx =>
    have hk : k ≤ 2 := by
      cases hx with
      | nil => omega
      | one c k hk => exact (suf_ne hk).2.2.2
    cases g with
    | pos t m ht => have := txt_range ht; omega
    | neg t m ht => have := txt_range ht; omega
/- hours in two digits or three, minutes, seconds -/
end Go.Clk
