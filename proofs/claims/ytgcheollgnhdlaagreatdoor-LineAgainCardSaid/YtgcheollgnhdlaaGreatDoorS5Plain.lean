import Derived.Lib.ItoaNum
namespace Go.Clk
abbrev Bs := List UInt8
def digB (c : UInt8) : Bool := 48 ≤ c.toNat && c.toNat ≤ 57
def dv (c : UInt8) : Nat := c.toNat - 48
theorem digB_iff (c : UInt8) : digB c = true ↔ 48 ≤ c.toNat ∧ c.toNat ≤ 57 := by simp [digB]

/- what the reader's methods take: a value and what is left, or none -/
def digitD : Bs → Option (Nat × Bs)
  | [] => none
  | c :: r => if digB c = true then some (dv c, r) else none
def moreD : Nat → Nat → Bs → Nat × Bs
  | 0, n, r => (n, r)
  | _ + 1, n, [] => (n, [])
  | k + 1, n, c :: r => if digB c = true then moreD k (n * 10 + dv c) r else (n, c :: r)
def hoursD (l : Bs) : Option (Nat × Bs) := match digitD l with
  | none => none
  | some (a, r) => if (moreD 2 a r).1 ≤ 167 then some (moreD 2 a r) else none
def sixD (l : Bs) : Option (Nat × Bs) := match digitD l with
  | none => none
  | some (a, r) => match digitD r with
    | none => none
    | some (b, r') => if a * 10 + b < 60 then some (a * 10 + b, r') else none
def secondsD (l : Bs) : Option (Nat × Bs) := match hoursD l with
  | none => none
  | some (h, r) => if r.head? = some 58 then match sixD r.tail with
      | none => none
      | some (m, r1) => if r1.head? = some 58 then match sixD r1.tail with
          | none => none
          | some (s, r2) => some (h * 3600 + (m * 60 + s), r2)
        else some (h * 3600 + m * 60, r1)
    else some (h * 3600, r)
def signedD (l : Bs) : Option (Int × Bs) := if l.head? = some 45 then match secondsD l.tail with
    | none => none
    | some (n, r) => some (-(n : Int), r)
  else match secondsD l with
    | none => none
    | some (n, r) => some ((n : Int), r)
def sufK (c : UInt8) : Option Nat := if c = 119 then some 0 else if c = 115 then some 1 else if c = 117 ∨ c = 103 ∨ c = 122 then some 2 else none
def suffixD : Bs → Option (Nat × Bs)
  | [] => some (0, [])
  | c :: r => match sufK c with
    | none => none
    | some k => some (k, r)
def timeD (l : Bs) : Option ((Int × Nat) × Bs) := match signedD l with
  | none => none
  | some (n, r) => match suffixD r with
    | none => none
    | some (k, r') => some ((n, k), r')
def amountD (l : Bs) : Option (Int × Bs) := match signedD l with
  | none => none
  | some (n, r) => if -86400 ≤ n ∧ n ≤ 86400 then some (n, r) else none
def wholeD {α : Type} (z : α) (f : Bs → Option (α × Bs)) (l : Bs) : Option α := if l = [45] then some z else match f l with
  | none => none
  | some (v, r) => if r = [] then some v else none
abbrev parseD (l : Bs) : Option (Int × Nat) := wholeD (0, 0) timeD l
abbrev amtD (l : Bs) : Option Int := wholeD 0 amountD l

/- the words: which texts are times -/
inductive Hrs : Bs → Nat → Prop
  | one (a : UInt8) : digB a = true → Hrs [a] (dv a)
  | two (a b : UInt8) : digB a = true → digB b = true → Hrs [a, b] (dv a * 10 + dv b)
  | three (a b c : UInt8) : digB a = true → digB b = true → digB c = true → (dv a * 10 + dv b) * 10 + dv c ≤ 167 → Hrs [a, b, c] ((dv a * 10 + dv b) * 10 + dv c)
inductive Six : Bs → Nat → Prop
  | mk (a b : UInt8) : digB a = true → digB b = true → dv a * 10 + dv b < 60 → Six [a, b] (dv a * 10 + dv b)
inductive Mns : Bs → Nat → Prop
  | nil : Mns [] 0
  | m (x : Bs) (n : Nat) : Six x n → Mns (58 :: x) (n * 60)
  | ms (x y : Bs) (n k : Nat) : Six x n → Six y k → Mns (58 :: (x ++ 58 :: y)) (n * 60 + k)
inductive Txt : Bs → Nat → Prop
  | mk (h m : Bs) (n k : Nat) : Hrs h n → Mns m k → Txt (h ++ m) (n * 3600 + k)
inductive Sgn : Bs → Int → Prop
  | pos (t : Bs) (m : Nat) : Txt t m → Sgn t (m : Int)
  | neg (t : Bs) (m : Nat) : Txt t m → Sgn (45 :: t) (-(m : Int))
inductive Suf : Bs → Nat → Prop
  | nil : Suf [] 0
  | one (c : UInt8) (k : Nat) : sufK c = some k → Suf [c] k
inductive Tells : Bs → Int × Nat → Prop
  | dash : Tells [45] (0, 0)
  | mk (t x : Bs) (n : Int) (k : Nat) : Sgn t n → Suf x k → Tells (t ++ x) (n, k)
inductive Amts : Bs → Int → Prop
  | dash : Amts [45] 0
  | mk (t : Bs) (n : Int) : Sgn t n → -86400 ≤ n → n ≤ 86400 → Amts t n

theorem dv_lt {c : UInt8} (h : digB c = true) : dv c < 10 := by
  have := (digB_iff c).1 h
  unfold dv
  omega
theorem dig_ne {c : UInt8} (h : digB c = true) : c ≠ 58 ∧ c ≠ 45 ∧ sufK c = none := by
  have := (digB_iff c).1 h
  have e : ∀ k : UInt8, c = k → c.toNat = k.toNat := fun k e => by rw [e]
  refine ⟨fun x => ?_, fun x => ?_, ?_⟩
  · have := e _ x; simp at this; omega
  · have := e _ x; simp at this; omega
  · have h1 : c ≠ 119 := fun x => by have := e _ x; simp at this; omega
    have h2 : c ≠ 115 := fun x => by have := e _ x; simp at this; omega
    have h3 : c ≠ 117 := fun x => by have := e _ x; simp at this; omega
    have h4 : c ≠ 103 := fun x => by have := e _ x; simp at this; omega
    have h5 : c ≠ 122 := fun x => by have := e _ x; simp at this; omega
    simp [sufK, h1, h2, h3, h4, h5]
theorem suf_ne {c : UInt8} {k : Nat} (h : sufK c = some k) : c ≠ 58 ∧ c ≠ 45 ∧ digB c = false ∧ k ≤ 2 := by
  unfold sufK at h
  split at h
  · rename_i e; subst e; cases h; decide
  · split at h
    · rename_i e; subst e; cases h; decide
    · split at h
      · rename_i e
        rcases e with e | e | e <;> (subst e; cases h; decide)
      · cases h

/-- what may stand behind a time -/
def Stop (r : Bs) : Prop := r.head? ≠ some 58 ∧ ∀ c, r.head? = some c → digB c = false
theorem Stop.nil : Stop [] := ⟨by simp, by simp⟩
theorem Suf.stop {x : Bs} {k : Nat} (h : Suf x k) : Stop x := by
  cases h with
  | nil => exact Stop.nil
  | one c k h =>
    obtain ⟨h1, -, h2, -⟩ := suf_ne h
    refine ⟨by simpa using h1, fun d hd => ?_⟩
    obtain rfl : c = d := by simpa using hd
    exact h2

theorem more_stop (k n : Nat) {r : Bs} (h : ∀ c, r.head? = some c → digB c = false) : moreD k n r = (n, r) := by
  cases k with
  | zero => rfl
  | succ k => cases r with
    | nil => rfl
    | cons c r => simp [moreD, h c rfl]
theorem hours_txt {h : Bs} {n : Nat} (hh : Hrs h n) {r : Bs} (hr : ∀ c, r.head? = some c → digB c = false) : hoursD (h ++ r) = some (n, r) := by
  cases hh with
  | one a ha =>
    have := dv_lt ha
    simp only [List.cons_append, List.nil_append, hoursD, digitD, ha, if_true, more_stop _ _ hr]
    rw [if_pos (by omega)]
  | two a b ha hb =>
    have := dv_lt ha
    have := dv_lt hb
    simp only [List.cons_append, List.nil_append, hoursD, digitD, ha, if_true, moreD, hb, more_stop _ _ hr]
    rw [if_pos (by omega)]
  | three a b c ha hb hc hle =>
    simp only [List.cons_append, List.nil_append, hoursD, digitD, ha, if_true, moreD, hb, hc]
    rw [if_pos (by omega)]
theorem six_txt {x : Bs} {n : Nat} (h : Six x n) (r : Bs) : sixD (x ++ r) = some (n, r) := by
  cases h with
  | mk a b ha hb hlt => simp [sixD, digitD, ha, hb, hlt]
theorem seconds_txt {t : Bs} {m : Nat} (h : Txt t m) {r : Bs} (hr : Stop r) : secondsD (t ++ r) = some (m, r) := by
  cases h with
  | mk h ms n k hh hm =>
    cases hm with
    | nil =>
      rw [List.append_nil]
      simp only [secondsD, hours_txt hh hr.2, if_neg hr.1]
      simp
    | m x n' hx =>
      rw [List.append_assoc]
      have e := hours_txt hh (r := (58 :: x) ++ r) (by simp; decide)
      simp only [List.cons_append] at e ⊢
      simp only [secondsD, e, List.head?_cons, if_true, List.tail_cons, six_txt hx, if_neg hr.1]
    | ms x y n' k' hx hy =>
      rw [List.append_assoc]
      have e := hours_txt hh (r := (58 :: (x ++ 58 :: y)) ++ r) (by simp; decide)
      simp only [List.cons_append, List.append_assoc] at e ⊢
      simp only [secondsD, e, List.head?_cons, if_true, List.tail_cons, six_txt hx, six_txt hy]
theorem txt_head {t : Bs} {m : Nat} (h : Txt t m) : ∃ a r, t = a :: r ∧ digB a = true := by
  cases h with
  | mk h ms n k hh hm => cases hh <;> exact ⟨_, _, rfl, by assumption⟩
theorem signed_txt {t : Bs} {n : Int} (h : Sgn t n) {r : Bs} (hr : Stop r) : signedD (t ++ r) = some (n, r) := by
  cases h with
  | pos t m ht =>
    obtain ⟨a, q, rfl, ha⟩ := txt_head ht
    have h45 := (dig_ne ha).2.1
    rw [signedD, if_neg (by simpa using h45), seconds_txt ht hr]
  | neg t m ht =>
    simp [signedD, seconds_txt ht hr]
theorem sgn_ne {t : Bs} {n : Int} (h : Sgn t n) : t ≠ [] ∧ t ≠ [45] ∧ ∀ x, t ++ x ≠ [45] := by
  cases h with
  | pos t m ht =>
    obtain ⟨a, q, rfl, ha⟩ := txt_head ht
    have h45 := (dig_ne ha).2.1
    exact ⟨by simp, by simp [h45], by simp [h45]⟩
  | neg t m ht =>
    obtain ⟨a, q, rfl, ha⟩ := txt_head ht
    exact ⟨by simp, by simp, by simp⟩
theorem suffix_txt {x : Bs} {k : Nat} (h : Suf x k) : suffixD x = some (k, []) := by
  cases h with
  | nil => rfl
  | one c k h => simp [suffixD, h]
theorem parse_of {l : Bs} {v : Int × Nat} (h : Tells l v) : parseD l = some v := by
  cases h with
  | dash => rfl
  | mk t x n k ht hx =>
    rw [parseD, wholeD, if_neg ((sgn_ne ht).2.2 x), timeD, signed_txt ht hx.stop]
    simp [suffix_txt hx]
theorem amt_of {l : Bs} {n : Int} (h : Amts l n) : amtD l = some n := by
  cases h with
  | dash => rfl
  | mk t n ht h1 h2 =>
    have := signed_txt ht Stop.nil
    rw [List.append_nil] at this
    rw [amtD, wholeD, if_neg (sgn_ne ht).2.1, amountD, this]
    simp [h1, h2]

/- what is read is a time's text -/
theorem digit_got {l : Bs} {a : Nat} {r : Bs} (h : digitD l = some (a, r)) : ∃ c, l = c :: r ∧ digB c = true ∧ a = dv c := by
  cases l with
  | nil => cases h
  | cons c l =>
    simp only [digitD] at h
    split at h
    · rename_i hc
      cases h
      exact ⟨c, rfl, hc, rfl⟩
    · cases h
theorem hours_got {l : Bs} {n : Nat} {r : Bs} (h : hoursD l = some (n, r)) : ∃ t, l = t ++ r ∧ Hrs t n := by
  unfold hoursD at h
  cases hd : digitD l with
  | none => rw [hd] at h; cases h
  | some p =>
    obtain ⟨a, q⟩ := p
    obtain ⟨c, rfl, hc, rfl⟩ := digit_got hd
    rw [hd] at h
    simp only at h
    split at h
    · rename_i hle
      have h := Option.some.inj h
      rw [h] at hle
      cases q with
      | nil => cases h; exact ⟨[c], rfl, .one c hc⟩
      | cons b q =>
        simp only [moreD] at h
        split at h
        · rename_i hb
          cases q with
          | nil => cases h; exact ⟨[c, b], rfl, .two c b hc hb⟩
          | cons d q =>
            simp only [moreD] at h
            split at h
            · rename_i hd'
              cases h; exact ⟨[c, b, d], rfl, .three c b d hc hb hd' hle⟩
            · cases h; exact ⟨[c, b], rfl, .two c b hc hb⟩
        · cases h; exact ⟨[c], rfl, .one c hc⟩
    · cases h
theorem six_got {l : Bs} {n : Nat} {r : Bs} (h : sixD l = some (n, r)) : ∃ t, l = t ++ r ∧ Six t n := by
  unfold sixD at h
  cases hd : digitD l with
  | none => rw [hd] at h; cases h
  | some p =>
    obtain ⟨a, q⟩ := p
    obtain ⟨c, rfl, hc, rfl⟩ := digit_got hd
    rw [hd] at h
    simp only at h
    cases hd2 : digitD q with
    | none => rw [hd2] at h; cases h
    | some p =>
      obtain ⟨b, q'⟩ := p
      obtain ⟨e, rfl, he, rfl⟩ := digit_got hd2
      rw [hd2] at h
      simp only at h
      split at h
      · cases h; exact ⟨[c, e], rfl, .mk c e hc he (by assumption)⟩
      · cases h
theorem head_tail {r : Bs} {c : UInt8} (h : r.head? = some c) : r = c :: r.tail := by
  cases r with
  | nil => cases h
  | cons d r =>
    obtain rfl : d = c := by simpa using h
    rfl
theorem seconds_got {l : Bs} {n : Nat} {r : Bs} (h : secondsD l = some (n, r)) : ∃ t, l = t ++ r ∧ Txt t n := by
  unfold secondsD at h
  cases h1 : hoursD l with
  | none => rw [h1] at h; cases h
  | some p =>
    obtain ⟨a, q⟩ := p
    rw [h1] at h
    obtain ⟨th, e1, g1⟩ := hours_got h1
    simp only at h
    split at h
    · rename_i hq
      have hq := head_tail hq
      cases h2 : sixD q.tail with
      | none => rw [h2] at h; cases h
      | some p =>
        obtain ⟨m, q2⟩ := p
        rw [h2] at h
        obtain ⟨tm, e2, g2⟩ := six_got h2
        simp only at h
        split at h
        · rename_i hq2
          have hq2 := head_tail hq2
          cases h3 : sixD q2.tail with
          | none => rw [h3] at h; cases h
          | some p =>
            obtain ⟨s, q3⟩ := p
            rw [h3] at h
            obtain ⟨ts, e3, g3⟩ := six_got h3
            cases h
            exact ⟨th ++ 58 :: (tm ++ 58 :: ts), by rw [e1, hq, e2, hq2, e3]; simp, .mk _ _ _ _ g1 (.ms _ _ _ _ g2 g3)⟩
        · cases h
          exact ⟨th ++ 58 :: tm, by rw [e1, hq, e2]; simp, .mk _ _ _ _ g1 (.m _ _ g2)⟩
    · cases h
      exact ⟨th, e1, by simpa using Txt.mk _ _ _ _ g1 .nil⟩
theorem signed_got {l : Bs} {n : Int} {r : Bs} (h : signedD l = some (n, r)) : ∃ t, l = t ++ r ∧ Sgn t n := by
  unfold signedD at h
  split at h
  · rename_i h45
    have h45 := head_tail h45
    cases h1 : secondsD l.tail with
    | none => rw [h1] at h; cases h
    | some p =>
      obtain ⟨a, q⟩ := p
      rw [h1] at h
      obtain ⟨t, e, g⟩ := seconds_got h1
      cases h
      exact ⟨45 :: t, by rw [h45, e]; rfl, .neg _ _ g⟩
  · cases h1 : secondsD l with
    | none => rw [h1] at h; cases h
    | some p =>
      obtain ⟨a, q⟩ := p
      rw [h1] at h
      obtain ⟨t, e, g⟩ := seconds_got h1
      cases h
      exact ⟨t, e, .pos _ _ g⟩
theorem of_parse {l : Bs} {v : Int × Nat} (h : parseD l = some v) : Tells l v := by
  unfold parseD wholeD at h
  split at h
  · rename_i e
    subst e
    cases h
    exact .dash
  · unfold timeD at h
    cases h1 : signedD l with
    | none => rw [h1] at h; cases h
    | some p =>
      obtain ⟨n, r⟩ := p
      rw [h1] at h
      obtain ⟨t, e, g⟩ := signed_got h1
      cases r with
      | nil =>
        cases h
        have := Tells.mk t [] n 0 g .nil
        rwa [← e] at this
      | cons c r =>
        simp only [suffixD] at h
        cases hk : sufK c with
        | none => rw [hk] at h; cases h
        | some k =>
          rw [hk] at h
          simp only at h
          split at h
          · rename_i hr
            subst hr
            cases h
            have := Tells.mk t [c] n k g (.one c k hk)
            rwa [← e] at this
          · cases h
theorem of_amt {l : Bs} {n : Int} (h : amtD l = some n) : Amts l n := by
  unfold amtD wholeD at h
  split at h
  · rename_i e
    subst e
    cases h
    exact .dash
  · unfold amountD at h
    cases h1 : signedD l with
    | none => rw [h1] at h; cases h
    | some p =>
      obtain ⟨m, r⟩ := p
      rw [h1] at h
      obtain ⟨t, e, g⟩ := signed_got h1
      simp only at h
      split at h
      · cases h
      · rename_i hr
        split at hr
        · rename_i hin
          cases hr
          split at h
          · rename_i hr2
            subst hr2
            cases h
            rw [List.append_nil] at e
            subst e
            exact .mk _ _ g hin.1 hin.2
          · cases h
        · cases hr

theorem parse_iff {l : Bs} {v : Int × Nat} : parseD l = some v ↔ Tells l v := ⟨of_parse, parse_of⟩
theorem amt_iff {l : Bs} {n : Int} : amtD l = some n ↔ Amts l n := ⟨of_amt, amt_of⟩

/- the document's answer -/
def valN (s : Bs) : Nat := s.foldl (fun a c => a * 10 + dv c) 0
def numI (s : Bs) (least many most : Nat) : Int := if least ≤ s.length ∧ s.length ≤ many ∧ s.all digB = true ∧ valN s ≤ most then (valN s : Int) else -1
def splitC : Bs → List Bs
  | [] => [[]]
  | c :: r => if c = 58 then [] :: splitC r else (c :: (splitC r).headD []) :: (splitC r).tail
def rsum3 (H M S : Int) : Option Int := if H < 0 ∨ M < 0 ∨ S < 0 then none else some ((H * 60 + M) * 60 + S)
def rsumD : List Bs → Option Int
  | [h] => rsum3 (numI h 1 3 167) 0 0
  | [h, m] => rsum3 (numI h 1 3 167) (numI m 2 2 59) 0
  | [h, m, s] => rsum3 (numI h 1 3 167) (numI m 2 2 59) (numI s 2 2 59)
  | _ => none
def negO (b : Bool) : Option Int → Option Int
  | none => none
  | some n => some (if b = true then -n else n)
def rtimeD (l : Bs) : Option Int := if l = [45] then some 0 else if l.head? = some 45 then negO true (rsumD (splitC l.tail)) else negO false (rsumD (splitC l))
def withK (k : Nat) : Option Int → Option (Int × Nat)
  | none => none
  | some n => some (n, k)
def lastK (l : Bs) : Option Nat := if 1 < l.length then match l.getLast? with
    | none => none
    | some c => sufK c
  else none
def rparseD (l : Bs) : Option (Int × Nat) := match lastK l with
  | none => withK 0 (rtimeD l)
  | some k => if l.dropLast = [45] then none else withK k (rtimeD l.dropLast)
def ramtD (l : Bs) : Option Int := match rtimeD l with
  | none => none
  | some n => if -86400 ≤ n ∧ n ≤ 86400 then some n else none

theorem num_hrs {h : Bs} {n : Nat} (hh : Hrs h n) : numI h 1 3 167 = (n : Int) := by
  cases hh with
  | one a ha =>
    have := dv_lt ha
    rw [numI, if_pos ⟨by simp, by simp, by simp [ha], by simp [valN]; omega⟩]
    simp [valN]
  | two a b ha hb =>
    have := dv_lt ha
    have := dv_lt hb
    rw [numI, if_pos ⟨by simp, by simp, by simp [ha, hb], by simp [valN]; omega⟩]
    simp [valN]
  | three a b c ha hb hc hle =>
    rw [numI, if_pos ⟨by simp, by simp, by simp [ha, hb, hc], by simp [valN]; omega⟩]
    simp [valN]
theorem num_six {x : Bs} {n : Nat} (h : Six x n) : numI x 2 2 59 = (n : Int) := by
  cases h with
  | mk a b ha hb hlt =>
    rw [numI, if_pos ⟨by simp, by simp, by simp [ha, hb], by simp [valN]; omega⟩]
    simp [valN]
theorem hrs_num {h : Bs} (hn : ¬ numI h 1 3 167 < 0) : ∃ n, Hrs h n := by
  unfold numI at hn
  split at hn
  · rename_i hc
    obtain ⟨h1, h2, h3, h4⟩ := hc
    match h, h1, h2, h3, h4 with
    | [a], _, _, h3, _ => exact ⟨_, .one a (by simpa using h3)⟩
    | [a, b], _, _, h3, _ =>
      simp at h3
      exact ⟨_, .two a b h3.1 h3.2⟩
    | [a, b, c], _, _, h3, h4 =>
      simp at h3
      exact ⟨_, .three a b c h3.1 h3.2.1 h3.2.2 (by simpa [valN] using h4)⟩
  · omega
theorem six_num {h : Bs} (hn : ¬ numI h 2 2 59 < 0) : ∃ n, Six h n := by
  unfold numI at hn
  split at hn
  · rename_i hc
    obtain ⟨h1, h2, h3, h4⟩ := hc
    match h, h1, h2, h3, h4 with
    | [a, b], _, _, h3, h4 =>
      simp at h3
      have : dv a * 10 + dv b ≤ 59 := by simpa [valN] using h4
      exact ⟨_, .mk a b h3.1 h3.2 (by omega)⟩
  · omega

theorem split_one {h : Bs} (hh : ∀ c ∈ h, c ≠ 58) : splitC h = [h] := by
  induction h with
  | nil => rfl
  | cons c h ih =>
    have hc : c ≠ 58 := hh c (by simp)
    have := ih (fun d hd => hh d (by simp [hd]))
    simp [splitC, hc, this]
theorem split_cut {h : Bs} (hh : ∀ c ∈ h, c ≠ 58) (r : Bs) : splitC (h ++ 58 :: r) = h :: splitC r := by
  induction h with
  | nil => simp [splitC]
  | cons c h ih =>
    have hc : c ≠ 58 := hh c (by simp)
    have := ih (fun d hd => hh d (by simp [hd]))
    simp [splitC, hc, this]
theorem split_inv {l : Bs} : ∀ {h : Bs} {t : List Bs}, splitC l = h :: t → (t = [] ∧ l = h) ∨ ∃ r, l = h ++ 58 :: r ∧ splitC r = t := by
  induction l with
  | nil =>
    intro h t e
    simp [splitC] at e
    exact .inl ⟨e.2, e.1.symm⟩
  | cons c l ih =>
    intro h t e
    simp only [splitC] at e
    split at e
    · rename_i hc
      obtain ⟨e1, e2⟩ := List.cons.inj e
      subst hc
      exact .inr ⟨l, by rw [← e1]; rfl, e2⟩
    · obtain ⟨e1, e2⟩ := List.cons.inj e
      cases hs : splitC l with
      | nil => cases l <;> simp [splitC] at hs; split at hs <;> cases hs
      | cons x y =>
        rw [hs] at e1 e2
        simp at e1 e2
        rcases ih hs with ⟨h1, h2⟩ | ⟨r, h1, h2⟩
        · left
          exact ⟨by rw [← e2, h1], by rw [← e1, h2]⟩
        · right
          exact ⟨r, by rw [← e1, h1]; rfl, by rw [h2, e2]⟩
theorem hrs_free {h : Bs} {n : Nat} (hh : Hrs h n) : ∀ c ∈ h, c ≠ 58 := by
  cases hh with
  | one a ha => simp [(dig_ne ha).1]
  | two a b ha hb => simp [(dig_ne ha).1, (dig_ne hb).1]
  | three a b c ha hb hc _ => simp [(dig_ne ha).1, (dig_ne hb).1, (dig_ne hc).1]
theorem six_free {h : Bs} {n : Nat} (hh : Six h n) : ∀ c ∈ h, c ≠ 58 := by
  cases hh with
  | mk a b ha hb _ => simp [(dig_ne ha).1, (dig_ne hb).1]
theorem rsum_txt {t : Bs} {m : Nat} (h : Txt t m) : rsumD (splitC t) = some (m : Int) := by
  cases h with
  | mk h ms n k hh hm =>
    cases hm with
    | nil =>
      rw [List.append_nil, split_one (hrs_free hh), rsumD, num_hrs hh, rsum3, if_neg (by omega)]
      congr 1; omega
    | m x n' hx =>
      rw [split_cut (hrs_free hh), split_one (six_free hx), rsumD, num_hrs hh, num_six hx, rsum3, if_neg (by omega)]
      congr 1; omega
    | ms x y n' k' hx hy =>
      rw [split_cut (hrs_free hh), split_cut (six_free hx), split_one (six_free hy), rsumD, num_hrs hh, num_six hx, num_six hy, rsum3, if_neg (by omega)]
      congr 1; omega
theorem rsum3_some {H M S v : Int} (h : rsum3 H M S = some v) : ¬ H < 0 ∧ ¬ M < 0 ∧ ¬ S < 0 ∧ v = (H * 60 + M) * 60 + S := by
  unfold rsum3 at h
  split at h
  · cases h
  · rename_i hn
    cases h
    omega
theorem txt_rsum {t : Bs} {v : Int} (h : rsumD (splitC t) = some v) : ∃ m : Nat, Txt t m ∧ v = (m : Int) := by
  have key : ∃ m : Nat, Txt t m := by
    cases hs : splitC t with
    | nil => rw [hs] at h; cases h
    | cons a q =>
      rw [hs] at h
      have i1 := split_inv hs
      match q, h, i1 with
      | [], h, i1 =>
        obtain ⟨h1, -, -, -⟩ := rsum3_some h
        obtain ⟨n, g⟩ := hrs_num h1
        rcases i1 with ⟨-, rfl⟩ | ⟨r, -, e⟩
        · have := Txt.mk _ _ _ _ g .nil
          rw [List.append_nil] at this
          exact ⟨_, this⟩
        · cases r <;> simp [splitC] at e
          split at e <;> cases e
      | [b], h, i1 =>
        obtain ⟨h1, h2, -, -⟩ := rsum3_some h
        obtain ⟨n, g⟩ := hrs_num h1
        obtain ⟨k, g2⟩ := six_num h2
        rcases i1 with ⟨e, -⟩ | ⟨r, rfl, e⟩
        · cases e
        · rcases split_inv e with ⟨-, rfl⟩ | ⟨r2, -, e2⟩
          · exact ⟨_, .mk _ _ _ _ g (.m _ _ g2)⟩
          · cases r2 <;> simp [splitC] at e2
            split at e2 <;> cases e2
      | [b, c], h, i1 =>
        obtain ⟨h1, h2, h3, -⟩ := rsum3_some h
        obtain ⟨n, g⟩ := hrs_num h1
        obtain ⟨k, g2⟩ := six_num h2
        obtain ⟨j, g3⟩ := six_num h3
        rcases i1 with ⟨e, -⟩ | ⟨r, rfl, e⟩
        · cases e
        · rcases split_inv e with ⟨e2, -⟩ | ⟨r2, rfl, e2⟩
          · cases e2
          · rcases split_inv e2 with ⟨-, rfl⟩ | ⟨r3, -, e3⟩
            · exact ⟨_, .mk _ _ _ _ g (.ms _ _ _ _ g2 g3)⟩
            · cases r3 <;> simp [splitC] at e3
              split at e3 <;> cases e3
      | _ :: _ :: _ :: _, h, _ => cases h
  obtain ⟨m, g⟩ := key
  have := rsum_txt g
  rw [h] at this
  exact ⟨m, g, Option.some.inj this⟩
theorem rtime_sgn {t : Bs} {n : Int} (h : Sgn t n) : rtimeD t = some n := by
  have hne := (sgn_ne h).2.1
  cases h with
  | pos t m ht =>
    obtain ⟨a, q, e, ha⟩ := txt_head ht
    have h45 := (dig_ne ha).2.1
    rw [rtimeD, if_neg hne, if_neg (by rw [e]; simpa using h45), rsum_txt ht]
    simp [negO]
  | neg t m ht =>
    rw [rtimeD, if_neg hne, if_pos List.head?_cons, List.tail_cons, rsum_txt ht]
    simp [negO]
theorem sgn_rtime {t : Bs} {n : Int} (h : rtimeD t = some n) : (t = [45] ∧ n = 0) ∨ Sgn t n := by
  unfold rtimeD at h
  split at h
  · cases h; exact .inl ⟨by assumption, rfl⟩
  · split at h
    · rename_i h45
      have h45 := head_tail h45
      cases hs : rsumD (splitC t.tail) with
      | none => rw [hs] at h; cases h
      | some v =>
        rw [hs] at h
        obtain ⟨m, g, rfl⟩ := txt_rsum hs
        cases h
        right
        rw [h45]
        exact .neg _ _ g
    · cases hs : rsumD (splitC t) with
      | none => rw [hs] at h; cases h
      | some v =>
        rw [hs] at h
        obtain ⟨m, g, rfl⟩ := txt_rsum hs
        cases h
        exact .inr (.pos _ _ g)
theorem hrs_last {h : Bs} {n : Nat} (hh : Hrs h n) : ∃ q c, h = q ++ [c] ∧ digB c = true := by
  cases hh with
  | one a ha => exact ⟨[], a, rfl, ha⟩
  | two a b ha hb => exact ⟨[a], b, rfl, hb⟩
  | three a b c ha hb hc _ => exact ⟨[a, b], c, rfl, hc⟩
theorem six_last {h : Bs} {n : Nat} (hh : Six h n) : ∃ q c, h = q ++ [c] ∧ digB c = true := by
  cases hh with
  | mk a b ha hb _ => exact ⟨[a], b, rfl, hb⟩
theorem sgn_last {t : Bs} {n : Int} (h : Sgn t n) : ∃ q c, t = q ++ [c] ∧ digB c = true := by
  have key : ∀ {t : Bs} {m : Nat}, Txt t m → ∃ q c, t = q ++ [c] ∧ digB c = true := fun ht => by
    cases ht with
    | mk h ms n k hh hm =>
      cases hm with
      | nil =>
        rw [List.append_nil]
        exact hrs_last hh
      | m x n' hx =>
        obtain ⟨q, c, rfl, hc⟩ := six_last hx
        exact ⟨h ++ 58 :: q, c, by simp, hc⟩
      | ms x y n' k' hx hy =>
        obtain ⟨q, c, rfl, hc⟩ := six_last hy
        exact ⟨h ++ 58 :: (x ++ 58 :: q), c, by simp, hc⟩
  cases h with
  | pos t m ht => exact key ht
  | neg t m ht =>
    obtain ⟨q, c, rfl, hc⟩ := key ht
    exact ⟨45 :: q, c, rfl, hc⟩
theorem rparse_of {l : Bs} {v : Int × Nat} (h : Tells l v) : rparseD l = some v := by
  cases h with
  | dash => decide
  | mk t x n k ht hx =>
    cases hx with
    | nil =>
      obtain ⟨q, c, e, hc⟩ := sgn_last ht
      have hl : lastK t = none := by
        unfold lastK
        split
        · rw [e]
          simp [(dig_ne hc).2.2]
        · rfl
      rw [List.append_nil, rparseD, hl, rtime_sgn ht]
      rfl
    | one c k hk =>
      have hp := List.length_pos_iff.2 (sgn_ne ht).1
      have hl : lastK (t ++ [c]) = some k := by
        rw [lastK, if_pos (by simp; omega)]
        simp [hk]
      rw [rparseD, hl]
      simp only [List.dropLast_concat]
      rw [if_neg (sgn_ne ht).2.1, rtime_sgn ht]
      rfl
theorem of_rparse {l : Bs} {v : Int × Nat} (h : rparseD l = some v) : Tells l v := by
  unfold rparseD at h
  cases hl : lastK l with
  | none =>
    rw [hl] at h
    simp only at h
    cases hr : rtimeD l with
    | none => rw [hr] at h; cases h
    | some n =>
      rw [hr] at h
      cases h
      rcases sgn_rtime hr with ⟨rfl, rfl⟩ | g
      · exact .dash
      · have := Tells.mk l [] n 0 g .nil
        rwa [List.append_nil] at this
  | some k =>
    rw [hl] at h
    simp only at h
    split at h
    · cases h
    · rename_i hne
      cases hr : rtimeD l.dropLast with
      | none => rw [hr] at h; cases h
      | some n =>
        rw [hr] at h
        cases h
        unfold lastK at hl
        split at hl
        · rename_i hlen
          cases hg : l.getLast? with
          | none => rw [hg] at hl; cases hl
          | some c =>
            rw [hg] at hl
            have hl : sufK c = some k := hl
            have e : l = l.dropLast ++ [c] := by
              obtain ⟨y, hy⟩ := List.getLast?_eq_some_iff.1 hg
              rw [hy]
              simp
            rcases sgn_rtime hr with ⟨h1, -⟩ | g
            · exact absurd h1 hne
            · have := Tells.mk _ [c] n k g (.one c k hl)
              rwa [← e] at this
        · cases hl
theorem opt_ext {α : Type} {a b : Option α} (h : ∀ v, a = some v ↔ b = some v) : a = b := by
  cases a with
  | none =>
    cases b with
    | none => rfl
    | some v => exact absurd ((h v).2 rfl) (by simp)
  | some v => exact ((h v).1 rfl).symm
theorem rparse_eq (l : Bs) : rparseD l = parseD l := opt_ext fun _ => ⟨fun h => parse_of (of_rparse h), fun h => rparse_of (of_parse h)⟩
theorem ramt_eq (l : Bs) : ramtD l = amtD l := opt_ext fun v => by
  constructor
  · intro h
    unfold ramtD at h
    cases hr : rtimeD l with
    | none => rw [hr] at h; cases h
    | some n =>
      rw [hr] at h
      simp only at h
      split at h
      · rename_i hin
        cases h
        rcases sgn_rtime hr with ⟨rfl, rfl⟩ | g
        · exact amt_of .dash
        · exact amt_of (.mk _ _ g hin.1 hin.2)
      · cases h
  · intro h
    cases of_amt h with
    | dash => decide
    | mk t n g h1 h2 => rw [ramtD, rtime_sgn g]; simp [h1, h2]

/- what is shown -/
def chr (n : Nat) : UInt8 := UInt8.ofNat (48 + n)
def twoL (n : Nat) : Bs := [chr (n / 10), chr (n % 10)]
def secL (n : Nat) : Bs := if n = 0 then [] else 58 :: twoL n
def textN (a : Nat) : Bs := Lib.decDigits (a / 3600) ++ (58 :: twoL (a % 3600 / 60)) ++ secL (a % 60)
def textL (n : Int) : Bs := if n < 0 then 45 :: textN n.natAbs else textN n.natAbs
def markL (k : Nat) : Bs := if k = 1 then [115] else if k = 2 then [117] else []
theorem chr_dig {n : Nat} (h : n < 10) : digB (chr n) = true ∧ dv (chr n) = n := by
  have e : (chr n).toNat = 48 + n := by rw [chr, UInt8.toNat_ofNat']; omega
  rw [digB_iff, dv, e]
  omega
theorem six_two {n : Nat} (h : n < 60) : Six (twoL n) n := by
  have h1 := chr_dig (n := n / 10) (by omega)
  have h2 := chr_dig (n := n % 10) (by omega)
  have := Six.mk _ _ h1.1 h2.1 (by rw [h1.2, h2.2]; omega)
  rw [h1.2, h2.2] at this
  rwa [show n / 10 * 10 + n % 10 = n by omega] at this
theorem dec_eq (n : Nat) (h : n < 1000) : Lib.decDigits n = if n < 10 then [chr n] else if n < 100 then [chr (n / 10), chr (n % 10)] else [chr (n / 100), chr (n / 10 % 10), chr (n % 10)] := by
  by_cases h1 : n < 10
  · rw [if_pos h1, Lib.decDigits_one h1]
    rfl
  · rw [if_neg h1, Lib.decDigits, dif_neg h1]
    by_cases h2 : n < 100
    · rw [if_pos h2, Lib.decDigits_one (by omega)]
      rfl
    · rw [if_neg h2, Lib.decDigits, dif_neg (by omega), Lib.decDigits_one (by omega), show n / 10 / 10 = n / 100 by omega]
      rfl
theorem hrs_dec {n : Nat} (h : n ≤ 167) : Hrs (Lib.decDigits n) n := by
  rw [dec_eq n (by omega)]
  split
  · rename_i h1
    have g := chr_dig h1
    have := Hrs.one _ g.1
    rwa [g.2] at this
  · split
    · have h1 := chr_dig (n := n / 10) (by omega)
      have h2 := chr_dig (n := n % 10) (by omega)
      have := Hrs.two _ _ h1.1 h2.1
      rw [h1.2, h2.2] at this
      rwa [show n / 10 * 10 + n % 10 = n by omega] at this
    · have h1 := chr_dig (n := n / 100) (by omega)
      have h2 := chr_dig (n := n / 10 % 10) (by omega)
      have h3 := chr_dig (n := n % 10) (by omega)
      have e : (n / 100 * 10 + n / 10 % 10) * 10 + n % 10 = n := by omega
      have := Hrs.three _ _ _ h1.1 h2.1 h3.1 (by rw [h1.2, h2.2, h3.2]; omega)
      rw [h1.2, h2.2, h3.2] at this
      rwa [e] at this
theorem txt_show {a : Nat} (h : a ≤ 604799) : Txt (textN a) a := by
  have g1 := hrs_dec (n := a / 3600) (by omega)
  have g2 := six_two (n := a % 3600 / 60) (by omega)
  have g3 := six_two (n := a % 60) (by omega)
  unfold textN secL
  rw [List.append_assoc]
  split
  · have := Txt.mk _ _ _ _ g1 (.m _ _ g2)
    rw [List.append_nil]
    rwa [show a / 3600 * 3600 + a % 3600 / 60 * 60 = a by omega] at this
  · have := Txt.mk _ _ _ _ g1 (.ms _ _ _ _ g2 g3)
    rwa [show a / 3600 * 3600 + (a % 3600 / 60 * 60 + a % 60) = a by omega] at this
theorem sgn_show {n : Int} (h1 : -604799 ≤ n) (h2 : n ≤ 604799) : Sgn (textL n) n := by
  have g := txt_show (a := n.natAbs) (by omega)
  unfold textL
  split
  · have := Sgn.neg _ _ g
    rwa [show -(n.natAbs : Int) = n by omega] at this
  · have := Sgn.pos _ _ g
    rwa [show (n.natAbs : Int) = n by omega] at this
theorem suf_mark {k : Nat} (h : k ≤ 2) : Suf (markL k) k := by
  match k, h with
  | 0, _ => exact .nil
  | 1, _ => exact .one _ _ (by decide)
  | 2, _ => exact .one _ _ (by decide)
/-- what is shown is read as it was -/
theorem parse_show {n : Int} {k : Nat} (h1 : -604799 ≤ n) (h2 : n ≤ 604799) (hk : k ≤ 2) : parseD (textL n ++ markL k) = some (n, k) := parse_of (.mk _ _ _ _ (sgn_show h1 h2) (suf_mark hk))
theorem amt_show {n : Int} (h1 : -86400 ≤ n) (h2 : n ≤ 86400) : amtD (textL n) = some n := amt_of (.mk _ _ (sgn_show (by omega) (by omega)) h1 h2)
theorem txt_range {t : Bs} {m : Nat} (h : Txt t m) : m ≤ 604799 := by
  cases h with
  | mk h ms n k hh hm =>
    have a1 : n ≤ 167 := by
      cases hh with
      | one a ha => have := dv_lt ha; omega
      | two a b ha hb => have := dv_lt ha; have := dv_lt hb; omega
      | three a b c ha hb hc hle => exact hle
    have s59 : ∀ {x : Bs} {n : Nat}, Six x n → n ≤ 59 := fun hx => by cases hx with | mk a b ha hb h => omega
    have a2 : k ≤ 3599 := by
      cases hm with
      | nil => omega
      | m x n hx => have := s59 hx; omega
      | ms x y n k hx hy => have := s59 hx; have := s59 hy; omega
    omega
theorem parse_range {l : Bs} {n : Int} {k : Nat} (h : parseD l = some (n, k)) : -604799 ≤ n ∧ n ≤ 604799 ∧ k ≤ 2 := by
  cases of_parse h with
  | dash => omega
  | mk t x n k g hx =>
    have hk : k ≤ 2 := by
      cases hx with
      | nil => omega
      | one c k hk => exact (suf_ne hk).2.2.2
    cases g with
    | pos t m ht => have := txt_range ht; omega
    | neg t m ht => have := txt_range ht; omega
/- hours in two digits or three, minutes, seconds -/
def hhL (h : Nat) : Bs := if 99 < h then [chr (h / 100), chr (h / 10 % 10), chr (h % 10)] else [chr (h / 10 % 10), chr (h % 10)]
theorem hrs_hh {h : Nat} (hh : h ≤ 167) : Hrs (hhL h) h := by
  have h1 := chr_dig (n := h / 100) (by omega)
  have h2 := chr_dig (n := h / 10 % 10) (by omega)
  have h3 := chr_dig (n := h % 10) (by omega)
  unfold hhL
  split
  · have e : (h / 100 * 10 + h / 10 % 10) * 10 + h % 10 = h := by omega
    have := Hrs.three _ _ _ h1.1 h2.1 h3.1 (by rw [h1.2, h2.2, h3.2]; omega)
    rw [h1.2, h2.2, h3.2] at this
    rwa [e] at this
  · have := Hrs.two _ _ h2.1 h3.1
    rw [h2.2, h3.2] at this
    rwa [show h / 10 % 10 * 10 + h % 10 = h by omega] at this
def hmsL (low : Bool) (h m s : Nat) : Bs := (if low = true then [45] else []) ++ (hhL h ++ (58 :: (twoL m ++ 58 :: twoL s)))
def hmsV (low : Bool) (h m s : Nat) : Int := if low = true then -((h * 3600 + (m * 60 + s) : Nat) : Int) else ((h * 3600 + (m * 60 + s) : Nat) : Int)
theorem sgn_hms {low : Bool} {h m s : Nat} (h1 : h ≤ 167) (h2 : m < 60) (h3 : s < 60) : Sgn (hmsL low h m s) (hmsV low h m s) := by
  have g := Txt.mk _ _ _ _ (hrs_hh h1) (.ms _ _ _ _ (six_two h2) (six_two h3))
  cases low
  · exact .pos _ _ g
  · exact .neg _ _ g
theorem parse_hms {low : Bool} {h m s : Nat} (h1 : h ≤ 167) (h2 : m < 60) (h3 : s < 60) {x : Bs} {k : Nat} (hx : Suf x k) : parseD (hmsL low h m s ++ x) = some (hmsV low h m s, k) := parse_of (.mk _ _ _ _ (sgn_hms h1 h2 h3) hx)
end Go.Clk
