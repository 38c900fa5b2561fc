import Derived.Lib.ItoaNum
namespace Go.Clk
abbrev Bs := List UInt8
def digB (c : UInt8) : Bool := 48 ≤ c.toNat && c.toNat ≤ 57
def dv (c : UInt8) : Nat := c.toNat - 48
theorem QaP (c : UInt8) : digB c = true ↔ 48 ≤ c.toNat ∧ c.toNat ≤ 57 := by simp [digB]

/- what the reader's methods take: a value and what is left,or none -/
def Qb4 : Bs → Option (Nat × Bs)
 | [] => none
 | c :: r => if digB c = true then some (dv c,r) else none
def Qe0 : Nat → Nat → Bs → Nat × Bs
 | 0,n,r => (n,r)
 | _ + 1,n,[] => (n,[])
 | k + 1,n,c :: r => if digB c = true then Qe0 k (n * 10 + dv c) r else (n,c :: r)
def QcQ (l : Bs) : Option (Nat × Bs) := match Qb4 l with
 | none => none
 | some (a,r) => if (Qe0 2 a r).1 ≤ 167 then some (Qe0 2 a r) else none
def sixD (l : Bs) : Option (Nat × Bs) := match Qb4 l with
 | none => none
 | some (a,r) => match Qb4 r with
  | none => none
  | some (b,r') => if a * 10 + b < 60 then some (a * 10 + b,r') else none
def QaV (l : Bs) : Option (Nat × Bs) := match QcQ l with
 | none => none
 | some (h,r) => if r.head? = some 58 then match sixD r.tail with
   | none => none
   | some (m,r1) => if r1.head? = some 58 then match sixD r1.tail with
     | none => none
     | some (s,r2) => some (h * 3600 + (m * 60 + s),r2)
    else some (h * 3600 + m * 60,r1)
  else some (h * 3600,r)
def QbN (l : Bs) : Option (Int × Bs) := if l.head? = some 45 then match QaV l.tail with
  | none => none
  | some (n,r) => some (-(n : Int),r)
 else match QaV l with
  | none => none
  | some (n,r) => some ((n : Int),r)
def sufK (c : UInt8) : Option Nat := if c = 119 then some 0 else if c = 115 then some 1 else if c = 117 ∨ c = 103 ∨ c = 122 then some 2 else none
def Qct : Bs → Option (Nat × Bs)
 | [] => some (0,[])
 | c :: r => match sufK c with
  | none => none
  | some k => some (k,r)
def QgC (l : Bs) : Option ((Int × Nat) × Bs) := match QbN l with
 | none => none
 | some (n,r) => match Qct r with
  | none => none
  | some (k,r') => some ((n,k),r')
def Qdg (l : Bs) : Option (Int × Bs) := match QbN l with
 | none => none
 | some (n,r) => if -86400 ≤ n ∧ n ≤ 86400 then some (n,r) else none
def QdX {α : Type} (z : α) (f : Bs → Option (α × Bs)) (l : Bs) : Option α := if l = [45] then some z else match f l with
 | none => none
 | some (v,r) => if r = [] then some v else none
abbrev QbG (l : Bs) : Option (Int × Nat) := QdX (0,0) QgC l
abbrev amtD (l : Bs) : Option Int := QdX 0 Qdg l

/- the words: which texts are times -/
inductive Hrs : Bs → Nat → Prop
 | one (a : UInt8) : digB a = true → Hrs [a] (dv a)
 | two (a b : UInt8) : digB a = true → digB b = true → Hrs [a,b] (dv a * 10 + dv b)
 | three (a b c : UInt8) : digB a = true → digB b = true → digB c = true → (dv a * 10 + dv b) * 10 + dv c ≤ 167 → Hrs [a,b,c] ((dv a * 10 + dv b) * 10 + dv c)
inductive Six : Bs → Nat → Prop
 | mk (a b : UInt8) : digB a = true → digB b = true → dv a * 10 + dv b < 60 → Six [a,b] (dv a * 10 + dv b)
inductive Mns : Bs → Nat → Prop
 | nil : Mns [] 0
 | m (x : Bs) (n : Nat) : Six x n → Mns (58 :: x) (n * 60)
 | ms (x y : Bs) (n k : Nat) : Six x n → Six y k → Mns (58 :: (x ++ 58 :: y)) (n * 60 + k)
inductive Txt : Bs → Nat → Prop
 | mk (h m : Bs) (n k : Nat) : Hrs h n → Mns m k → Txt (h ++ m) (n * 3600 + k)
inductive Sgn : Bs → Int → Prop
 | pos (t : Bs) (m : Nat) : Txt t m → Sgn t (m : Int)
 | neg (t : Bs) (m : Nat) : Txt t m → Sgn (45 :: t) (-(m : Int))
inductive Suf : Bs → Nat → Prop
 | nil : Suf [] 0
 | one (c : UInt8) (k : Nat) : sufK c = some k → Suf [c] k
inductive Tells : Bs → Int × Nat → Prop
 | dash : Tells [45] (0,0)
 | mk (t x : Bs) (n : Int) (k : Nat) : Sgn t n → Suf x k → Tells (t ++ x) (n,k)
inductive Amts : Bs → Int → Prop
 | dash : Amts [45] 0
 | mk (t : Bs) (n : Int) : Sgn t n → -86400 ≤ n → n ≤ 86400 → Amts t n

theorem Qge {c : UInt8} (h : digB c = true) : dv c < 10 := by
 have := (QaP c).1 h;unfold dv;omega
theorem Qd1 {c : UInt8} (h : digB c = true) : c ≠ 58 ∧ c ≠ 45 ∧ sufK c = none := by
 have := (QaP c).1 h;have e : ∀ k : UInt8,c = k → c.toNat = k.toNat := fun k e => by rw [e]
 refine ⟨fun x => ?_,fun x => ?_,?_⟩
 ·have := e _ x; simp at this; omega
 ·have := e _ x; simp at this; omega
 ·have h1 : c ≠ 119 := fun x => by have := e _ x; simp at this; omega
  have h2 : c ≠ 115 := fun x => by have := e _ x; simp at this; omega
  have h3 : c ≠ 117 := fun x => by have := e _ x; simp at this; omega
  have h4 : c ≠ 103 := fun x => by have := e _ x; simp at this; omega
  have h5 : c ≠ 122 := fun x => by have := e _ x; simp at this; omega
  simp [sufK,h1,h2,h3,h4,h5]
theorem suf_ne {c : UInt8} {k : Nat} (h : sufK c = some k) : c ≠ 58 ∧ c ≠ 45 ∧ digB c = false ∧ k ≤ 2 := by
 unfold sufK at h;split at h
 ·rename_i e; subst e; cases h; decide
 ·split at h
  ·rename_i e; subst e; cases h; decide
  ·split at h
   ·rename_i e;rcases e with e | e | e <;> (subst e; cases h; decide)
   ·cases h

/-- what may stand Qak a time -/
def Stop (r : Bs) : Prop := r.head? ≠ some 58 ∧ ∀ c,r.head? = some c → digB c = false
theorem Stop.nil : Stop [] := ⟨by simp,by simp⟩
theorem Suf.stop {x : Bs} {k : Nat} (h : Suf x k) : Stop x := by
 cases h with
 | nil => exact Stop.nil
 | one c k h =>
  obtain ⟨h1,-,h2,-⟩ := suf_ne h;refine ⟨by simpa using h1,fun d hd => ?_⟩;obtain rfl : c = d := by simpa using hd
  exact h2

theorem Qg9 (k n : Nat) {r : Bs} (h : ∀ c,r.head? = some c → digB c = false) : Qe0 k n r = (n,r) := by
 cases k with
 | zero => rfl
 | succ k => cases r with
  | nil => rfl
  | cons c r => simp [Qe0,h c rfl]
theorem Qhh {h : Bs} {n : Nat} (hh : Hrs h n) {r : Bs} (hr : ∀ c,r.head? = some c → digB c = false) : QcQ (h ++ r) = some (n,r) := by
 cases hh with
 | one a ha =>
  have := Qge ha;simp only [List.cons_append,List.nil_append,QcQ,Qb4,ha,if_true,Qg9 _ _ hr];rw [if_pos (by omega)]
 | two a b ha hb =>
  have := Qge ha;have := Qge hb;simp only [List.cons_append,List.nil_append,QcQ,Qb4,ha,if_true,Qe0,hb,Qg9 _ _ hr];rw [if_pos (by omega)]
 | three a b c ha hb hc hle =>
  simp only [List.cons_append,List.nil_append,QcQ,Qb4,ha,if_true,Qe0,hb,hc];rw [if_pos (by omega)]
theorem Qkq {x : Bs} {n : Nat} (h : Six x n) (r : Bs) : sixD (x ++ r) = some (n,r) := by
 cases h with
 | mk a b ha hb hlt => simp [sixD,Qb4,ha,hb,hlt]
theorem QgQ {t : Bs} {m : Nat} (h : Txt t m) {r : Bs} (hr : Stop r) : QaV (t ++ r) = some (m,r) := by
 cases h with
 | mk h ms n k hh hm =>
  cases hm with
  | nil =>
   rw [List.append_nil];simp only [QaV,Qhh hh hr.2,if_neg hr.1];simp
  | m x n' hx =>
   rw [List.append_assoc];have e := Qhh hh (r := (58 :: x) ++ r) (by simp; decide);simp only [List.cons_append] at e ⊢;simp only [QaV,e,List.head?_cons,if_true,List.tail_cons,Qkq hx,if_neg hr.1]
  | ms x y n' k' hx hy =>
   rw [List.append_assoc];have e := Qhh hh (r := (58 :: (x ++ 58 :: y)) ++ r) (by simp; decide);simp only [List.cons_append,List.append_assoc] at e ⊢;simp only [QaV,e,List.head?_cons,if_true,List.tail_cons,Qkq hx,Qkq hy]
theorem Qgg {t : Bs} {m : Nat} (h : Txt t m) : ∃ a r,t = a :: r ∧ digB a = true := by
 cases h with
 | mk h ms n k hh hm => cases hh <;> exact ⟨_,_,rfl,by assumption⟩
theorem QhP {t : Bs} {n : Int} (h : Sgn t n) {r : Bs} (hr : Stop r) : QbN (t ++ r) = some (n,r) := by
 cases h with
 | pos t m ht =>
  obtain ⟨a,q,rfl,ha⟩ := Qgg ht;have h45 := (Qd1 ha).2.1;rw [QbN,if_neg (by simpa using h45),QgQ ht hr]
 | neg t m ht =>
  simp [QbN,QgQ ht hr]
theorem Qjj {t : Bs} {n : Int} (h : Sgn t n) : t ≠ [] ∧ t ≠ [45] ∧ ∀ x,t ++ x ≠ [45] := by
 cases h with
 | pos t m ht =>
  obtain ⟨a,q,rfl,ha⟩ := Qgg ht;have h45 := (Qd1 ha).2.1;exact ⟨by simp,by simp [h45],by simp [h45]⟩
 | neg t m ht =>
  obtain ⟨a,q,rfl,ha⟩ := Qgg ht;exact ⟨by simp,by simp,by simp⟩
theorem Qm3 {x : Bs} {k : Nat} (h : Suf x k) : Qct x = some (k,[]) := by
 cases h with
 | nil => rfl
 | one c k h => simp [Qct,h]
theorem parse_of {l : Bs} {v : Int × Nat} (h : Tells l v) : QbG l = some v := by
 cases h with
 | dash => rfl
 | mk t x n k ht hx =>
  rw [QbG,QdX,if_neg ((Qjj ht).2.2 x),QgC,QhP ht hx.stop];simp [Qm3 hx]
theorem amt_of {l : Bs} {n : Int} (h : Amts l n) : amtD l = some n := by
 cases h with
 | dash => rfl
 | mk t n ht h1 h2 =>
  have := QhP ht Stop.nil;rw [List.append_nil] at this;rw [amtD,QdX,if_neg (Qjj ht).2.1,Qdg,this];simp [h1,h2]

/- what is read is a time's text -/
theorem Qfy {l : Bs} {a : Nat} {r : Bs} (h : Qb4 l = some (a,r)) : ∃ c,l = c :: r ∧ digB c = true ∧ a = dv c := by
 cases l with
 | nil => cases h
 | cons c l =>
  simp only [Qb4] at h;split at h
  ·rename_i hc;cases h
   exact ⟨c,rfl,hc,rfl⟩
  ·cases h
theorem QpU {l : Bs} {n : Nat} {r : Bs} (h : QcQ l = some (n,r)) : ∃ t,l = t ++ r ∧ Hrs t n := by
 unfold QcQ at h;cases hd : Qb4 l with
 | none => rw [hd] at h; cases h
 | some p =>
  obtain ⟨a,q⟩ := p;obtain ⟨c,rfl,hc,rfl⟩ := Qfy hd;rw [hd] at h;simp only at h;split at h
  ·rename_i hle;have h := Option.some.inj h;rw [h] at hle;cases q with
   | nil => cases h; exact ⟨[c],rfl,.one c hc⟩
   | cons b q =>
    simp only [Qe0] at h;split at h
    ·rename_i hb;cases q with
     | nil => cases h; exact ⟨[c,b],rfl,.two c b hc hb⟩
     | cons d q =>
      simp only [Qe0] at h;split at h
      ·rename_i hd';cases h; exact ⟨[c,b,d],rfl,.three c b d hc hb hd' hle⟩
      ·cases h; exact ⟨[c,b],rfl,.two c b hc hb⟩
    ·cases h; exact ⟨[c],rfl,.one c hc⟩
  ·cases h
theorem Qks {l : Bs} {n : Nat} {r : Bs} (h : sixD l = some (n,r)) : ∃ t,l = t ++ r ∧ Six t n := by
 unfold sixD at h;cases hd : Qb4 l with
 | none => rw [hd] at h; cases h
 | some p =>
  obtain ⟨a,q⟩ := p;obtain ⟨c,rfl,hc,rfl⟩ := Qfy hd;rw [hd] at h;simp only at h;cases hd2 : Qb4 q with
  | none => rw [hd2] at h; cases h
  | some p =>
   obtain ⟨b,q'⟩ := p;obtain ⟨e,rfl,he,rfl⟩ := Qfy hd2;rw [hd2] at h;simp only at h;split at h
   ·cases h; exact ⟨[c,e],rfl,.mk c e hc he (by assumption)⟩
   ·cases h
theorem Qda {r : Bs} {c : UInt8} (h : r.head? = some c) : r = c :: r.tail := by
 cases r with
 | nil => cases h
 | cons d r =>
  obtain rfl : d = c := by simpa using h
  rfl
theorem QeW {l : Bs} {n : Nat} {r : Bs} (h : QaV l = some (n,r)) : ∃ t,l = t ++ r ∧ Txt t n := by
 unfold QaV at h;cases h1 : QcQ l with
 | none => rw [h1] at h; cases h
 | some p =>
  obtain ⟨a,q⟩ := p;rw [h1] at h;obtain ⟨th,e1,g1⟩ := QpU h1;simp only at h;split at h
  ·rename_i hq;have hq := Qda hq;cases h2 : sixD q.tail with
   | none => rw [h2] at h; cases h
   | some p =>
    obtain ⟨m,q2⟩ := p;rw [h2] at h;obtain ⟨tm,e2,g2⟩ := Qks h2;simp only at h;split at h
    ·rename_i hq2;have hq2 := Qda hq2;cases h3 : sixD q2.tail with
     | none => rw [h3] at h; cases h
     | some p =>
      obtain ⟨s,q3⟩ := p;rw [h3] at h;obtain ⟨ts,e3,g3⟩ := Qks h3;cases h
      exact ⟨th ++ 58 :: (tm ++ 58 :: ts),by rw [e1,hq,e2,hq2,e3]; simp,.mk _ _ _ _ g1 (.ms _ _ _ _ g2 g3)⟩
    ·cases h
     exact ⟨th ++ 58 :: tm,by rw [e1,hq,e2]; simp,.mk _ _ _ _ g1 (.m _ _ g2)⟩
  ·cases h
   exact ⟨th,e1,by simpa using Txt.mk _ _ _ _ g1 .nil⟩
theorem QhQ {l : Bs} {n : Int} {r : Bs} (h : QbN l = some (n,r)) : ∃ t,l = t ++ r ∧ Sgn t n := by
 unfold QbN at h;split at h
 ·rename_i h45;have h45 := Qda h45;cases h1 : QaV l.tail with
  | none => rw [h1] at h; cases h
  | some p =>
   obtain ⟨a,q⟩ := p;rw [h1] at h;obtain ⟨t,e,g⟩ := QeW h1;cases h
   exact ⟨45 :: t,by rw [h45,e]; rfl,.neg _ _ g⟩
 ·cases h1 : QaV l with
  | none => rw [h1] at h; cases h
  | some p =>
   obtain ⟨a,q⟩ := p;rw [h1] at h;obtain ⟨t,e,g⟩ := QeW h1;cases h
   exact ⟨t,e,.pos _ _ g⟩
theorem Qmg {l : Bs} {v : Int × Nat} (h : QbG l = some v) : Tells l v := by
 unfold QbG QdX at h;split at h
 ·rename_i e;subst e;cases h
  exact .dash
 ·unfold QgC at h;cases h1 : QbN l with
  | none => rw [h1] at h; cases h
  | some p =>
   obtain ⟨n,r⟩ := p;rw [h1] at h;obtain ⟨t,e,g⟩ := QhQ h1;cases r with
   | nil =>
    cases h
    have := Tells.mk t [] n 0 g .nil
    rwa [← e] at this
   | cons c r =>
    simp only [Qct] at h;cases hk : sufK c with
    | none => rw [hk] at h; cases h
    | some k =>
     rw [hk] at h;simp only at h;split at h
     ·rename_i hr;subst hr;cases h
      have := Tells.mk t [c] n k g (.one c k hk)
      rwa [← e] at this
     ·cases h
theorem of_amt {l : Bs} {n : Int} (h : amtD l = some n) : Amts l n := by
 unfold amtD QdX at h;split at h
 ·rename_i e;subst e;cases h
  exact .dash
 ·unfold Qdg at h;cases h1 : QbN l with
  | none => rw [h1] at h; cases h
  | some p =>
   obtain ⟨m,r⟩ := p;rw [h1] at h;obtain ⟨t,e,g⟩ := QhQ h1;simp only at h;split at h
   ·cases h
   ·rename_i hr;split at hr
    ·rename_i hin;cases hr
     split at h
     ·rename_i hr2;subst hr2;cases h
      rw [List.append_nil] at e;subst e;exact .mk _ _ g hin.1 hin.2
     ·cases h
    ·cases hr

/- the document's answer -/
def valN (s : Bs) : Nat := s.foldl (fun a c => a * 10 + dv c) 0
def numI (s : Bs) (Qc9 many most : Nat) : Int := if Qc9 ≤ s.length ∧ s.length ≤ many ∧ s.all digB = true ∧ valN s ≤ most then (valN s : Int) else -1
def QaM : Bs → List Bs
 | [] => [[]]
 | c :: r => if c = 58 then [] :: QaM r else (c :: (QaM r).headD []) :: (QaM r).tail
def Qd5 (H M S : Int) : Option Int := if H < 0 ∨ M < 0 ∨ S < 0 then none else some ((H * 60 + M) * 60 + S)
def QeX : List Bs → Option Int
 | [h] => Qd5 (numI h 1 3 167) 0 0
 | [h,m] => Qd5 (numI h 1 3 167) (numI m 2 2 59) 0
 | [h,m,s] => Qd5 (numI h 1 3 167) (numI m 2 2 59) (numI s 2 2 59)
 | _ => none
def negO (b : Bool) : Option Int → Option Int
 | none => none
 | some n => some (if b = true then -n else n)
def Qb7 (l : Bs) : Option Int := if l = [45] then some 0 else if l.head? = some 45 then negO true (QeX (QaM l.tail)) else negO false (QeX (QaM l))
def withK (k : Nat) : Option Int → Option (Int × Nat)
 | none => none
 | some n => some (n,k)
def Qd6 (l : Bs) : Option Nat := if 1 < l.length then match l.getLast? with
  | none => none
  | some c => sufK c
 else none
def Qbf (l : Bs) : Option (Int × Nat) := match Qd6 l with
 | none => withK 0 (Qb7 l)
 | some k => if l.dropLast = [45] then none else withK k (Qb7 l.dropLast)
def ramtD (l : Bs) : Option Int := match Qb7 l with
 | none => none
 | some n => if -86400 ≤ n ∧ n ≤ 86400 then some n else none

theorem Qk2 {h : Bs} {n : Nat} (hh : Hrs h n) : numI h 1 3 167 = (n : Int) := by
 cases hh with
 | one a ha =>
  have := Qge ha;rw [numI,if_pos ⟨by simp,by simp,by simp [ha],by simp [valN]; omega⟩];simp [valN]
 | two a b ha hb =>
  have := Qge ha;have := Qge hb;rw [numI,if_pos ⟨by simp,by simp,by simp [ha,hb],by simp [valN]; omega⟩];simp [valN]
 | three a b c ha hb hc hle =>
  rw [numI,if_pos ⟨by simp,by simp,by simp [ha,hb,hc],by simp [valN]; omega⟩];simp [valN]
theorem Qk1 {x : Bs} {n : Nat} (h : Six x n) : numI x 2 2 59 = (n : Int) := by
 cases h with
 | mk a b ha hb hlt =>
  rw [numI,if_pos ⟨by simp,by simp,by simp [ha,hb],by simp [valN]; omega⟩];simp [valN]
theorem Qlk {h : Bs} (hn : ¬ numI h 1 3 167 < 0) : ∃ n,Hrs h n := by
 unfold numI at hn;split at hn
 ·rename_i hc;obtain ⟨h1,h2,h3,h4⟩ := hc
  match h,h1,h2,h3,h4 with
  | [a],_,_,h3,_ => exact ⟨_,.one a (by simpa using h3)⟩
  | [a,b],_,_,h3,_ =>
   simp at h3;exact ⟨_,.two a b h3.1 h3.2⟩
  | [a,b,c],_,_,h3,h4 =>
   simp at h3;exact ⟨_,.three a b c h3.1 h3.2.1 h3.2.2 (by simpa [valN] using h4)⟩
 ·omega
theorem Qkr {h : Bs} (hn : ¬ numI h 2 2 59 < 0) : ∃ n,Six h n := by
 unfold numI at hn;split at hn
 ·rename_i hc;obtain ⟨h1,h2,h3,h4⟩ := hc
  match h,h1,h2,h3,h4 with
  | [a,b],_,_,h3,h4 =>
   simp at h3;have : dv a * 10 + dv b ≤ 59 := by simpa [valN] using h4
   exact ⟨_,.mk a b h3.1 h3.2 (by omega)⟩
 ·omega

theorem QcK {h : Bs} (hh : ∀ c ∈ h,c ≠ 58) : QaM h = [h] := by
 induction h with
 | nil => rfl
 | cons c h ih =>
  have hc : c ≠ 58 := hh c (by simp);have := ih (fun d hd => hh d (by simp [hd]));simp [QaM,hc,this]
theorem Qfh {h : Bs} (hh : ∀ c ∈ h,c ≠ 58) (r : Bs) : QaM (h ++ 58 :: r) = h :: QaM r := by
 induction h with
 | nil => simp [QaM]
 | cons c h ih =>
  have hc : c ≠ 58 := hh c (by simp);have := ih (fun d hd => hh d (by simp [hd]));simp [QaM,hc,this]
theorem Qfg {l : Bs} : ∀ {h : Bs} {t : List Bs},QaM l = h :: t → (t = [] ∧ l = h) ∨ ∃ r,l = h ++ 58 :: r ∧ QaM r = t := by
 induction l with
 | nil =>
  intro h t e;simp [QaM] at e;exact .inl ⟨e.2,e.1.symm⟩
 | cons c l ih =>
  intro h t e;simp only [QaM] at e;split at e
  ·rename_i hc;obtain ⟨e1,e2⟩ := List.cons.inj e;subst hc;exact .inr ⟨l,by rw [← e1]; rfl,e2⟩
  ·obtain ⟨e1,e2⟩ := List.cons.inj e;cases hs : QaM l with
   | nil => cases l <;> simp [QaM] at hs; split at hs <;> cases hs
   | cons x y =>
    rw [hs] at e1 e2;simp at e1 e2;rcases ih hs with ⟨h1,h2⟩ | ⟨r,h1,h2⟩
    ·left;exact ⟨by rw [← e2,h1],by rw [← e1,h2]⟩
    ·right;exact ⟨r,by rw [← e1,h1]; rfl,by rw [h2,e2]⟩
theorem QiK {h : Bs} {n : Nat} (hh : Hrs h n) : ∀ c ∈ h,c ≠ 58 := by
 cases hh with
 | one a ha => simp [(Qd1 ha).1]
 | two a b ha hb => simp [(Qd1 ha).1,(Qd1 hb).1]
 | three a b c ha hb hc _ => simp [(Qd1 ha).1,(Qd1 hb).1,(Qd1 hc).1]
theorem Qip {h : Bs} {n : Nat} (hh : Six h n) : ∀ c ∈ h,c ≠ 58 := by
 cases hh with
 | mk a b ha hb _ => simp [(Qd1 ha).1,(Qd1 hb).1]
theorem Qiw {t : Bs} {m : Nat} (h : Txt t m) : QeX (QaM t) = some (m : Int) := by
 cases h with
 | mk h ms n k hh hm =>
  cases hm with
  | nil =>
   rw [List.append_nil,QcK (QiK hh),QeX,Qk2 hh,Qd5,if_neg (by omega)];congr 1; omega
  | m x n' hx =>
   rw [Qfh (QiK hh),QcK (Qip hx),QeX,Qk2 hh,Qk1 hx,Qd5,if_neg (by omega)];congr 1; omega
  | ms x y n' k' hx hy =>
   rw [Qfh (QiK hh),Qfh (Qip hx),QcK (Qip hy),QeX,Qk2 hh,Qk1 hx,Qk1 hy,Qd5,if_neg (by omega)];congr 1; omega
theorem QfM {H M S v : Int} (h : Qd5 H M S = some v) : ¬ H < 0 ∧ ¬ M < 0 ∧ ¬ S < 0 ∧ v = (H * 60 + M) * 60 + S := by
 unfold Qd5 at h;split at h
 ·cases h
 ·rename_i hn;cases h
  omega
theorem QlS {t : Bs} {v : Int} (h : QeX (QaM t) = some v) : ∃ m : Nat,Txt t m ∧ v = (m : Int) := by
 have key : ∃ m : Nat,Txt t m := by
  cases hs : QaM t with
  | nil => rw [hs] at h; cases h
  | cons a q =>
   rw [hs] at h;have i1 := Qfg hs
   match q,h,i1 with
   | [],h,i1 =>
    obtain ⟨h1,-,-,-⟩ := QfM h;obtain ⟨n,g⟩ := Qlk h1;rcases i1 with ⟨-,rfl⟩ | ⟨r,-,e⟩
    ·have := Txt.mk _ _ _ _ g .nil;rw [List.append_nil] at this;exact ⟨_,this⟩
    ·cases r <;> simp [QaM] at e
     split at e <;> cases e
   | [b],h,i1 =>
    obtain ⟨h1,h2,-,-⟩ := QfM h;obtain ⟨n,g⟩ := Qlk h1;obtain ⟨k,g2⟩ := Qkr h2;rcases i1 with ⟨e,-⟩ | ⟨r,rfl,e⟩
    ·cases e
    ·rcases Qfg e with ⟨-,rfl⟩ | ⟨r2,-,e2⟩
     ·exact ⟨_,.mk _ _ _ _ g (.m _ _ g2)⟩
     ·cases r2 <;> simp [QaM] at e2
      split at e2 <;> cases e2
   | [b,c],h,i1 =>
    obtain ⟨h1,h2,h3,-⟩ := QfM h;obtain ⟨n,g⟩ := Qlk h1;obtain ⟨k,g2⟩ := Qkr h2;obtain ⟨j,g3⟩ := Qkr h3;rcases i1 with ⟨e,-⟩ | ⟨r,rfl,e⟩
    ·cases e
    ·rcases Qfg e with ⟨e2,-⟩ | ⟨r2,rfl,e2⟩
     ·cases e2
     ·rcases Qfg e2 with ⟨-,rfl⟩ | ⟨r3,-,e3⟩
      ·exact ⟨_,.mk _ _ _ _ g (.ms _ _ _ _ g2 g3)⟩
      ·cases r3 <;> simp [QaM] at e3
       split at e3 <;> cases e3
   | _ :: _ :: _ :: _,h,_ => cases h
 obtain ⟨m,g⟩ := key;have := Qiw g;rw [h] at this;exact ⟨m,g,Option.some.inj this⟩
theorem QgS {t : Bs} {n : Int} (h : Sgn t n) : Qb7 t = some n := by
 have hne := (Qjj h).2.1;cases h with
 | pos t m ht =>
  obtain ⟨a,q,e,ha⟩ := Qgg ht;have h45 := (Qd1 ha).2.1;rw [Qb7,if_neg hne,if_neg (by rw [e]; simpa using h45),Qiw ht];simp [negO]
 | neg t m ht =>
  rw [Qb7,if_neg hne,if_pos List.head?_cons,List.tail_cons,Qiw ht];simp [negO]
theorem QgP {t : Bs} {n : Int} (h : Qb7 t = some n) : (t = [45] ∧ n = 0) ∨ Sgn t n := by
 unfold Qb7 at h;split at h
 ·cases h; exact .inl ⟨by assumption,rfl⟩
 ·split at h
  ·rename_i h45;have h45 := Qda h45;cases hs : QeX (QaM t.tail) with
   | none => rw [hs] at h; cases h
   | some v =>
    rw [hs] at h;obtain ⟨m,g,rfl⟩ := QlS hs;cases h
    right;rw [h45];exact .neg _ _ g
  ·cases hs : QeX (QaM t) with
   | none => rw [hs] at h; cases h
   | some v =>
    rw [hs] at h;obtain ⟨m,g,rfl⟩ := QlS hs;cases h
    exact .inr (.pos _ _ g)
theorem hrs_last {h : Bs} {n : Nat} (hh : Hrs h n) : ∃ q c,h = q ++ [c] ∧ digB c = true := by
 cases hh with
 | one a ha => exact ⟨[],a,rfl,ha⟩
 | two a b ha hb => exact ⟨[a],b,rfl,hb⟩
 | three a b c ha hb hc _ => exact ⟨[a,b],c,rfl,hc⟩
theorem Ql4 {h : Bs} {n : Nat} (hh : Six h n) : ∃ q c,h = q ++ [c] ∧ digB c = true := by
 cases hh with
 | mk a b ha hb _ => exact ⟨[a],b,rfl,hb⟩
theorem sgn_last {t : Bs} {n : Int} (h : Sgn t n) : ∃ q c,t = q ++ [c] ∧ digB c = true := by
 have key : ∀ {t : Bs} {m : Nat},Txt t m → ∃ q c,t = q ++ [c] ∧ digB c = true := fun ht => by
  cases ht with
  | mk h ms n k hh hm =>
   cases hm with
   | nil =>
    rw [List.append_nil];exact hrs_last hh
   | m x n' hx =>
    obtain ⟨q,c,rfl,hc⟩ := Ql4 hx;exact ⟨h ++ 58 :: q,c,by simp,hc⟩
   | ms x y n' k' hx hy =>
    obtain ⟨q,c,rfl,hc⟩ := Ql4 hy;exact ⟨h ++ 58 :: (x ++ 58 :: q),c,by simp,hc⟩
 cases h with
 | pos t m ht => exact key ht
 | neg t m ht =>
  obtain ⟨q,c,rfl,hc⟩ := key ht;exact ⟨45 :: q,c,rfl,hc⟩
theorem QoS {l : Bs} {v : Int × Nat} (h : Tells l v) : Qbf l = some v := by
 cases h with
 | dash => decide
 | mk t x n k ht hx =>
  cases hx with
  | nil =>
   obtain ⟨q,c,e,hc⟩ := sgn_last ht;have hl : Qd6 t = none := by
    unfold Qd6;split
    ·rw [e];simp [(Qd1 hc).2.2]
    ·rfl
   rw [List.append_nil,Qbf,hl,QgS ht];rfl
  | one c k hk =>
   have hp := List.length_pos_iff.2 (Qjj ht).1;have hl : Qd6 (t ++ [c]) = some k := by
    rw [Qd6,if_pos (by simp; omega)];simp [hk]
   rw [Qbf,hl];simp only [List.dropLast_concat];rw [if_neg (Qjj ht).2.1,QgS ht];rfl
theorem Qpv {l : Bs} {v : Int × Nat} (h : Qbf l = some v) : Tells l v := by
 unfold Qbf at h;cases hl : Qd6 l with
 | none =>
  rw [hl] at h;simp only at h;cases hr : Qb7 l with
  | none => rw [hr] at h; cases h
  | some n =>
   rw [hr] at h;cases h
   rcases QgP hr with ⟨rfl,rfl⟩ | g
   ·exact .dash
   ·have := Tells.mk l [] n 0 g .nil
    rwa [List.append_nil] at this
 | some k =>
  rw [hl] at h;simp only at h;split at h
  ·cases h
  ·rename_i hne;cases hr : Qb7 l.dropLast with
   | none => rw [hr] at h; cases h
   | some n =>
    rw [hr] at h;cases h
    unfold Qd6 at hl;split at hl
    ·rename_i hlen;cases hg : l.getLast? with
     | none => rw [hg] at hl; cases hl
     | some c =>
      rw [hg] at hl;have hl : sufK c = some k := hl;have e : l = l.dropLast ++ [c] := by
       obtain ⟨y,hy⟩ := List.getLast?_eq_some_iff.1 hg;rw [hy];simp
      rcases QgP hr with ⟨h1,-⟩ | g
      ·exact absurd h1 hne
      ·have := Tells.mk _ [c] n k g (.one c k hl)
       rwa [← e] at this
    ·cases hl
theorem Qpt {α : Type} {a b : Option α} (h : ∀ v,a = some v ↔ b = some v) : a = b := by
 cases a with
 | none =>
  cases b with
  | none => rfl
  | some v => exact absurd ((h v).2 rfl) (by simp)
 | some v => exact ((h v).1 rfl).symm
theorem Qfk (l : Bs) : Qbf l = QbG l := Qpt fun _ => ⟨fun h => parse_of (Qpv h),fun h => QoS (Qmg h)⟩
theorem ramt_eq (l : Bs) : ramtD l = amtD l := Qpt fun v => by
 constructor
 ·intro h;unfold ramtD at h;cases hr : Qb7 l with
  | none => rw [hr] at h; cases h
  | some n =>
   rw [hr] at h;simp only at h;split at h
   ·rename_i hin;cases h
    rcases QgP hr with ⟨rfl,rfl⟩ | g
    ·exact amt_of .dash
    ·exact amt_of (.mk _ _ g hin.1 hin.2)
   ·cases h
 ·intro h;cases of_amt h with
  | dash => decide
  | mk t n g h1 h2 => rw [ramtD,QgS g]; simp [h1,h2]

/- what is shown -/
theorem QgA {t : Bs} {m : Nat} (h : Txt t m) : m ≤ 604799 := by
 cases h with
 | mk h ms n k hh hm =>
  have a1 : n ≤ 167 := by
   cases hh with
   | one a ha => have := Qge ha; omega
   | two a b ha hb => have := Qge ha; have := Qge hb; omega
   | three a b c ha hb hc hle => exact hle
  have s59 : ∀ {x : Bs} {n : Nat},Six x n → n ≤ 59 := fun hx => by cases hx with | mk a b ha hb h => omega
  have a2 : k ≤ 3599 := by
   cases hm with
   | nil => omega
   | m x n hx => have := s59 hx; omega
   | ms x y n k hx hy => have := s59 hx; have := s59 hy; omega
  omega
theorem QkW {l : Bs} {n : Int} {k : Nat} (h : QbG l = some (n,k)) : -604799 ≤ n ∧ n ≤ 604799 ∧ k ≤ 2 := by
 cases Qmg h with
 | dash => omega
 | mk t x n k g hx =>
  have hk : k ≤ 2 := by
   cases hx with
   | nil => omega
   | one c k hk => exact (suf_ne hk).2.2.2
  cases g with
  | pos t m ht => have := QgA ht; omega
  | neg t m ht => have := QgA ht; omega
/- hours in two digits or three,minutes,seconds -/
end Go.Clk
