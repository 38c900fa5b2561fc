namespace Go.Civil

/-- a year that 4 QkW,but 100 does not,or 400 does -/
def QgD (y : Int) : Bool := y % 4 == 0 && (y % 100 != 0 || y % 400 == 0)
theorem QjX {y : Int} : QgD y = true ↔ y % 4 = 0 ∧ (y % 100 ≠ 0 ∨ y % 400 = 0) := by simp [QgD]
def Qfv (y : Int) : Int := if QgD y then 1 else 0
theorem QgU (y : Int) : 0 ≤ Qfv y ∧ Qfv y ≤ 1 := by unfold Qfv; split <;> omega
/-- how many days a month has -/
def Qba (y m : Int) : Int :=
 if m = 2 then 28 + Qfv y else if m = 4 ∨ m = 6 ∨ m = 9 ∨ m = 11 then 30 else if 1 ≤ m ∧ m ≤ 12 then 31 else 0
theorem Qfb (y m : Int) : 0 ≤ Qba y m ∧ Qba y m ≤ 31 := by
 have := QgU y;unfold Qba; repeat' split
 all_goals omega
theorem longI_ge {y m : Int} (h : 1 ≤ m ∧ m ≤ 12) : 28 ≤ Qba y m := by
 have := QgU y;unfold Qba; repeat' split
 all_goals omega
def QaS (y m d : Int) : Bool := decide (-9999 ≤ y ∧ y ≤ 9999 ∧ 1 ≤ m ∧ m ≤ 12 ∧ 1 ≤ d ∧ d ≤ Qba y m)
theorem QaY {y m d : Int} : QaS y m d = true ↔ -9999 ≤ y ∧ y ≤ 9999 ∧ 1 ≤ m ∧ m ≤ 12 ∧ 1 ≤ d ∧ d ≤ Qba y m := by simp [QaS]
theorem QoA {y m d : Int} : QaS y m d = false ↔ ¬ (-9999 ≤ y ∧ y ≤ 9999 ∧ 1 ≤ m ∧ m ≤ 12 ∧ 1 ≤ d ∧ d ≤ Qba y m) := by simp only [QaS,decide_eq_false_iff_not]
/-- days of an era ahead of its year r -/
def toY (r : Int) : Int := r * 365 + (r + 3) / 4 - (r + 99) / 100 + (r + 399) / 400
/-- the number of January 1 of a year -/
def begD (y : Int) : Int := (y / 400) * 146097 + toY (y % 400) - 719528
theorem QhR (y : Int) : begD (y + 1) = begD y + 365 + Qfv y := by
 unfold Qfv;split
 ·rename_i h;rw [QjX] at h;unfold begD toY;omega
 ·rename_i h;rw [QjX] at h;unfold begD toY;omega
theorem begD_add (y : Int) : begD (y + 400) = begD y + 146097 := by unfold begD toY; omega
theorem begD_sub (y : Int) : begD (y - 400) = begD y - 146097 := by unfold begD toY; omega
theorem begD_0 : begD 1970 = 0 := by decide
theorem QnT : begD (-9999) = -4371587 := by decide
theorem Qmz : begD 10000 = 2932897 := by decide
/-- at least 365 days a year,at most 366 -/
theorem QgY {y z : Int} (h : y ≤ z) : begD y + 365 * (z - y) ≤ begD z ∧ begD z ≤ begD y + 366 * (z - y) := by
 obtain ⟨k,rfl⟩ : ∃ k : Nat,z = y + k := ⟨(z - y).toNat,by omega⟩;clear h
 induction k with
 | zero => simp
 | succ k ih =>
  have := QhR (y + k);have := QgU (y + k);rw [show y + ((k + 1 : Nat) : Int) = y + k + 1 by omega];omega
theorem Qeb {y : Int} (h : -9999 ≤ y ∧ y ≤ 10000) : -4371587 ≤ begD y ∧ begD y ≤ 2932897 := by
 have h1 := QgY h.1;have h2 := QgY h.2;rw [QnT] at h1;rw [Qmz] at h2;omega
theorem Qkb {y : Int} (h : -10400 ≤ y ∧ y ≤ 10000) : -4520000 ≤ begD y ∧ begD y ≤ 2932897 := by
 have h1 := QgY h.1;have h2 := QgY h.2;rw [show begD (-10400) = -4518050 by decide] at h1;rw [Qmz] at h2;omega
/-- days of the QfY 1 to k -/
def sumM (y : Int) : Nat → Int
 | 0 => 0
 | k + 1 => sumM y k + Qba y ((k : Int) + 1)
theorem QlR (y : Int) : sumM y 12 = 365 + Qfv y := by
 simp [sumM,Qba];omega
theorem Qg6 {y : Int} {j k : Nat} (h : j ≤ k) : sumM y j ≤ sumM y k := by
 induction h with
 | refl => exact Int.le_refl _
 | @step m _ ih => have := (Qfb y ((m : Int) + 1)).1; exact Int.le_trans ih (by show _ ≤ sumM y m + Qba y _; omega)
theorem QlQ {y : Int} (k : Nat) : 0 ≤ sumM y k := Qg6 (j := 0) (Nat.zero_le k)
/-- a right date's number -/
def numD (y m d : Int) : Int := begD y + sumM y (m - 1).toNat + (d - 1)
theorem numD_in {y m d : Int} (h : QaS y m d = true) : begD y ≤ numD y m d ∧ numD y m d < begD (y + 1) ∧ sumM y (m - 1).toNat ≤ numD y m d - begD y ∧ numD y m d - begD y < sumM y ((m - 1).toNat + 1) := by
 rw [QaY] at h;have h1 := QlQ (y := y) (m - 1).toNat;have h2 := Qg6 (y := y) (show (m - 1).toNat + 1 ≤ 12 by omega);rw [QlR] at h2;have h3 := QhR y;have h4 : sumM y ((m - 1).toNat + 1) = sumM y (m - 1).toNat + Qba y m := by
  show _ + Qba y _ = _;rw [show (((m - 1).toNat : Nat) : Int) + 1 = m by omega]
 unfold numD;omega
theorem Qnl {y m d : Int} (h : QaS y m d = true) : -4371587 ≤ numD y m d ∧ numD y m d < 2932897 := by
 obtain ⟨a1,a2,-,-⟩ := numD_in h;rw [QaY] at h;have h1 := (Qeb (y := y) (by omega)).1;have h2 := (Qeb (y := y + 1) (by omega)).2;omega
end Go.Civil
namespace Go.Lxr
abbrev Bs := List UInt8

def Qdr (c : UInt8) : Bool := c == 32 || (9 ≤ c.toNat && c.toNat ≤ 13)
/-- what ends a field -/
def Qci (c : UInt8) : Bool := Qdr c || c == 35
theorem stop_35 : Qci 35 = true := by decide
/-- the rest of a quoted part,and what is behind it -/
def QbK : Bs → Option (Bs × Bs)
 | [] => none
 | c :: r => if c = 34 then some ([],r) else (QbK r).map fun x => (c :: x.1,x.2)
theorem QgP {r q r' : Bs} (h : QbK r = some (q,r')) : r = q ++ 34 :: r' ∧ (34 : UInt8) ∉ q := by
 induction r generalizing q with
 | nil => cases h
 | cons c r ih =>
  unfold QbK at h;split at h
  ·rename_i e;injection h with h;injection h with h1 h2;subst h1 h2 e;exact ⟨rfl,by simp⟩
  ·rename_i e;obtain ⟨x,hx,hq⟩ := Option.map_eq_some_iff.1 h;injection hq with h1 h2;subst h1 h2;obtain ⟨g1,g2⟩ := ih hx;refine ⟨by rw [List.cons_append,← g1],?_⟩;intro hm;rcases List.mem_cons.1 hm with e' | e'
   ·exact e e'.symm
   ·exact g2 e'
theorem quote_of {q : Bs} (h : (34 : UInt8) ∉ q) (r : Bs) : QbK (q ++ 34 :: r) = some (q,r) := by
 induction q with
 | nil => simp [QbK]
 | cons c q ih =>
  have hc : c ≠ 34 := fun e => h (by simp [e]);rw [List.cons_append,QbK,if_neg hc,ih (fun x => h (List.mem_cons_of_mem _ x))];rfl
theorem QiV {r q r' : Bs} (h : QbK r = some (q,r')) : r'.length < r.length := by
 rw [(QgP h).1];simp;omega
/-- a field from a place on: its text,and what is left; or where a quoted part begins that has no end -/
def Qa5 (p : Nat) (l : Bs) : Except Nat (Bs × Bs) :=
 match l with
 | [] => .ok ([],[])
 | c :: r => if Qci c = true then .ok ([],c :: r)
  else if c = 34 then match _h : QbK r with
   | none => .error p
   | some (q,r') => (Qa5 (p + q.length + 2) r').map fun x => (q ++ x.1,x.2)
  else (Qa5 (p + 1) r).map fun x => (c :: x.1,x.2)
termination_by l.length
decreasing_by
 ·have := QiV _h;simp;omega
 ·simp
theorem Qc7 (p : Nat) : Qa5 p [] = .ok ([],[]) := by rw [Qa5]
theorem QcU {c : UInt8} (h : Qci c = true) (p : Nat) (r : Bs) : Qa5 p (c :: r) = .ok ([],c :: r) := by rw [Qa5,if_pos h]
theorem Qff {r : Bs} (h : QbK r = none) (p : Nat) : Qa5 p (34 :: r) = .error p := by
 rw [Qa5,if_neg (by decide),if_pos rfl];split
 ·rfl
 ·rename_i e;rw [h] at e;cases e
theorem Qd9 {r q r' : Bs} (h : QbK r = some (q,r')) (p : Nat) : Qa5 p (34 :: r) = (Qa5 (p + q.length + 2) r').map fun x => (q ++ x.1,x.2) := by
 rw [Qa5,if_neg (by decide),if_pos rfl];split
 ·rename_i e;rw [h] at e;cases e
 ·rename_i q2 r2 e;rw [h] at e;injection e with e;injection e with e1 e2;subst e1 e2;rfl
theorem QeT {c : UInt8} (h : Qci c = false) (hc : c ≠ 34) (p : Nat) (r : Bs) : Qa5 p (c :: r) = (Qa5 (p + 1) r).map fun x => (c :: x.1,x.2) := by
 rw [Qa5,if_neg (by simp [h]),if_neg hc]
/-- one case of a field a proof -/
theorem Qj5 {M : Nat → Bs → Prop} (h0 : ∀ p,M p []) (h1 : ∀ p c r,Qci c = true → M p (c :: r)) (h2 : ∀ p r,QbK r = none → M p (34 :: r))
  (h3 : ∀ p q r r',QbK r = some (q,r') → M (p + q.length + 2) r' → M p (34 :: r)) (h4 : ∀ p c r,Qci c = false → c ≠ 34 → M (p + 1) r → M p (c :: r)) : ∀ l p,M p l := by
 intro l
 induction hn : l.length using Nat.strongRecOn generalizing l with
 | _ n ih =>
  intro p;cases l with
  | nil => exact h0 p
  | cons c r =>
   cases hs : Qci c with
   | true => exact h1 p c r hs
   | false =>
    by_cases hc : c = 34
    ·subst hc;cases hq : QbK r with
     | none => exact h2 p r hq
     | some x =>
      obtain ⟨q,r'⟩ := x;have := QiV hq;exact h3 p q r r' hq (ih r'.length (by simp at hn; omega) r' rfl _)
    ·exact h4 p c r hs hc (ih r.length (by simp at hn; omega) r rfl _)
/-- what a field's end is -/
theorem QgW : ∀ (l : Bs) (p : Nat) (t r : Bs),Qa5 p l = .ok (t,r) → r.length ≤ l.length ∧ (r = [] ∨ ∃ c r0,r = c :: r0 ∧ Qci c = true) ∧ (∃ u,l = u ++ r) ∧ ((∃ c l0,l = c :: l0 ∧ Qci c = false) → r.length < l.length) := by
 refine Qj5 ?_ ?_ ?_ ?_ ?_
 ·intro p t r h;rw [Qc7] at h;injection h with h;injection h with h1 h2;subst h1 h2;exact ⟨by simp,.inl rfl,⟨[],rfl⟩,fun ⟨c,l0,e,_⟩ => by cases e⟩
 ·intro p c l hs t r h;rw [QcU hs] at h;injection h with h;injection h with h1 h2;subst h1 h2;refine ⟨by simp,.inr ⟨c,l,rfl,hs⟩,⟨[],rfl⟩,fun ⟨c',l0,e,hf⟩ => ?_⟩;injection e with e1 e2;subst e1;rw [hs] at hf;cases hf
 ·intro p l hq t r h;rw [Qff hq] at h;cases h
 ·intro p q l l' hq ih t r h;rw [Qd9 hq] at h;cases hf : Qa5 (p + q.length + 2) l' with
  | error k => rw [hf] at h; cases h
  | ok x =>
   rw [hf] at h;injection h with h;injection h with h1 h2;subst h1 h2;obtain ⟨a,b,⟨u,hu⟩,-⟩ := ih x.1 x.2 hf;have hlt := QiV hq;refine ⟨by simp; omega,b,⟨34 :: q ++ 34 :: u,?_⟩,fun _ => by simp; omega⟩;rw [(QgP hq).1]
   conv => lhs; rw [hu]
   simp
 ·intro p c l hs hc ih t r h;rw [QeT hs hc] at h;cases hf : Qa5 (p + 1) l with
  | error k => rw [hf] at h; cases h
  | ok x =>
   rw [hf] at h;injection h with h;injection h with h1 h2;subst h1 h2;obtain ⟨a,b,⟨u,hu⟩,-⟩ := ih x.1 x.2 hf;refine ⟨by simp; omega,b,⟨c :: u,?_⟩,fun _ => by simp; omega⟩
   conv => lhs; rw [hu]
   simp
/-- all fields of a line from a place on -/
def Qa4 (p : Nat) (l : Bs) : Except Nat (List (Bs × Nat)) :=
 match l with
 | [] => .ok []
 | c :: r => if c = 35 then .ok []
  else if Qdr c = true then Qa4 (p + 1) r
  else match Qa5 p (c :: r) with
   | .error k => .error k
   | .ok (t,r') => if r'.length < (c :: r).length then (Qa4 (p + ((c :: r).length - r'.length)) r').map fun x => (t,p) :: x else .ok []
termination_by l.length
theorem Qd8 (p : Nat) : Qa4 p [] = .ok [] := by rw [Qa4]
theorem QfD (p : Nat) (r : Bs) : Qa4 p (35 :: r) = .ok [] := by rw [Qa4,if_pos rfl]
theorem QdK {c : UInt8} (h : Qdr c = true) (p : Nat) (r : Bs) : Qa4 p (c :: r) = Qa4 (p + 1) r := by
 have hc : c ≠ 35 := fun e => by rw [e] at h; revert h; decide
 rw [Qa4,if_neg hc,if_pos h]
theorem Qoh {c : UInt8} (h : Qci c = false) : c ≠ 35 ∧ Qdr c = false := by
 unfold Qci at h;simp only [Bool.or_eq_false_iff,beq_eq_false_iff_ne] at h;exact ⟨h.2,h.1⟩
theorem Qgj {c : UInt8} (h : Qci c = false) (p k : Nat) (r : Bs) (hf : Qa5 p (c :: r) = .error k) : Qa4 p (c :: r) = .error k := by
 obtain ⟨h1,h2⟩ := Qoh h;rw [Qa4,if_neg h1,if_neg (by simp [h2]),hf]
theorem Qd7 {c : UInt8} (h : Qci c = false) (p : Nat) (r t r' : Bs) (hf : Qa5 p (c :: r) = .ok (t,r')) : Qa4 p (c :: r) = (Qa4 (p + ((c :: r).length - r'.length)) r').map fun x => (t,p) :: x := by
 obtain ⟨h1,h2⟩ := Qoh h;obtain ⟨-,-,-,hlt⟩ := QgW _ p t r' hf;rw [Qa4,if_neg h1,if_neg (by simp [h2]),hf];simp only;rw [if_pos (hlt ⟨c,r,rfl,h⟩)]
theorem QnC {M : Nat → Bs → Prop} (h0 : ∀ p,M p []) (h1 : ∀ p r,M p (35 :: r)) (h2 : ∀ p c r,Qdr c = true → M (p + 1) r → M p (c :: r)) (h3 : ∀ p c r k,Qci c = false → Qa5 p (c :: r) = .error k → M p (c :: r))
  (h4 : ∀ p c r t r',Qci c = false → Qa5 p (c :: r) = .ok (t,r') → r'.length < (c :: r).length → M (p + ((c :: r).length - r'.length)) r' → M p (c :: r)) : ∀ l p,M p l := by
 intro l
 induction hn : l.length using Nat.strongRecOn generalizing l with
 | _ n ih =>
  intro p;cases l with
  | nil => exact h0 p
  | cons c r =>
   cases hs : Qci c with
   | true =>
    by_cases h35 : c = 35
    ·subst h35;exact h1 p r
    ·have hw : Qdr c = true := by
      unfold Qci at hs;simpa [h35] using hs
     exact h2 p c r hw (ih r.length (by simp at hn; omega) r rfl _)
   | false =>
    cases hf : Qa5 p (c :: r) with
    | error k => exact h3 p c r k hs hf
    | ok x =>
     obtain ⟨t,r'⟩ := x;have hlt := (QgW _ p t r' hf).2.2.2 ⟨c,r,rfl,hs⟩;exact h4 p c r t r' hs hf hlt (ih r'.length (by omega) r' rfl _)
/- Show -/
def QkS (s : Bs) : Bool := s.isEmpty || s.any Qci
def Qdw (s : Bs) : Bs := if QkS s = true then 34 :: (s ++ [34]) else s
def QeG : List Bs → Bs
 | [] => []
 | [s] => Qdw s
 | s :: r => Qdw s ++ 32 :: QeG r
/-- what Show answers,with its kind -/
def showD (l : List Bs) : Bs × Int := if l.any (fun s => s.contains 34) = true then ([],1) else if 200 < (QeG l).length then ([],17) else (QeG l,0)
theorem Qlo (m : Bs) (hm : m = [] ∨ ∃ c r,m = c :: r ∧ Qci c = true) : ∀ (s : Bs) (p : Nat),(34 : UInt8) ∉ s → s.any Qci = false → Qa5 p (s ++ m) = .ok (s,m) := by
 intro s
 induction s with
 | nil =>
  intro p _ _;rcases hm with rfl | ⟨c,r,rfl,hc⟩
  ·exact Qc7 p
  ·exact QcU hc p r
 | cons c s ih =>
  intro p h34 hs;simp only [List.any_cons,Bool.or_eq_false_iff] at hs;have hc : c ≠ 34 := fun e => h34 (by simp [e]);rw [List.cons_append,QeT hs.1 hc,ih (p + 1) (fun x => h34 (List.mem_cons_of_mem _ x)) hs.2];rfl
theorem Qiv (m : Bs) (hm : m = [] ∨ ∃ c r,m = c :: r ∧ Qci c = true) (s : Bs) (p : Nat) (h34 : (34 : UInt8) ∉ s) : Qa5 p (Qdw s ++ m) = .ok (s,m) := by
 unfold Qdw;split
 ·have hq : QbK (s ++ 34 :: m) = some (s,m) := quote_of h34 m;have : Qa5 (p + s.length + 2) m = .ok ([],m) := by
   rcases hm with rfl | ⟨c,r,rfl,hc⟩
   ·exact Qc7 _
   ·exact QcU hc _ r
  rw [show (34 :: (s ++ [34]) ++ m : Bs) = 34 :: (s ++ 34 :: m) by simp,Qd9 hq,this];show Except.ok (s ++ [],m) = _;rw [List.append_nil]
 ·rename_i h;have hn : s.any Qci = false := by
   unfold QkS at h;simp only [Bool.not_eq_true,Bool.or_eq_false_iff] at h;exact h.2
  exact Qlo m hm s p h34 hn
theorem Qjz (s m : Bs) (_h34 : (34 : UInt8) ∉ s) : ∃ c r,Qdw s ++ m = c :: r ∧ Qci c = false := by
 unfold Qdw;split
 ·exact ⟨34,_,rfl,by decide⟩
 ·rename_i h;unfold QkS at h;simp only [Bool.not_eq_true,Bool.or_eq_false_iff] at h;cases s with
  | nil => cases h.1
  | cons c s =>
   have := h.2;simp only [List.any_cons,Bool.or_eq_false_iff] at this;exact ⟨c,_,rfl,this.1⟩
/-- what is shown is read as the same fields -/
theorem QfC : ∀ (l : List Bs) (p : Nat),(∀ s ∈ l,(34 : UInt8) ∉ s) → ∃ fs,Qa4 p (QeG l) = .ok fs ∧ fs.map (·.1) = l
 | [],p,_ => ⟨[],Qd8 p,rfl⟩
 | [s],p,h => by
  have h34 := h s (by simp);have hf := Qiv [] (.inl rfl) s p h34;obtain ⟨c,r,e,hc⟩ := Qjz s [] h34;rw [e] at hf;rw [List.append_nil] at e;refine ⟨[(s,p)],?_,rfl⟩;rw [QeG,e,Qd7 hc p r s [] hf,Qd8];rfl
 | s :: s2 :: l,p,h => by
  have h34 := h s (by simp);have hf := Qiv (32 :: QeG (s2 :: l)) (.inr ⟨32,_,rfl,by decide⟩) s p h34;obtain ⟨c,r,e,hc⟩ := Qjz s (32 :: QeG (s2 :: l)) h34;rw [e] at hf;obtain ⟨fs,h1,h2⟩ := QfC (s2 :: l) (p + ((c :: r).length - (32 :: QeG (s2 :: l)).length) + 1) (fun x hx => h x (List.mem_cons_of_mem _ hx));refine ⟨(s,p) :: fs,?_,by rw [List.map_cons,h2]⟩;rw [show QeG (s :: s2 :: l) = Qdw s ++ 32 :: QeG (s2 :: l) from rfl,e,Qd7 hc p r s _ hf,QdK (by decide),h1];rfl
end Go.Lxr
namespace Go.Kwd
abbrev Bs := List UInt8

/-- a letter of ASCII,Qcr -/
def lowB (c : UInt8) : UInt8 := if 65 ≤ c.toNat ∧ c.toNat ≤ 90 then c + 32 else c
def Qcr (l : Bs) : Bs := l.map lowB
def preB : Bs → Bs → Bool
 | [],_ => true
 | _ :: _,[] => false
 | a :: l,b :: m => a == b && preB l m
/-- the place of the word that t (Qcr) stands for,from 1 on; 0: none; i: places gone by,at and n: the last begun one and how many -/
def QeH (t : Bs) : Nat → Nat → Nat → List Bs → Nat
 | _,at_,n,[] => if n = 1 then at_ else 0
 | i,at_,n,w :: ws => if t.isEmpty || !preB t w then QeH t (i + 1) at_ n ws else if t.length = w.length then i + 1 else QeH t (i + 1) (i + 1) (n + 1) ws
def Qh0 (s : Bs) (ws : List Bs) : Nat := QeH (Qcr s) 0 0 0 ws
def Qnu : List Bs := [[114,117,108,101],[122,111,110,101],[108,105,110,107]]
def QfY : List Bs := [[106,97,110,117,97,114,121],[102,101,98,114,117,97,114,121],[109,97,114,99,104],[97,112,114,105,108],[109,97,121],[106,117,110,101],[106,117,108,121],
 [97,117,103,117,115,116],[115,101,112,116,101,109,98,101,114],[111,99,116,111,98,101,114],[110,111,118,101,109,98,101,114],[100,101,99,101,109,98,101,114]]
def ends : List Bs := [[111,110,108,121],[109,97,120,105,109,117,109],[109,105,110,105,109,117,109]]
def headD (s : Bs) : Nat := Qh0 s Qnu
def QcI (s : Bs) : Nat := Qh0 s QfY
def endD (s : Bs) : Nat := Qh0 s ends
def QmV (m : Int) : Bs := if 1 ≤ m ∧ m ≤ 12 then match QfY[(m - 1).toNat]? with
 | some (c :: r) => (c - 32) :: r.take 2
 | _ => []
 else []
theorem QoW : ∀ {t w : Bs},preB t w = true ↔ w.take t.length = t
 | [],_ => by simp [preB]
 | _ :: _,[] => by simp [preB]
 | a :: l,b :: m => by
  unfold preB;simp only [Bool.and_eq_true,beq_iff_eq,List.length_cons,List.take_succ_cons,List.cons.injEq];rw [QoW];exact ⟨fun ⟨h1,h2⟩ => ⟨h1.symm,h2⟩,fun ⟨h1,h2⟩ => ⟨h1.symm,h2⟩⟩
/-- what the law on longer words asks: the place,the bytes that are left,with the first one great or not -/
def cutM (m n : Nat) (great : Bool) : Bs := match QfY[m - 1]? with
 | some w => match w.take n with
  | c :: r => (if great then c - 32 else c) :: r
  | [] => []
 | none => []
theorem whole : ∀ (m : Fin 12),QcI (cutM (m.val + 1) 9 false) = m.val + 1 ∧ QcI (cutM (m.val + 1) 3 false) = m.val + 1 ∧ QcI (QmV ((m.val + 1 : Nat) : Int)) = m.val + 1 := by decide +kernel
/- names -/
def Qbo (c : UInt8) : Bool := (decide (97 ≤ c.toNat) && decide (c.toNat ≤ 122)) || (decide (65 ≤ c.toNat) && decide (c.toNat ≤ 90))
def Qbs (c : UInt8) : Bool := decide (48 ≤ c.toNat) && decide (c.toNat ≤ 57)
/-- may the byte stand in a part of a zone's name? -/
def QhV (first : Bool) (c : UInt8) : Bool := Qbo c || Qbs c || c == 43 || c == 95 || (c == 45 && !first)
def QfI : Bool → Bs → Bool
 | b,[] => !b
 | b,c :: r => if c = 47 then !b && QfI true r else QhV b c && QfI false r
def QbR (l : Bs) : Bool := decide (1 ≤ l.length) && decide (l.length ≤ 30) && QfI true l
def Qde (c : UInt8) : Bool := Qbo c || Qbs c || c == 45 || c == 95
def Qop : Bs → Bool
 | [] => false
 | c :: r => (Qbo c || c == 95) && r.all Qde
def QcQ (l : Bs) : Bool := decide (1 ≤ l.length) && decide (l.length ≤ 30) && Qop l
/- years -/
/-- what From answers of a number that was read,or of none -/
def fromD (p : Option Int) : Int × Int := match p with
 | some n => if 1 ≤ n ∧ n ≤ 9999 then (n,0) else (0,8)
 | none => (0,8)
def toD (e : Nat) (p : Option Int) (fr : Int) : Int × Int := if e = 1 then (fr,0) else if e = 2 then (10000,0) else if (fromD p).2 = 0 ∧ fr ≤ (fromD p).1 then fromD p else (0,8)
end Go.Kwd
