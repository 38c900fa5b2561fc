namespace Go.Civil

/-- a year that 4 parts,but 100 does not,or 400 does -/
def Qgb (y : Int) : Bool := y % 4 == 0 && (y % 100 != 0 || y % 400 == 0)
theorem QjL {y : Int} : Qgb y = true ↔ y % 4 = 0 ∧ (y % 100 ≠ 0 ∨ y % 400 = 0) := by simp [Qgb]
def Qe2 (y : Int) : Int := if Qgb y then 1 else 0
theorem Qgn (y : Int) : 0 ≤ Qe2 y ∧ Qe2 y ≤ 1 := by unfold Qe2; split <;> omega
/-- how many days a month has -/
def QaX (y m : Int) : Int :=
 if m = 2 then 28 + Qe2 y else if m = 4 ∨ m = 6 ∨ m = 9 ∨ m = 11 then 30 else if 1 ≤ m ∧ m ≤ 12 then 31 else 0
theorem QeA (y m : Int) : 0 ≤ QaX y m ∧ QaX y m ≤ 31 := by
 have := Qgn y;unfold QaX; repeat' split
 all_goals omega
theorem longI_ge {y m : Int} (h : 1 ≤ m ∧ m ≤ 12) : 28 ≤ QaX y m := by
 have := Qgn y;unfold QaX; repeat' split
 all_goals omega
def QaL (y m d : Int) : Bool := decide (-9999 ≤ y ∧ y ≤ 9999 ∧ 1 ≤ m ∧ m ≤ 12 ∧ 1 ≤ d ∧ d ≤ QaX y m)
theorem QaO {y m d : Int} : QaL y m d = true ↔ -9999 ≤ y ∧ y ≤ 9999 ∧ 1 ≤ m ∧ m ≤ 12 ∧ 1 ≤ d ∧ d ≤ QaX y m := by simp [QaL]
theorem QoZ {y m d : Int} : QaL y m d = false ↔ ¬ (-9999 ≤ y ∧ y ≤ 9999 ∧ 1 ≤ m ∧ m ≤ 12 ∧ 1 ≤ d ∧ d ≤ QaX y m) := by simp only [QaL,decide_eq_false_iff_not]
/-- days of an era ahead of its year r -/
def toY (r : Int) : Int := r * 365 + (r + 3) / 4 - (r + 99) / 100 + (r + 399) / 400
/-- the number of January 1 of a year -/
def begD (y : Int) : Int := (y / 400) * 146097 + toY (y % 400) - 719528
theorem Qhv (y : Int) : begD (y + 1) = begD y + 365 + Qe2 y := by
 unfold Qe2;split
 ·rename_i h;rw [QjL] at h;unfold begD toY;omega
 ·rename_i h;rw [QjL] at h;unfold begD toY;omega
theorem begD_add (y : Int) : begD (y + 400) = begD y + 146097 := by unfold begD toY; omega
theorem begD_sub (y : Int) : begD (y - 400) = begD y - 146097 := by unfold begD toY; omega
theorem begD_0 : begD 1970 = 0 := by decide
theorem Qoa : begD (-9999) = -4371587 := by decide
theorem QmI : begD 10000 = 2932897 := by decide
/-- at Qc9 365 days a year,at most 366 -/
theorem Qgv {y z : Int} (h : y ≤ z) : begD y + 365 * (z - y) ≤ begD z ∧ begD z ≤ begD y + 366 * (z - y) := by
 obtain ⟨k,rfl⟩ : ∃ k : Nat,z = y + k := ⟨(z - y).toNat,by omega⟩;clear h
 induction k with
 | zero => simp
 | succ k ih =>
  have := Qhv (y + k);have := Qgn (y + k);rw [show y + ((k + 1 : Nat) : Int) = y + k + 1 by omega];omega
theorem QdE {y : Int} (h : -9999 ≤ y ∧ y ≤ 10000) : -4371587 ≤ begD y ∧ begD y ≤ 2932897 := by
 have h1 := Qgv h.1;have h2 := Qgv h.2;rw [Qoa] at h1;rw [QmI] at h2;omega
theorem Qj4 {y : Int} (h : -10400 ≤ y ∧ y ≤ 10000) : -4520000 ≤ begD y ∧ begD y ≤ 2932897 := by
 have h1 := Qgv h.1;have h2 := Qgv h.2;rw [show begD (-10400) = -4518050 by decide] at h1;rw [QmI] at h2;omega
/-- days of the Qfr 1 to k -/
def sumM (y : Int) : Nat → Int
 | 0 => 0
 | k + 1 => sumM y k + QaX y ((k : Int) + 1)
theorem QlZ (y : Int) : sumM y 12 = 365 + Qe2 y := by
 simp [sumM,QaX];omega
theorem QgH {y : Int} {j k : Nat} (h : j ≤ k) : sumM y j ≤ sumM y k := by
 induction h with
 | refl => exact Int.le_refl _
 | @step m _ ih => have := (QeA y ((m : Int) + 1)).1; exact Int.le_trans ih (by show _ ≤ sumM y m + QaX y _; omega)
theorem QlY {y : Int} (k : Nat) : 0 ≤ sumM y k := QgH (j := 0) (Nat.zero_le k)
/-- a right date's number -/
def numD (y m d : Int) : Int := begD y + sumM y (m - 1).toNat + (d - 1)
theorem numD_in {y m d : Int} (h : QaL y m d = true) : begD y ≤ numD y m d ∧ numD y m d < begD (y + 1) ∧ sumM y (m - 1).toNat ≤ numD y m d - begD y ∧ numD y m d - begD y < sumM y ((m - 1).toNat + 1) := by
 rw [QaO] at h;have h1 := QlY (y := y) (m - 1).toNat;have h2 := QgH (y := y) (show (m - 1).toNat + 1 ≤ 12 by omega);rw [QlZ] at h2;have h3 := Qhv y;have h4 : sumM y ((m - 1).toNat + 1) = sumM y (m - 1).toNat + QaX y m := by
  show _ + QaX y _ = _;rw [show (((m - 1).toNat : Nat) : Int) + 1 = m by omega]
 unfold numD;omega
theorem QnA {y m d : Int} (h : QaL y m d = true) : -4371587 ≤ numD y m d ∧ numD y m d < 2932897 := by
 obtain ⟨a1,a2,-,-⟩ := numD_in h;rw [QaO] at h;have h1 := (QdE (y := y) (by omega)).1;have h2 := (QdE (y := y + 1) (by omega)).2;omega
end Go.Civil
namespace Go.Lxr
abbrev Bs := List UInt8

def Qc1 (c : UInt8) : Bool := c == 32 || (9 ≤ c.toNat && c.toNat ≤ 13)
/-- what ends a field -/
def Qcr (c : UInt8) : Bool := Qc1 c || c == 35
theorem stop_35 : Qcr 35 = true := by decide
/-- the rest of a quoted part,and what is Qak it -/
def QbK : Bs → Option (Bs × Bs)
 | [] => none
 | c :: r => if c = 34 then some ([],r) else (QbK r).map fun x => (c :: x.1,x.2)
theorem Qgj {r q r' : Bs} (h : QbK r = some (q,r')) : r = q ++ 34 :: r' ∧ (34 : UInt8) ∉ q := by
 induction r generalizing q with
 | nil => cases h
 | cons c r ih =>
  unfold QbK at h;split at h
  ·rename_i e;injection h with h;injection h with h1 h2;subst h1 h2 e;exact ⟨rfl,by simp⟩
  ·rename_i e;obtain ⟨x,hx,hq⟩ := Option.map_eq_some_iff.1 h;injection hq with h1 h2;subst h1 h2;obtain ⟨g1,g2⟩ := ih hx;refine ⟨by rw [List.cons_append,← g1],?_⟩;intro hm;rcases List.mem_cons.1 hm with e' | e'
   ·exact e e'.symm
   ·exact g2 e'
theorem QiB {r q r' : Bs} (h : QbK r = some (q,r')) : r'.length < r.length := by
 rw [(Qgj h).1];simp;omega
/-- a field from a place on: its text,and what is left; or where a quoted part begins that has no end -/
def QaW (p : Nat) (l : Bs) : Except Nat (Bs × Bs) :=
 match l with
 | [] => .ok ([],[])
 | c :: r => if Qcr c = true then .ok ([],c :: r)
  else if c = 34 then match _h : QbK r with
   | none => .error p
   | some (q,r') => (QaW (p + q.length + 2) r').map fun x => (q ++ x.1,x.2)
  else (QaW (p + 1) r).map fun x => (c :: x.1,x.2)
termination_by l.length
decreasing_by
 ·have := QiB _h;simp;omega
 ·simp
theorem QdC (p : Nat) : QaW p [] = .ok ([],[]) := by rw [QaW]
theorem QdB {c : UInt8} (h : Qcr c = true) (p : Nat) (r : Bs) : QaW p (c :: r) = .ok ([],c :: r) := by rw [QaW,if_pos h]
theorem QeF {r : Bs} (h : QbK r = none) (p : Nat) : QaW p (34 :: r) = .error p := by
 rw [QaW,if_neg (by decide),if_pos rfl];split
 ·rfl
 ·rename_i e;rw [h] at e;cases e
theorem QeE {r q r' : Bs} (h : QbK r = some (q,r')) (p : Nat) : QaW p (34 :: r) = (QaW (p + q.length + 2) r').map fun x => (q ++ x.1,x.2) := by
 rw [QaW,if_neg (by decide),if_pos rfl];split
 ·rename_i e;rw [h] at e;cases e
 ·rename_i q2 r2 e;rw [h] at e;injection e with e;injection e with e1 e2;subst e1 e2;rfl
theorem Qfw {c : UInt8} (h : Qcr c = false) (hc : c ≠ 34) (p : Nat) (r : Bs) : QaW p (c :: r) = (QaW (p + 1) r).map fun x => (c :: x.1,x.2) := by
 rw [QaW,if_neg (by simp [h]),if_neg hc]
/-- one case of a field a proof -/
theorem QjU {M : Nat → Bs → Prop} (h0 : ∀ p,M p []) (h1 : ∀ p c r,Qcr c = true → M p (c :: r)) (h2 : ∀ p r,QbK r = none → M p (34 :: r))
  (h3 : ∀ p q r r',QbK r = some (q,r') → M (p + q.length + 2) r' → M p (34 :: r)) (h4 : ∀ p c r,Qcr c = false → c ≠ 34 → M (p + 1) r → M p (c :: r)) : ∀ l p,M p l := by
 intro l
 induction hn : l.length using Nat.strongRecOn generalizing l with
 | _ n ih =>
  intro p;cases l with
  | nil => exact h0 p
  | cons c r =>
   cases hs : Qcr c with
   | true => exact h1 p c r hs
   | false =>
    by_cases hc : c = 34
    ·subst hc;cases hq : QbK r with
     | none => exact h2 p r hq
     | some x =>
      obtain ⟨q,r'⟩ := x;have := QiB hq;exact h3 p q r r' hq (ih r'.length (by simp at hn; omega) r' rfl _)
    ·exact h4 p c r hs hc (ih r.length (by simp at hn; omega) r rfl _)
/-- what a field's end is -/
theorem Qgt : ∀ (l : Bs) (p : Nat) (t r : Bs),QaW p l = .ok (t,r) → r.length ≤ l.length ∧ (r = [] ∨ ∃ c r0,r = c :: r0 ∧ Qcr c = true) ∧ (∃ u,l = u ++ r) ∧ ((∃ c l0,l = c :: l0 ∧ Qcr c = false) → r.length < l.length) := by
 refine QjU ?_ ?_ ?_ ?_ ?_
 ·intro p t r h;rw [QdC] at h;injection h with h;injection h with h1 h2;subst h1 h2;exact ⟨by simp,.inl rfl,⟨[],rfl⟩,fun ⟨c,l0,e,_⟩ => by cases e⟩
 ·intro p c l hs t r h;rw [QdB hs] at h;injection h with h;injection h with h1 h2;subst h1 h2;refine ⟨by simp,.inr ⟨c,l,rfl,hs⟩,⟨[],rfl⟩,fun ⟨c',l0,e,hf⟩ => ?_⟩;injection e with e1 e2;subst e1;rw [hs] at hf;cases hf
 ·intro p l hq t r h;rw [QeF hq] at h;cases h
 ·intro p q l l' hq ih t r h;rw [QeE hq] at h;cases hf : QaW (p + q.length + 2) l' with
  | error k => rw [hf] at h; cases h
  | ok x =>
   rw [hf] at h;injection h with h;injection h with h1 h2;subst h1 h2;obtain ⟨a,b,⟨u,hu⟩,-⟩ := ih x.1 x.2 hf;have hlt := QiB hq;refine ⟨by simp; omega,b,⟨34 :: q ++ 34 :: u,?_⟩,fun _ => by simp; omega⟩;rw [(Qgj hq).1]
   conv => lhs; rw [hu]
   simp
 ·intro p c l hs hc ih t r h;rw [Qfw hs hc] at h;cases hf : QaW (p + 1) l with
  | error k => rw [hf] at h; cases h
  | ok x =>
   rw [hf] at h;injection h with h;injection h with h1 h2;subst h1 h2;obtain ⟨a,b,⟨u,hu⟩,-⟩ := ih x.1 x.2 hf;refine ⟨by simp; omega,b,⟨c :: u,?_⟩,fun _ => by simp; omega⟩
   conv => lhs; rw [hu]
   simp
/-- all fields of a line from a place on -/
def QaU (p : Nat) (l : Bs) : Except Nat (List (Bs × Nat)) :=
 match l with
 | [] => .ok []
 | c :: r => if c = 35 then .ok []
  else if Qc1 c = true then QaU (p + 1) r
  else match QaW p (c :: r) with
   | .error k => .error k
   | .ok (t,r') => if r'.length < (c :: r).length then (QaU (p + ((c :: r).length - r'.length)) r').map fun x => (t,p) :: x else .ok []
termination_by l.length
theorem QfW (p : Nat) : QaU p [] = .ok [] := by rw [QaU]
theorem Qe6 (p : Nat) (r : Bs) : QaU p (35 :: r) = .ok [] := by rw [QaU,if_pos rfl]
theorem Qei {c : UInt8} (h : Qc1 c = true) (p : Nat) (r : Bs) : QaU p (c :: r) = QaU (p + 1) r := by
 have hc : c ≠ 35 := fun e => by rw [e] at h; revert h; decide
 rw [QaU,if_neg hc,if_pos h]
theorem QoD {c : UInt8} (h : Qcr c = false) : c ≠ 35 ∧ Qc1 c = false := by
 unfold Qcr at h;simp only [Bool.or_eq_false_iff,beq_eq_false_iff_ne] at h;exact ⟨h.2,h.1⟩
theorem QfX {c : UInt8} (h : Qcr c = false) (p k : Nat) (r : Bs) (hf : QaW p (c :: r) = .error k) : QaU p (c :: r) = .error k := by
 obtain ⟨h1,h2⟩ := QoD h;rw [QaU,if_neg h1,if_neg (by simp [h2]),hf]
theorem QfV {c : UInt8} (h : Qcr c = false) (p : Nat) (r t r' : Bs) (hf : QaW p (c :: r) = .ok (t,r')) : QaU p (c :: r) = (QaU (p + ((c :: r).length - r'.length)) r').map fun x => (t,p) :: x := by
 obtain ⟨h1,h2⟩ := QoD h;obtain ⟨-,-,-,hlt⟩ := Qgt _ p t r' hf;rw [QaU,if_neg h1,if_neg (by simp [h2]),hf];simp only;rw [if_pos (hlt ⟨c,r,rfl,h⟩)]
theorem QnU {M : Nat → Bs → Prop} (h0 : ∀ p,M p []) (h1 : ∀ p r,M p (35 :: r)) (h2 : ∀ p c r,Qc1 c = true → M (p + 1) r → M p (c :: r)) (h3 : ∀ p c r k,Qcr c = false → QaW p (c :: r) = .error k → M p (c :: r))
  (h4 : ∀ p c r t r',Qcr c = false → QaW p (c :: r) = .ok (t,r') → r'.length < (c :: r).length → M (p + ((c :: r).length - r'.length)) r' → M p (c :: r)) : ∀ l p,M p l := by
 intro l
 induction hn : l.length using Nat.strongRecOn generalizing l with
 | _ n ih =>
  intro p;cases l with
  | nil => exact h0 p
  | cons c r =>
   cases hs : Qcr c with
   | true =>
    by_cases h35 : c = 35
    ·subst h35;exact h1 p r
    ·have hw : Qc1 c = true := by
      unfold Qcr at hs;simpa [h35] using hs
     exact h2 p c r hw (ih r.length (by simp at hn; omega) r rfl _)
   | false =>
    cases hf : QaW p (c :: r) with
    | error k => exact h3 p c r k hs hf
    | ok x =>
     obtain ⟨t,r'⟩ := x;have hlt := (Qgt _ p t r' hf).2.2.2 ⟨c,r,rfl,hs⟩;exact h4 p c r t r' hs hf hlt (ih r'.length (by omega) r' rfl _)
/- Show -/
def quotedB (s : Bs) : Bool := s.isEmpty || s.any Qcr
def QfJ (s : Bs) : Bs := if quotedB s = true then 34 :: (s ++ [34]) else s
def Qlf : List Bs → Bs
 | [] => []
 | [s] => QfJ s
 | s :: r => QfJ s ++ 32 :: Qlf r
/-- what Show answers,with its kind -/
def showD (l : List Bs) : Bs × Int := if l.any (fun s => s.contains 34) = true then ([],1) else if 200 < (Qlf l).length then ([],17) else (Qlf l,0)
end Go.Lxr
namespace Go.Kwd
abbrev Bs := List UInt8

/-- a letter of ASCII,Qca -/
def lowB (c : UInt8) : UInt8 := if 65 ≤ c.toNat ∧ c.toNat ≤ 90 then c + 32 else c
def Qca (l : Bs) : Bs := l.map lowB
def preB : Bs → Bs → Bool
 | [],_ => true
 | _ :: _,[] => false
 | a :: l,b :: m => a == b && preB l m
/-- the place of the word that t (Qca) stands for,from 1 on; 0: none; i: places gone by,at and n: the last begun one and how many -/
def Qd7 (t : Bs) : Nat → Nat → Nat → List Bs → Nat
 | _,at_,n,[] => if n = 1 then at_ else 0
 | i,at_,n,w :: ws => if t.isEmpty || !preB t w then Qd7 t (i + 1) at_ n ws else if t.length = w.length then i + 1 else Qd7 t (i + 1) (i + 1) (n + 1) ws
def QhF (s : Bs) (ws : List Bs) : Nat := Qd7 (Qca s) 0 0 0 ws
def QnO : List Bs := [[114,117,108,101],[122,111,110,101],[108,105,110,107]]
def Qfr : List Bs := [[106,97,110,117,97,114,121],[102,101,98,114,117,97,114,121],[109,97,114,99,104],[97,112,114,105,108],[109,97,121],[106,117,110,101],[106,117,108,121],
 [97,117,103,117,115,116],[115,101,112,116,101,109,98,101,114],[111,99,116,111,98,101,114],[110,111,118,101,109,98,101,114],[100,101,99,101,109,98,101,114]]
def ends : List Bs := [[111,110,108,121],[109,97,120,105,109,117,109],[109,105,110,105,109,117,109]]
def headD (s : Bs) : Nat := QhF s QnO
def Qcw (s : Bs) : Nat := QhF s Qfr
def endD (s : Bs) : Nat := QhF s ends
def Qna (m : Int) : Bs := if 1 ≤ m ∧ m ≤ 12 then match Qfr[(m - 1).toNat]? with
 | some (c :: r) => (c - 32) :: r.take 2
 | _ => []
 else []
theorem Qpo : ∀ {t w : Bs},preB t w = true ↔ w.take t.length = t
 | [],_ => by simp [preB]
 | _ :: _,[] => by simp [preB]
 | a :: l,b :: m => by
  unfold preB;simp only [Bool.and_eq_true,beq_iff_eq,List.length_cons,List.take_succ_cons,List.cons.injEq];rw [Qpo];exact ⟨fun ⟨h1,h2⟩ => ⟨h1.symm,h2⟩,fun ⟨h1,h2⟩ => ⟨h1.symm,h2⟩⟩
/-- what the law on longer words asks: the place,the bytes that are left,with the first one great or not -/
def cutM (m n : Nat) (great : Bool) : Bs := match Qfr[m - 1]? with
 | some w => match w.take n with
  | c :: r => (if great then c - 32 else c) :: r
  | [] => []
 | none => []
theorem whole : ∀ (m : Fin 12),Qcw (cutM (m.val + 1) 9 false) = m.val + 1 ∧ Qcw (cutM (m.val + 1) 3 false) = m.val + 1 ∧ Qcw (Qna ((m.val + 1 : Nat) : Int)) = m.val + 1 := by decide +kernel
/- names -/
def Qba (c : UInt8) : Bool := (decide (97 ≤ c.toNat) && decide (c.toNat ≤ 122)) || (decide (65 ≤ c.toNat) && decide (c.toNat ≤ 90))
def Qbc (c : UInt8) : Bool := decide (48 ≤ c.toNat) && decide (c.toNat ≤ 57)
/-- may the byte stand in a part of a zone's name? -/
def Qhz (first : Bool) (c : UInt8) : Bool := Qba c || Qbc c || c == 43 || c == 95 || (c == 45 && !first)
def Qfa : Bool → Bs → Bool
 | b,[] => !b
 | b,c :: r => if c = 47 then !b && Qfa true r else Qhz b c && Qfa false r
def Qcd (l : Bs) : Bool := decide (1 ≤ l.length) && decide (l.length ≤ 30) && Qfa true l
def QcT (c : UInt8) : Bool := Qba c || Qbc c || c == 45 || c == 95
def QoN : Bs → Bool
 | [] => false
 | c :: r => (Qba c || c == 95) && r.all QcT
def Qc4 (l : Bs) : Bool := decide (1 ≤ l.length) && decide (l.length ≤ 30) && QoN l
/- years -/
/-- what From answers of a number that was read,or of none -/
def fromD (p : Option Int) : Int × Int := match p with
 | some n => if 1 ≤ n ∧ n ≤ 9999 then (n,0) else (0,8)
 | none => (0,8)
def toD (e : Nat) (p : Option Int) (fr : Int) : Int × Int := if e = 1 then (fr,0) else if e = 2 then (10000,0) else if (fromD p).2 = 0 ∧ fr ≤ (fromD p).1 then fromD p else (0,8)
end Go.Kwd
