import Derived.Lib.AtoiAll
import Derived.Lib.AtoiAllCases
import Derived.Lib.IndexMore
import Derived.Lib.Strings
import Derived.Test.YtodcnbejnchmhaaGreatDoorYc02
namespace Go.Dfm
open Go.Lib Go.Esc

/-- the names of days -/
def Qee : List Bs := [[83,117,110],[77,111,110],[84,117,101],[87,101,100],[84,104,117],[70,114,105],[83,97,116]]
def QbB (w : Int) : Bs := Qee.getD w.toNat []
/-- which day a name is of; -1: of none -/
def QaT (l : Bs) : Int := if l = [83,117,110] then 0 else if l = [77,111,110] then 1 else if l = [84,117,101] then 2 else if l = [87,101,100] then 3 else if l = [84,104,117] then 4 else if l = [70,114,105] then 5 else if l = [83,97,116] then 6 else -1
abbrev Qa4 : Bs := [108,97,115,116]
abbrev geL : Bs := [62,61]
abbrev leL : Bs := [60,61]
/-- is a day right? -/
def Qce (k d w : Int) : Prop := (k = 0 ∧ 1 ≤ d ∧ d ≤ 31 ∧ w = 0) ∨ (k = 1 ∧ d = 0 ∧ 0 ≤ w ∧ w < 7) ∨ ((k = 2 ∨ k = 3) ∧ 1 ≤ d ∧ d ≤ 31 ∧ 0 ≤ w ∧ w < 7)
instance (k d w : Int) : Decidable (Qce k d w) := inferInstanceAs (Decidable (_ ∨ _))
def QaL (k d w : Int) : Bool := decide (Qce k d w)
theorem QaO {k d w : Int} : QaL k d w = true ↔ Qce k d w := by simp [QaL]
/-- a day's text -/
def Qcj (k d w : Int) : Bs := if k = 1 then Qa4 ++ QbB w else if k = 2 then QbB w ++ geL ++ itoa d else if k = 3 then QbB w ++ leL ++ itoa d else itoa d
/-- the program's number: of its shortest text -/
def numD (l : Bs) : Int := match atoiAll l with
 | .ok v => if itoa v = l then v else 0
 | _ => 0
/-- what the program reads -/
def Qb0 (l : Bs) : Int × Int × Int :=
 if hasPrefix l Qa4 = true then (1,0,QaT (trimPrefix l Qa4))
 else if (cut l geL).2.2 = true then (2,numD (cut l geL).2.1,QaT (cut l geL).1)
 else if (cut l leL).2.2 = true then (3,numD (cut l leL).2.1,QaT (cut l leL).1)
 else (0,numD l,0)
def QbG (l : Bs) : Int × Int × Int × Int := if QaL (Qb0 l).1 (Qb0 l).2.1 (Qb0 l).2.2 = true then ((Qb0 l).1,(Qb0 l).2.1,(Qb0 l).2.2,0) else (0,0,0,6)
/-- the document's number,1 to 31 -/
def Qa2 (l : Bs) : Int := if (Qa3 l).2 = 0 ∧ 1 ≤ (Qa3 l).1 ∧ (Qa3 l).1 ≤ 31 then (Qa3 l).1 else 0
def Qbf (l : Bs) : Int × Int × Int × Int :=
 if 0 < Qa2 l then (0,Qa2 l,0,0)
 else if l.length = 7 ∧ l.take 4 = Qa4 ∧ 0 ≤ QaT (l.drop 4) then (1,0,QaT (l.drop 4),0)
 else if 5 < l.length ∧ 0 ≤ QaT (l.take 3) ∧ 0 < Qa2 (l.drop 5) then
  if (l.drop 3).take 2 = geL then (2,Qa2 (l.drop 5),QaT (l.take 3),0)
  else if (l.drop 3).take 2 = leL then (3,Qa2 (l.drop 5),QaT (l.take 3),0)
  else (0,0,0,6)
 else (0,0,0,6)

/- numbers from 1 to 31 -/
def decL (n : Nat) : Bs := if n < 10 then [UInt8.ofNat (48 + n)] else [UInt8.ofNat (48 + n / 10),UInt8.ofNat (48 + n % 10)]
theorem Qp8 {n : Nat} (h : n < 100) : decDigits n = decL n := by
 unfold decL;by_cases h1 : n < 10
 ·rw [if_pos h1,decDigits_one h1]
 ·rw [if_neg h1,decDigits_two h1 h]
theorem QeB {d : Int} (h1 : 1 ≤ d) (h2 : d ≤ 31) : itoa d = decL d.toNat := by
 rw [QiJ (by omega),Qp8 (by omega)]
theorem atoi_fin : ∀ n : Fin 32,atoiAll (decL n.val) = .ok ((n.val : Nat) : Int) := by decide +kernel
theorem Qg6 {d : Int} (h1 : 1 ≤ d) (h2 : d ≤ 31) : numD (itoa d) = d := by
 have h := atoi_fin ⟨d.toNat,by omega⟩;have e := QeB h1 h2;rw [numD,e,show atoiAll (decL d.toNat) = .ok ((d.toNat : Nat) : Int) from h,show ((d.toNat : Nat) : Int) = d by omega];simp [e]
theorem QiF {l : Bs} {n : Int} (h : numD l = n) (hn : 1 ≤ n) : itoa n = l := by
 unfold numD at h;split at h
 ·split at h
  ·rename_i e;rw [← h];exact e
  ·omega
 ·omega
theorem Qkp {d : Int} (h1 : 1 ≤ d) (h2 : d ≤ 31) : QaB d := by unfold QaB; omega
theorem QhW {d : Int} (h1 : 1 ≤ d) (h2 : d ≤ 31) : Qa2 (itoa d) = d := by
 rw [Qa2,QkV d (Qkp h1 h2),if_pos ⟨rfl,h1,h2⟩]
theorem QfN (l : Bs) : 0 ≤ Qa2 l ∧ Qa2 l ≤ 31 := by
 unfold Qa2;split <;> omega
theorem QgV {l : Bs} (h : 0 < Qa2 l) : itoa (Qa2 l) = l := by
 unfold Qa2 at h ⊢;split at h
 ·rename_i e;rw [if_pos e];exact Qlg (Prod.ext rfl e.1)
 ·omega

/- names -/
theorem QhN (l : Bs) : -1 ≤ QaT l ∧ QaT l < 7 := by
 unfold QaT
 repeat' split
 all_goals omega
theorem Qdp {l : Bs} (h : 0 ≤ QaT l) : QbB (QaT l) = l := by
 unfold QaT at h ⊢
 repeat' split
 all_goals first
  | (rename_i e; rw [e]; rfl)
  | (simp_all)
theorem Qnb {w : Int} (h1 : 0 ≤ w) (h2 : w < 7) : w = 0 ∨ w = 1 ∨ w = 2 ∨ w = 3 ∨ w = 4 ∨ w = 5 ∨ w = 6 := by omega
theorem Qdz {w : Int} (h1 : 0 ≤ w) (h2 : w < 7) : QaT (QbB w) = w := by
 rcases Qnb h1 h2 with rfl | rfl | rfl | rfl | rfl | rfl | rfl <;> decide
theorem name_len {w : Int} (h1 : 0 ≤ w) (h2 : w < 7) : (QbB w).length = 3 := by
 rcases Qnb h1 h2 with rfl | rfl | rfl | rfl | rfl | rfl | rfl <;> decide

/- what is shown is read -/
def QhE (w : Nat) : Bs := Qee.getD w []
theorem fin_ge : ∀ (w : Fin 7) (n : Fin 32),hasPrefix (QhE w.val ++ geL ++ decL n.val) Qa4 = false ∧ cut (QhE w.val ++ geL ++ decL n.val) geL = (QhE w.val,decL n.val,true) := by decide +kernel
theorem fin_le : ∀ (w : Fin 7) (n : Fin 32),hasPrefix (QhE w.val ++ leL ++ decL n.val) Qa4 = false ∧ (cut (QhE w.val ++ leL ++ decL n.val) geL).2.2 = false ∧ cut (QhE w.val ++ leL ++ decL n.val) leL = (QhE w.val,decL n.val,true) := by decide +kernel
theorem fin_num : ∀ n : Fin 32,hasPrefix (decL n.val) Qa4 = false ∧ (cut (decL n.val) geL).2.2 = false ∧ (cut (decL n.val) leL).2.2 = false := by decide +kernel
theorem fin_last : ∀ w : Fin 7,hasPrefix (Qa4 ++ QhE w.val) Qa4 = true ∧ trimPrefix (Qa4 ++ QhE w.val) Qa4 = QhE w.val := by decide +kernel
theorem Qo8 {k d w : Int} (h : Qce k d w) : Qb0 (Qcj k d w) = (k,d,w) := by
 rcases h with ⟨rfl,h1,h2,rfl⟩ | ⟨rfl,rfl,h1,h2⟩ | ⟨hk,h1,h2,h3,h4⟩
 ·have e : Qcj 0 d 0 = itoa d := by simp [Qcj]
  obtain ⟨a,b,c⟩ := fin_num ⟨d.toNat,by omega⟩;rw [e,Qb0,Qg6 h1 h2];rw [QeB h1 h2];simp only at a b c;rw [if_neg (by simp [a]),if_neg (by simp [b]),if_neg (by simp [c])]
 ·have e : Qcj 1 0 w = Qa4 ++ QbB w := by simp [Qcj]
  obtain ⟨a,b⟩ := fin_last ⟨w.toNat,by omega⟩;rw [e,Qb0,if_pos (show hasPrefix (Qa4 ++ QbB w) Qa4 = true from a)];rw [show trimPrefix (Qa4 ++ QbB w) Qa4 = QbB w from b,Qdz h1 h2]
 ·rcases hk with rfl | rfl
  ·have e : Qcj 2 d w = QbB w ++ geL ++ itoa d := by simp [Qcj]
   obtain ⟨a,b⟩ := fin_ge ⟨w.toNat,by omega⟩ ⟨d.toNat,by omega⟩;have hn := Qg6 h1 h2;rw [QeB h1 h2] at e hn;rw [e,Qb0,if_neg (by rw [show hasPrefix (QbB w ++ geL ++ decL d.toNat) Qa4 = false from a]; simp)];rw [show cut (QbB w ++ geL ++ decL d.toNat) geL = (QbB w,decL d.toNat,true) from b,if_pos rfl];simp only;rw [hn,Qdz h3 h4]
  ·have e : Qcj 3 d w = QbB w ++ leL ++ itoa d := by simp [Qcj]
   obtain ⟨a,b,c⟩ := fin_le ⟨w.toNat,by omega⟩ ⟨d.toNat,by omega⟩;have hn := Qg6 h1 h2;rw [QeB h1 h2] at e hn;rw [e,Qb0,if_neg (by rw [show hasPrefix (QbB w ++ leL ++ decL d.toNat) Qa4 = false from a]; simp),if_neg (by rw [show (cut (QbB w ++ leL ++ decL d.toNat) geL).2.2 = false from b]; simp)];rw [show cut (QbB w ++ leL ++ decL d.toNat) leL = (QbB w,decL d.toNat,true) from c,if_pos rfl];simp only;rw [hn,Qdz h3 h4]
/- what is read is shown -/
theorem QkT {l p : Bs} (h : hasPrefix l p = true) : p ++ trimPrefix l p = l := by
 obtain ⟨t,rfl⟩ := List.isPrefixOf_iff_prefix.1 h;rw [trimPrefix,if_pos h];simp
theorem QnM (p : Bs) : ∀ (l : Bs),0 ≤ index l p → l.take (index l p).toNat ++ (p ++ l.drop ((index l p).toNat + p.length)) = l := by
 intro l
 induction l with
 | nil =>
  intro h;unfold index at h ⊢;split at h
  ·rename_i hp;have : p = [] := List.isEmpty_iff.1 hp;subst this;rfl
  ·omega
 | cons b l ih =>
  intro h;unfold index at h ⊢;split at h
  ·rename_i hp;rw [if_pos hp];obtain ⟨t,ht⟩ := List.isPrefixOf_iff_prefix.1 hp;rw [← ht];simp
  ·rename_i hp;rw [if_neg hp];split at h
   ·omega
   ·rename_i hq;rw [if_neg hq];have hge := index_ge l p;have hne : index l p ≠ -1 := by simpa using hq
    have e1 : (index l p + 1).toNat = (index l p).toNat + 1 := by omega
    rw [e1,List.take_succ_cons,show (index l p).toNat + 1 + p.length = ((index l p).toNat + p.length) + 1 by omega,List.drop_succ_cons];rw [List.cons_append,ih (by omega)]
theorem QmC {l p : Bs} (h : (cut l p).2.2 = true) : (cut l p).1 ++ p ++ (cut l p).2.1 = l := by
 unfold cut at h ⊢;split at h
 ·rename_i hi;rw [if_pos hi,List.append_assoc];exact QnM p l hi
 ·cases h
theorem Qos {l : Bs} (h : Qce (Qb0 l).1 (Qb0 l).2.1 (Qb0 l).2.2) : Qcj (Qb0 l).1 (Qb0 l).2.1 (Qb0 l).2.2 = l := by
 unfold Qb0 at h ⊢;split at h
 ·rename_i hp;rw [if_pos hp];have hw : 0 ≤ QaT (trimPrefix l Qa4) := by simp only [Qce] at h; omega
  show Qa4 ++ QbB (QaT (trimPrefix l Qa4)) = l;rw [Qdp hw];exact QkT hp
 ·rename_i hp;rw [if_neg hp];split at h
  ·rename_i hc;rw [if_pos hc];have hw : 0 ≤ QaT (cut l geL).1 ∧ 1 ≤ numD (cut l geL).2.1 := by simp only [Qce] at h; omega
   show QbB (QaT (cut l geL).1) ++ geL ++ itoa (numD (cut l geL).2.1) = l;rw [Qdp hw.1,QiF rfl hw.2];exact QmC hc
  ·rename_i hc;rw [if_neg hc];split at h
   ·rename_i hc2;rw [if_pos hc2];have hw : 0 ≤ QaT (cut l leL).1 ∧ 1 ≤ numD (cut l leL).2.1 := by simp only [Qce] at h; omega
    show QbB (QaT (cut l leL).1) ++ leL ++ itoa (numD (cut l leL).2.1) = l;rw [Qdp hw.1,QiF rfl hw.2];exact QmC hc2
   ·rename_i hc2;rw [if_neg hc2];have hw : 1 ≤ numD l := by simp only [Qce] at h; omega
    show itoa (numD l) = l;exact QiF rfl hw
theorem Qc8 (l : Bs) : (∃ k d w,Qce k d w ∧ l = Qcj k d w ∧ QbG l = (k,d,w,0)) ∨ ((∀ k d w,Qce k d w → l ≠ Qcj k d w) ∧ QbG l = (0,0,0,6)) := by
 by_cases h : Qce (Qb0 l).1 (Qb0 l).2.1 (Qb0 l).2.2
 ·left;refine ⟨_,_,_,h,(Qos h).symm,?_⟩;rw [QbG,if_pos (QaO.2 h)]
 ·right;refine ⟨fun k d w hr e => h ?_,?_⟩
  ·rw [e,Qo8 hr];exact hr
  ·rw [QbG,if_neg (fun x => h (QaO.1 x))]
/- the document's reader -/
theorem Qjp {w : Int} (h1 : 0 ≤ w) (h2 : w < 7) (t : Bs) : Qa2 (QbB w ++ t) = 0 := by
 have : QbY (QbB w ++ t) = false := by
  rcases Qnb h1 h2 with rfl | rfl | rfl | rfl | rfl | rfl | rfl <;> simp [QbB,Qee,QbY,Qdq,digB]
 rw [Qa2,Qa3,this,if_neg (by simp)]
theorem QoW (t : Bs) : Qa2 (Qa4 ++ t) = 0 := by
 have : QbY (Qa4 ++ t) = false := by simp [QbY,Qdq,digB]
 rw [Qa2,Qa3,this,if_neg (by simp)]
theorem Qjb {w : Int} (h1 : 0 ≤ w) (h2 : w < 7) (p t : Bs) (hp : p.length = 2) : (QbB w ++ p ++ t).take 3 = QbB w ∧ ((QbB w ++ p ++ t).drop 3).take 2 = p ∧ (QbB w ++ p ++ t).drop 5 = t ∧ (QbB w ++ p ++ t).length = 5 + t.length := by
 have hn := name_len h1 h2;refine ⟨?_,?_,?_,?_⟩
 ·rw [List.append_assoc,List.take_append_of_le_length (by omega),List.take_of_length_le (by omega)]
 ·rw [List.append_assoc,List.drop_append_of_le_length (by omega),List.drop_eq_nil_of_le (by omega),List.nil_append,List.take_append_of_le_length (by omega),List.take_of_length_le (by omega)]
 ·have : (QbB w ++ p).length = 5 := by simp [hn,hp]
  rw [List.drop_append_of_le_length (by omega),List.drop_eq_nil_of_le (by omega),List.nil_append]
 ·simp [hn,hp]; omega
theorem QpM {w : Int} (h1 : 0 ≤ w) (h2 : w < 7) : (Qa4 ++ QbB w).length = 7 ∧ (Qa4 ++ QbB w).take 4 = Qa4 ∧ (Qa4 ++ QbB w).drop 4 = QbB w := by
 rcases Qnb h1 h2 with rfl | rfl | rfl | rfl | rfl | rfl | rfl <;> decide
theorem dec_pos (d : Int) : 0 < (itoa d).length := by
 unfold itoa;split
 ·simp
 ·obtain ⟨c,r,e⟩ := dec_ne d.toNat;rw [e];simp
theorem QkA {k d w : Int} (h : Qce k d w) : Qbf (Qcj k d w) = (k,d,w,0) := by
 rcases h with ⟨rfl,h1,h2,rfl⟩ | ⟨rfl,rfl,h1,h2⟩ | ⟨hk,h1,h2,h3,h4⟩
 ·have e : Qcj 0 d 0 = itoa d := by simp [Qcj]
  rw [e,Qbf,QhW h1 h2,if_pos (by omega)]
 ·have e : Qcj 1 0 w = Qa4 ++ QbB w := by simp [Qcj]
  obtain ⟨a,b,c⟩ := QpM h1 h2;rw [e,Qbf,QoW,if_neg (by omega),c,Qdz h1 h2,if_pos ⟨a,b,h1⟩]
 ·have hd := QhW h1 h2;have hl := dec_pos d;rcases hk with rfl | rfl
  ·have e : Qcj 2 d w = QbB w ++ geL ++ itoa d := by simp [Qcj]
   obtain ⟨a,b,c,g⟩ := Qjb h3 h4 geL (itoa d) rfl;have h7 : ¬ ((QbB w ++ geL ++ itoa d).take 4 = Qa4) := by
    rcases Qnb h3 h4 with rfl | rfl | rfl | rfl | rfl | rfl | rfl <;> simp [QbB,Qee]
   rw [e,Qbf,List.append_assoc,Qjp h3 h4,← List.append_assoc,if_neg (by omega),if_neg (fun x => h7 x.2.1),a,b,c,g,Qdz h3 h4,hd,if_pos ⟨by omega,h3,by omega⟩,if_pos rfl]
  ·have e : Qcj 3 d w = QbB w ++ leL ++ itoa d := by simp [Qcj]
   obtain ⟨a,b,c,g⟩ := Qjb h3 h4 leL (itoa d) rfl;have h7 : ¬ ((QbB w ++ leL ++ itoa d).take 4 = Qa4) := by
    rcases Qnb h3 h4 with rfl | rfl | rfl | rfl | rfl | rfl | rfl <;> simp [QbB,Qee]
   rw [e,Qbf,List.append_assoc,Qjp h3 h4,← List.append_assoc,if_neg (by omega),if_neg (fun x => h7 x.2.1),a,b,c,g,Qdz h3 h4,hd,if_pos ⟨by omega,h3,by omega⟩,if_neg (by decide),if_pos rfl]
theorem parts {l : Bs} (_h : 5 < l.length) : l.take 3 ++ (l.drop 3).take 2 ++ l.drop 5 = l := by
 have : l.drop 5 = (l.drop 3).drop 2 := by rw [List.drop_drop]
 rw [this,List.append_assoc,List.take_append_drop,List.take_append_drop]
theorem QoT (l : Bs) : (∃ k d w,Qce k d w ∧ l = Qcj k d w) ∨ Qbf l = (0,0,0,6) := by
 unfold Qbf;have hr := QfN l;split
 ·rename_i h;exact .inl ⟨0,Qa2 l,0,.inl ⟨rfl,by omega,hr.2,rfl⟩,by rw [show Qcj 0 (Qa2 l) 0 = itoa (Qa2 l) by simp [Qcj],QgV h]⟩
 ·split
  ·rename_i h;obtain ⟨h1,h2,h3⟩ := h;have hw := QhN (l.drop 4);refine .inl ⟨1,0,QaT (l.drop 4),.inr (.inl ⟨rfl,rfl,h3,hw.2⟩),?_⟩;rw [show Qcj 1 0 (QaT (l.drop 4)) = Qa4 ++ QbB (QaT (l.drop 4)) by simp [Qcj],Qdp h3,← h2,List.take_append_drop]
  ·split
   ·rename_i h;obtain ⟨h1,h2,h3⟩ := h;have hw := QhN (l.take 3);have hd := QfN (l.drop 5);have hp := parts h1;split
    ·rename_i hm;refine .inl ⟨2,Qa2 (l.drop 5),QaT (l.take 3),.inr (.inr ⟨.inl rfl,by omega,hd.2,h2,hw.2⟩),?_⟩;rw [show Qcj 2 (Qa2 (l.drop 5)) (QaT (l.take 3)) = QbB (QaT (l.take 3)) ++ geL ++ itoa (Qa2 (l.drop 5)) by simp [Qcj],Qdp h2,QgV h3,← hm,hp]
    ·split
     ·rename_i hm;refine .inl ⟨3,Qa2 (l.drop 5),QaT (l.take 3),.inr (.inr ⟨.inr rfl,by omega,hd.2,h2,hw.2⟩),?_⟩;rw [show Qcj 3 (Qa2 (l.drop 5)) (QaT (l.take 3)) = QbB (QaT (l.take 3)) ++ leL ++ itoa (Qa2 (l.drop 5)) by simp [Qcj],Qdp h2,QgV h3,← hm,hp]
     ·exact .inr rfl
   ·exact .inr rfl
theorem Qfk (l : Bs) : Qbf l = QbG l := by
 rcases Qc8 l with ⟨k,d,w,h,rfl,e⟩ | ⟨h,e⟩
 ·rw [e,QkA h]
 ·rw [e];rcases QoT l with ⟨k,d,w,h1,h2⟩ | h1
  ·exact absurd h2 (h k d w h1)
  ·exact h1
/- Show -/
def showD (k d w : Int) : Bs × Int := if QaL k d w = true then (Qcj k d w,0) else ([],1)
end Go.Dfm
