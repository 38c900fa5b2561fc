import Derived.Lib.AtoiAll
import Derived.Lib.AtoiAllCases
import Derived.Lib.IndexMore
import Derived.Lib.Strings
import Derived.Test.YtlfjknndkjgciaaGreatDoorYd02
namespace Go.Dfm
open Go.Lib Go.Esc

/-- the names of days -/
def QeO : List Bs := [[83,117,110],[77,111,110],[84,117,101],[87,101,100],[84,104,117],[70,114,105],[83,97,116]]
def QbU (w : Int) : Bs := QeO.getD w.toNat []
/-- which day a name is of; -1: of none -/
def Qa8 (l : Bs) : Int := if l = [83,117,110] then 0 else if l = [77,111,110] then 1 else if l = [84,117,101] then 2 else if l = [87,101,100] then 3 else if l = [84,104,117] then 4 else if l = [70,114,105] then 5 else if l = [83,97,116] then 6 else -1
abbrev Qbk : Bs := [108,97,115,116]
abbrev geL : Bs := [62,61]
abbrev leL : Bs := [60,61]
/-- is a day right? -/
def Qcv (k d w : Int) : Prop := (k = 0 ∧ 1 ≤ d ∧ d ≤ 31 ∧ w = 0) ∨ (k = 1 ∧ d = 0 ∧ 0 ≤ w ∧ w < 7) ∨ ((k = 2 ∨ k = 3) ∧ 1 ≤ d ∧ d ≤ 31 ∧ 0 ≤ w ∧ w < 7)
instance (k d w : Int) : Decidable (Qcv k d w) := inferInstanceAs (Decidable (_ ∨ _))
def QaS (k d w : Int) : Bool := decide (Qcv k d w)
theorem QaY {k d w : Int} : QaS k d w = true ↔ Qcv k d w := by simp [QaS]
/-- a day's text -/
def Qcy (k d w : Int) : Bs := if k = 1 then Qbk ++ QbU w else if k = 2 then QbU w ++ geL ++ itoa d else if k = 3 then QbU w ++ leL ++ itoa d else itoa d
/-- the program's number: of its shortest text -/
def numD (l : Bs) : Int := match atoiAll l with
 | .ok v => if itoa v = l then v else 0
 | _ => 0
/-- what the program reads -/
def Qdf (l : Bs) : Int × Int × Int :=
 if hasPrefix l Qbk = true then (1,0,Qa8 (trimPrefix l Qbk))
 else if (cut l geL).2.2 = true then (2,numD (cut l geL).2.1,Qa8 (cut l geL).1)
 else if (cut l leL).2.2 = true then (3,numD (cut l leL).2.1,Qa8 (cut l leL).1)
 else (0,numD l,0)
def QbX (l : Bs) : Int × Int × Int × Int := if QaS (Qdf l).1 (Qdf l).2.1 (Qdf l).2.2 = true then ((Qdf l).1,(Qdf l).2.1,(Qdf l).2.2,0) else (0,0,0,6)
/-- the document's number,1 to 31 -/
def Qbh (l : Bs) : Int := if (Qbi l).2 = 0 ∧ 1 ≤ (Qbi l).1 ∧ (Qbi l).1 ≤ 31 then (Qbi l).1 else 0
def Qby (l : Bs) : Int × Int × Int × Int :=
 if 0 < Qbh l then (0,Qbh l,0,0)
 else if l.length = 7 ∧ l.take 4 = Qbk ∧ 0 ≤ Qa8 (l.drop 4) then (1,0,Qa8 (l.drop 4),0)
 else if 5 < l.length ∧ 0 ≤ Qa8 (l.take 3) ∧ 0 < Qbh (l.drop 5) then
  if (l.drop 3).take 2 = geL then (2,Qbh (l.drop 5),Qa8 (l.take 3),0)
  else if (l.drop 3).take 2 = leL then (3,Qbh (l.drop 5),Qa8 (l.take 3),0)
  else (0,0,0,6)
 else (0,0,0,6)

/- numbers from 1 to 31 -/
def decL (n : Nat) : Bs := if n < 10 then [UInt8.ofNat (48 + n)] else [UInt8.ofNat (48 + n / 10),UInt8.ofNat (48 + n % 10)]
theorem QpT {n : Nat} (h : n < 100) : decDigits n = decL n := by
 unfold decL;by_cases h1 : n < 10
 ·rw [if_pos h1,decDigits_one h1]
 ·rw [if_neg h1,decDigits_two h1 h]
theorem Qfc {d : Int} (h1 : 1 ≤ d) (h2 : d ≤ 31) : itoa d = decL d.toNat := by
 rw [Qi4 (by omega),QpT (by omega)]
theorem atoi_fin : ∀ n : Fin 32,atoiAll (decL n.val) = .ok ((n.val : Nat) : Int) := by decide +kernel
theorem Qhs {d : Int} (h1 : 1 ≤ d) (h2 : d ≤ 31) : numD (itoa d) = d := by
 have h := atoi_fin ⟨d.toNat,by omega⟩;have e := Qfc h1 h2;rw [numD,e,show atoiAll (decL d.toNat) = .ok ((d.toNat : Nat) : Int) from h,show ((d.toNat : Nat) : Int) = d by omega];simp [e]
theorem QiZ {l : Bs} {n : Int} (h : numD l = n) (hn : 1 ≤ n) : itoa n = l := by
 unfold numD at h;split at h
 ·split at h
  ·rename_i e;rw [← h];exact e
  ·omega
 ·omega
theorem Qkq {d : Int} (h1 : 1 ≤ d) (h2 : d ≤ 31) : QaD d := by unfold QaD; omega
theorem Qih {d : Int} (h1 : 1 ≤ d) (h2 : d ≤ 31) : Qbh (itoa d) = d := by
 rw [Qbh,QkX d (Qkq h1 h2),if_pos ⟨rfl,h1,h2⟩]
theorem Qge (l : Bs) : 0 ≤ Qbh l ∧ Qbh l ≤ 31 := by
 unfold Qbh;split <;> omega
theorem Qhi {l : Bs} (h : 0 < Qbh l) : itoa (Qbh l) = l := by
 unfold Qbh at h ⊢;split at h
 ·rename_i e;rw [if_pos e];exact Qla (Prod.ext rfl e.1)
 ·omega

/- names -/
theorem Qh7 (l : Bs) : -1 ≤ Qa8 l ∧ Qa8 l < 7 := by
 unfold Qa8
 repeat' split
 all_goals omega
theorem QdT {l : Bs} (h : 0 ≤ Qa8 l) : QbU (Qa8 l) = l := by
 unfold Qa8 at h ⊢
 repeat' split
 all_goals first
  | (rename_i e; rw [e]; rfl)
  | (simp_all)
theorem QmW {w : Int} (h1 : 0 ≤ w) (h2 : w < 7) : w = 0 ∨ w = 1 ∨ w = 2 ∨ w = 3 ∨ w = 4 ∨ w = 5 ∨ w = 6 := by omega
theorem Qd3 {w : Int} (h1 : 0 ≤ w) (h2 : w < 7) : Qa8 (QbU w) = w := by
 rcases QmW h1 h2 with rfl | rfl | rfl | rfl | rfl | rfl | rfl <;> decide
theorem name_len {w : Int} (h1 : 0 ≤ w) (h2 : w < 7) : (QbU w).length = 3 := by
 rcases QmW h1 h2 with rfl | rfl | rfl | rfl | rfl | rfl | rfl <;> decide

/- what is shown is read -/
def QhZ (w : Nat) : Bs := QeO.getD w []
theorem fin_ge : ∀ (w : Fin 7) (n : Fin 32),hasPrefix (QhZ w.val ++ geL ++ decL n.val) Qbk = false ∧ cut (QhZ w.val ++ geL ++ decL n.val) geL = (QhZ w.val,decL n.val,true) := by decide +kernel
theorem fin_le : ∀ (w : Fin 7) (n : Fin 32),hasPrefix (QhZ w.val ++ leL ++ decL n.val) Qbk = false ∧ (cut (QhZ w.val ++ leL ++ decL n.val) geL).2.2 = false ∧ cut (QhZ w.val ++ leL ++ decL n.val) leL = (QhZ w.val,decL n.val,true) := by decide +kernel
theorem fin_num : ∀ n : Fin 32,hasPrefix (decL n.val) Qbk = false ∧ (cut (decL n.val) geL).2.2 = false ∧ (cut (decL n.val) leL).2.2 = false := by decide +kernel
theorem fin_last : ∀ w : Fin 7,hasPrefix (Qbk ++ QhZ w.val) Qbk = true ∧ trimPrefix (Qbk ++ QhZ w.val) Qbk = QhZ w.val := by decide +kernel
theorem QoH {k d w : Int} (h : Qcv k d w) : Qdf (Qcy k d w) = (k,d,w) := by
 rcases h with ⟨rfl,h1,h2,rfl⟩ | ⟨rfl,rfl,h1,h2⟩ | ⟨hk,h1,h2,h3,h4⟩
 ·have e : Qcy 0 d 0 = itoa d := by simp [Qcy]
  obtain ⟨a,b,c⟩ := fin_num ⟨d.toNat,by omega⟩;rw [e,Qdf,Qhs h1 h2];rw [Qfc h1 h2];simp only at a b c;rw [if_neg (by simp [a]),if_neg (by simp [b]),if_neg (by simp [c])]
 ·have e : Qcy 1 0 w = Qbk ++ QbU w := by simp [Qcy]
  obtain ⟨a,b⟩ := fin_last ⟨w.toNat,by omega⟩;rw [e,Qdf,if_pos (show hasPrefix (Qbk ++ QbU w) Qbk = true from a)];rw [show trimPrefix (Qbk ++ QbU w) Qbk = QbU w from b,Qd3 h1 h2]
 ·rcases hk with rfl | rfl
  ·have e : Qcy 2 d w = QbU w ++ geL ++ itoa d := by simp [Qcy]
   obtain ⟨a,b⟩ := fin_ge ⟨w.toNat,by omega⟩ ⟨d.toNat,by omega⟩;have hn := Qhs h1 h2;rw [Qfc h1 h2] at e hn;rw [e,Qdf,if_neg (by rw [show hasPrefix (QbU w ++ geL ++ decL d.toNat) Qbk = false from a]; simp)];rw [show cut (QbU w ++ geL ++ decL d.toNat) geL = (QbU w,decL d.toNat,true) from b,if_pos rfl];simp only;rw [hn,Qd3 h3 h4]
  ·have e : Qcy 3 d w = QbU w ++ leL ++ itoa d := by simp [Qcy]
   obtain ⟨a,b,c⟩ := fin_le ⟨w.toNat,by omega⟩ ⟨d.toNat,by omega⟩;have hn := Qhs h1 h2;rw [Qfc h1 h2] at e hn;rw [e,Qdf,if_neg (by rw [show hasPrefix (QbU w ++ leL ++ decL d.toNat) Qbk = false from a]; simp),if_neg (by rw [show (cut (QbU w ++ leL ++ decL d.toNat) geL).2.2 = false from b]; simp)];rw [show cut (QbU w ++ leL ++ decL d.toNat) leL = (QbU w,decL d.toNat,true) from c,if_pos rfl];simp only;rw [hn,Qd3 h3 h4]
/- what is read is shown -/
theorem QkU {l p : Bs} (h : hasPrefix l p = true) : p ++ trimPrefix l p = l := by
 obtain ⟨t,rfl⟩ := List.isPrefixOf_iff_prefix.1 h;rw [trimPrefix,if_pos h];simp
theorem Qns (p : Bs) : ∀ (l : Bs),0 ≤ index l p → l.take (index l p).toNat ++ (p ++ l.drop ((index l p).toNat + p.length)) = l := by
 intro l
 induction l with
 | nil =>
  intro h;unfold index at h ⊢;split at h
  ·rename_i hp;have : p = [] := List.isEmpty_iff.1 hp;subst this;rfl
  ·omega
 | cons b l ih =>
  intro h;unfold index at h ⊢;split at h
  ·rename_i hp;rw [if_pos hp];obtain ⟨t,ht⟩ := List.isPrefixOf_iff_prefix.1 hp;rw [← ht];simp
  ·rename_i hp;rw [if_neg hp];split at h
   ·omega
   ·rename_i hq;rw [if_neg hq];have hge := index_ge l p;have hne : index l p ≠ -1 := by simpa using hq
    have e1 : (index l p + 1).toNat = (index l p).toNat + 1 := by omega
    rw [e1,List.take_succ_cons,show (index l p).toNat + 1 + p.length = ((index l p).toNat + p.length) + 1 by omega,List.drop_succ_cons];rw [List.cons_append,ih (by omega)]
theorem Qmt {l p : Bs} (h : (cut l p).2.2 = true) : (cut l p).1 ++ p ++ (cut l p).2.1 = l := by
 unfold cut at h ⊢;split at h
 ·rename_i hi;rw [if_pos hi,List.append_assoc];exact Qns p l hi
 ·cases h
theorem Qoa {l : Bs} (h : Qcv (Qdf l).1 (Qdf l).2.1 (Qdf l).2.2) : Qcy (Qdf l).1 (Qdf l).2.1 (Qdf l).2.2 = l := by
 unfold Qdf at h ⊢;split at h
 ·rename_i hp;rw [if_pos hp];have hw : 0 ≤ Qa8 (trimPrefix l Qbk) := by simp only [Qcv] at h; omega
  show Qbk ++ QbU (Qa8 (trimPrefix l Qbk)) = l;rw [QdT hw];exact QkU hp
 ·rename_i hp;rw [if_neg hp];split at h
  ·rename_i hc;rw [if_pos hc];have hw : 0 ≤ Qa8 (cut l geL).1 ∧ 1 ≤ numD (cut l geL).2.1 := by simp only [Qcv] at h; omega
   show QbU (Qa8 (cut l geL).1) ++ geL ++ itoa (numD (cut l geL).2.1) = l;rw [QdT hw.1,QiZ rfl hw.2];exact Qmt hc
  ·rename_i hc;rw [if_neg hc];split at h
   ·rename_i hc2;rw [if_pos hc2];have hw : 0 ≤ Qa8 (cut l leL).1 ∧ 1 ≤ numD (cut l leL).2.1 := by simp only [Qcv] at h; omega
    show QbU (Qa8 (cut l leL).1) ++ leL ++ itoa (numD (cut l leL).2.1) = l;rw [QdT hw.1,QiZ rfl hw.2];exact Qmt hc2
   ·rename_i hc2;rw [if_neg hc2];have hw : 1 ≤ numD l := by simp only [Qcv] at h; omega
    show itoa (numD l) = l;exact QiZ rfl hw
theorem Qdz (l : Bs) : (∃ k d w,Qcv k d w ∧ l = Qcy k d w ∧ QbX l = (k,d,w,0)) ∨ ((∀ k d w,Qcv k d w → l ≠ Qcy k d w) ∧ QbX l = (0,0,0,6)) := by
 by_cases h : Qcv (Qdf l).1 (Qdf l).2.1 (Qdf l).2.2
 ·left;refine ⟨_,_,_,h,(Qoa h).symm,?_⟩;rw [QbX,if_pos (QaY.2 h)]
 ·right;refine ⟨fun k d w hr e => h ?_,?_⟩
  ·rw [e,QoH hr];exact hr
  ·rw [QbX,if_neg (fun x => h (QaY.1 x))]
/- the document's reader -/
theorem QjF {w : Int} (h1 : 0 ≤ w) (h2 : w < 7) (t : Bs) : Qbh (QbU w ++ t) = 0 := by
 have : Qce (QbU w ++ t) = false := by
  rcases QmW h1 h2 with rfl | rfl | rfl | rfl | rfl | rfl | rfl <;> simp [QbU,QeO,Qce,QdU,digB]
 rw [Qbh,Qbi,this,if_neg (by simp)]
theorem Qox (t : Bs) : Qbh (Qbk ++ t) = 0 := by
 have : Qce (Qbk ++ t) = false := by simp [Qce,QdU,digB]
 rw [Qbh,Qbi,this,if_neg (by simp)]
theorem Qjs {w : Int} (h1 : 0 ≤ w) (h2 : w < 7) (p t : Bs) (hp : p.length = 2) : (QbU w ++ p ++ t).take 3 = QbU w ∧ ((QbU w ++ p ++ t).drop 3).take 2 = p ∧ (QbU w ++ p ++ t).drop 5 = t ∧ (QbU w ++ p ++ t).length = 5 + t.length := by
 have hn := name_len h1 h2;refine ⟨?_,?_,?_,?_⟩
 ·rw [List.append_assoc,List.take_append_of_le_length (by omega),List.take_of_length_le (by omega)]
 ·rw [List.append_assoc,List.drop_append_of_le_length (by omega),List.drop_eq_nil_of_le (by omega),List.nil_append,List.take_append_of_le_length (by omega),List.take_of_length_le (by omega)]
 ·have : (QbU w ++ p).length = 5 := by simp [hn,hp]
  rw [List.drop_append_of_le_length (by omega),List.drop_eq_nil_of_le (by omega),List.nil_append]
 ·simp [hn,hp]; omega
theorem Qpj {w : Int} (h1 : 0 ≤ w) (h2 : w < 7) : (Qbk ++ QbU w).length = 7 ∧ (Qbk ++ QbU w).take 4 = Qbk ∧ (Qbk ++ QbU w).drop 4 = QbU w := by
 rcases QmW h1 h2 with rfl | rfl | rfl | rfl | rfl | rfl | rfl <;> decide
theorem dec_pos (d : Int) : 0 < (itoa d).length := by
 unfold itoa;split
 ·simp
 ·obtain ⟨c,r,e⟩ := dec_ne d.toNat;rw [e];simp
theorem QkA {k d w : Int} (h : Qcv k d w) : Qby (Qcy k d w) = (k,d,w,0) := by
 rcases h with ⟨rfl,h1,h2,rfl⟩ | ⟨rfl,rfl,h1,h2⟩ | ⟨hk,h1,h2,h3,h4⟩
 ·have e : Qcy 0 d 0 = itoa d := by simp [Qcy]
  rw [e,Qby,Qih h1 h2,if_pos (by omega)]
 ·have e : Qcy 1 0 w = Qbk ++ QbU w := by simp [Qcy]
  obtain ⟨a,b,c⟩ := Qpj h1 h2;rw [e,Qby,Qox,if_neg (by omega),c,Qd3 h1 h2,if_pos ⟨a,b,h1⟩]
 ·have hd := Qih h1 h2;have hl := dec_pos d;rcases hk with rfl | rfl
  ·have e : Qcy 2 d w = QbU w ++ geL ++ itoa d := by simp [Qcy]
   obtain ⟨a,b,c,g⟩ := Qjs h3 h4 geL (itoa d) rfl;have h7 : ¬ ((QbU w ++ geL ++ itoa d).take 4 = Qbk) := by
    rcases QmW h3 h4 with rfl | rfl | rfl | rfl | rfl | rfl | rfl <;> simp [QbU,QeO]
   rw [e,Qby,List.append_assoc,QjF h3 h4,← List.append_assoc,if_neg (by omega),if_neg (fun x => h7 x.2.1),a,b,c,g,Qd3 h3 h4,hd,if_pos ⟨by omega,h3,by omega⟩,if_pos rfl]
  ·have e : Qcy 3 d w = QbU w ++ leL ++ itoa d := by simp [Qcy]
   obtain ⟨a,b,c,g⟩ := Qjs h3 h4 leL (itoa d) rfl;have h7 : ¬ ((QbU w ++ leL ++ itoa d).take 4 = Qbk) := by
    rcases QmW h3 h4 with rfl | rfl | rfl | rfl | rfl | rfl | rfl <;> simp [QbU,QeO]
   rw [e,Qby,List.append_assoc,QjF h3 h4,← List.append_assoc,if_neg (by omega),if_neg (fun x => h7 x.2.1),a,b,c,g,Qd3 h3 h4,hd,if_pos ⟨by omega,h3,by omega⟩,if_neg (by decide),if_pos rfl]
theorem QkW {l : Bs} (_h : 5 < l.length) : l.take 3 ++ (l.drop 3).take 2 ++ l.drop 5 = l := by
 have : l.drop 5 = (l.drop 3).drop 2 := by rw [List.drop_drop]
 rw [this,List.append_assoc,List.take_append_drop,List.take_append_drop]
theorem Qov (l : Bs) : (∃ k d w,Qcv k d w ∧ l = Qcy k d w) ∨ Qby l = (0,0,0,6) := by
 unfold Qby
 have hr := Qge l;split
 ·rename_i h;exact .inl ⟨0,Qbh l,0,.inl ⟨rfl,by omega,hr.2,rfl⟩,by rw [show Qcy 0 (Qbh l) 0 = itoa (Qbh l) by simp [Qcy],Qhi h]⟩
 ·split
  ·rename_i h;obtain ⟨h1,h2,h3⟩ := h;have hw := Qh7 (l.drop 4);refine .inl ⟨1,0,Qa8 (l.drop 4),.inr (.inl ⟨rfl,rfl,h3,hw.2⟩),?_⟩;rw [show Qcy 1 0 (Qa8 (l.drop 4)) = Qbk ++ QbU (Qa8 (l.drop 4)) by simp [Qcy],QdT h3,← h2,List.take_append_drop]
  ·split
   ·rename_i h;obtain ⟨h1,h2,h3⟩ := h;have hw := Qh7 (l.take 3);have hd := Qge (l.drop 5);have hp := QkW h1;split
    ·rename_i hm;refine .inl ⟨2,Qbh (l.drop 5),Qa8 (l.take 3),.inr (.inr ⟨.inl rfl,by omega,hd.2,h2,hw.2⟩),?_⟩;rw [show Qcy 2 (Qbh (l.drop 5)) (Qa8 (l.take 3)) = QbU (Qa8 (l.take 3)) ++ geL ++ itoa (Qbh (l.drop 5)) by simp [Qcy],QdT h2,Qhi h3,← hm,hp]
    ·split
     ·rename_i hm;refine .inl ⟨3,Qbh (l.drop 5),Qa8 (l.take 3),.inr (.inr ⟨.inr rfl,by omega,hd.2,h2,hw.2⟩),?_⟩;rw [show Qcy 3 (Qbh (l.drop 5)) (Qa8 (l.take 3)) = QbU (Qa8 (l.take 3)) ++ leL ++ itoa (Qbh (l.drop 5)) by simp [Qcy],QdT h2,Qhi h3,← hm,hp]
     ·exact .inr rfl
   ·exact .inr rfl
theorem QfS (l : Bs) : Qby l = QbX l := by
 rcases Qdz l with ⟨k,d,w,h,rfl,e⟩ | ⟨h,e⟩
 ·rw [e,QkA h]
 ·rw [e];rcases Qov l with ⟨k,d,w,h1,h2⟩ | h1
  ·exact absurd h2 (h k d w h1)
  ·exact h1
/- Show -/
def showD (k d w : Int) : Bs × Int := if QaS k d w = true then (Qcy k d w,0) else ([],1)
end Go.Dfm
