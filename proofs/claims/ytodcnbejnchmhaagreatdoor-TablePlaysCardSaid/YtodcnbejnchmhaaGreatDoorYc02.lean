import Derived.Lib.ParseIntBCases
import Derived.Lib.ItoaNum
namespace Go.Esc
open Go.Lib
abbrev Bs := List UInt8

def digB (c : UInt8) : Bool := 48 ≤ c.toNat && c.toNat ≤ 57
/-- what digits spell,Qak others -/
def accD (a : Nat) (l : Bs) : Nat := l.foldl (fun a c => a * 10 + (c.toNat - 48)) a
abbrev valD (l : Bs) : Nat := accD 0 l
def Qdq (l : Bs) : Bs := if l.head? = some 45 then l.tail else l
/-- is it a whole number's text? -/
def QbY (l : Bs) : Bool := l == [48] || (!(Qdq l).isEmpty && (Qdq l).head? != some 48 && (Qdq l).all digB)
/-- the number of a text -/
def numV (l : Bs) : Int := if l.head? = some 45 then -(valD (Qdq l) : Int) else (valD l : Int)
def QaB (v : Int) : Prop := -9223372036854775808 ≤ v ∧ v ≤ 9223372036854775807
instance (v : Int) : Decidable (QaB v) := inferInstanceAs (Decidable (_ ∧ _))
/-- what ParseInt answers -/
def Qa3 (l : Bs) : Int × Int := if QbY l = true then (if QaB (numV l) then (numV l,0) else (0,2)) else (0,3)

theorem QlL (l : Bs) : ∀ a,a ≤ accD a l := by
 induction l with
 | nil => intro a; exact Nat.le_refl _
 | cons c l ih =>
  intro a;have := ih (a * 10 + (c.toNat - 48));simp only [accD,List.foldl_cons] at this ⊢;omega
theorem Qen (a : Nat) (c : UInt8) (l : Bs) : accD a (c :: l) = accD (a * 10 + (c.toNat - 48)) l := by simp only [accD,List.foldl_cons]
theorem QdU (a : Nat) (l m : Bs) : accD a (l ++ m) = accD (accD a l) m := by simp [accD]
theorem uint_nil (M a : Nat) : parseUintM M a [] = .ok a := by simp only [parseUintM]
theorem Qon (M a : Nat) (c : UInt8) (l : Bs) (hc : 48 ≤ c.toNat ∧ c.toNat ≤ 57) (h1 : ¬ 1844674407370955162 ≤ a) (h2 : ¬ M < a * 10 + (c.toNat - 48)) : parseUintM M a (c :: l) = parseUintM M (a * 10 + (c.toNat - 48)) l := by
 conv => lhs; unfold parseUintM
 rw [if_pos hc,if_neg h1,if_neg h2]
theorem Qom (M a : Nat) (c : UInt8) (l : Bs) (hc : 48 ≤ c.toNat ∧ c.toNat ≤ 57) (h : 1844674407370955162 ≤ a ∨ M < a * 10 + (c.toNat - 48)) : parseUintM M a (c :: l) = .range := by
 conv => lhs; unfold parseUintM
 rw [if_pos hc];by_cases h1 : 1844674407370955162 ≤ a
 ·rw [if_pos h1]
 ·rw [if_neg h1,if_pos (h.resolve_left h1)]
theorem QaP (c : UInt8) : digB c = true ↔ 48 ≤ c.toNat ∧ c.toNat ≤ 57 := by simp [digB]
theorem Qkh (M : Nat) (hM : M ≤ 18446744073709551615) (l : Bs) : ∀ a,a ≤ M → l.all digB = true → (accD a l ≤ M → parseUintM M a l = .ok (accD a l)) ∧ (¬ accD a l ≤ M → parseUintM M a l = .range) := by
 induction l with
 | nil =>
  intro a ha _;exact ⟨fun _ => uint_nil M a,fun h => absurd ha h⟩
 | cons c l ih =>
  intro a ha h;simp only [List.all_cons,Bool.and_eq_true] at h;obtain ⟨hc,hl⟩ := h;have hc := (QaP c).1 hc;rw [Qen];have hge := QlL l (a * 10 + (c.toNat - 48));by_cases h1 : 1844674407370955162 ≤ a ∨ M < a * 10 + (c.toNat - 48)
  ·exact ⟨fun h => absurd h (by omega),fun _ => Qom M a c l hc h1⟩
  ·have h2 : ¬ M < a * 10 + (c.toNat - 48) := fun h => h1 (.inr h);rw [Qon M a c l hc (fun h => h1 (.inl h)) h2];exact ih _ (Nat.le_of_not_lt h2) hl
/-- three cases of a whole number's text -/
theorem Qgz {l : Bs} (h : QbY l = true) : (l.head? = some 45 ∧ ∃ c r,l = 45 :: c :: r ∧ c ≠ 48 ∧ (c :: r).all digB = true) ∨ (l.head? ≠ some 45 ∧ ∃ c r,l = c :: r ∧ (c ≠ 48 ∨ r = []) ∧ (c :: r).all digB = true) := by
 simp only [QbY,Bool.or_eq_true,beq_iff_eq,Bool.and_eq_true,Bool.not_eq_true',bne_iff_ne,ne_eq] at h;rcases h with rfl | ⟨⟨h1,h2⟩,h3⟩
 ·right;exact ⟨by decide,48,[],rfl,.inr rfl,by decide⟩
 ·by_cases h45 : l.head? = some 45
  ·left;refine ⟨h45,?_⟩;rw [Qdq,if_pos h45] at h1 h2 h3;cases l with
   | nil => cases h45
   | cons x l =>
    obtain rfl : x = 45 := by simpa using h45
    rw [List.tail_cons] at h1 h2 h3;cases l with
    | nil => cases h1
    | cons c r => exact ⟨c,r,rfl,by simpa using h2,h3⟩
  ·right;refine ⟨h45,?_⟩;rw [Qdq,if_neg h45] at h1 h2 h3;cases l with
   | nil => cases h1
   | cons c r => exact ⟨c,r,rfl,.inl (by simpa using h2),h3⟩
theorem Qgm (r : Bs) : numV (45 :: r) = -(valD r : Int) := rfl
theorem Qgl {l : Bs} (h : l.head? ≠ some 45) : numV l = (valD l : Int) := by rw [numV,if_neg h]
theorem Qkg {l : Bs} (h : QbY l = true) : parseIntB 64 l = if QaB (numV l) then .ok (numV l) else .range := by
 have hu : ∀ c r,(c :: r).all digB = true → parseUintB 64 (c :: r) = if valD (c :: r) ≤ 18446744073709551615 then .ok (valD (c :: r)) else .range := fun c r h => by
  rw [parseUintB,if_neg (by simp)];have := Qkh (2 ^ 64 - 1) (by decide) (c :: r) 0 (Nat.zero_le _) h;by_cases hv : valD (c :: r) ≤ 18446744073709551615
  ·rw [if_pos hv]; exact this.1 hv
  ·rw [if_neg hv]; exact this.2 hv
 rcases Qgz h with ⟨_,c,r,rfl,_,hall⟩ | ⟨h45,c,r,rfl,_,hall⟩
 ·rw [parseIntB_minus,hu c r hall,Qgm];generalize valD (c :: r) = v;by_cases h1 : v ≤ 18446744073709551615
  ·rw [if_pos h1];show (if 2 ^ 63 < v then NumEnd.range else .ok (-(v : Int))) = _;by_cases h2 : 9223372036854775808 < v
   ·rw [if_pos h2,if_neg (by unfold QaB; omega)]
   ·rw [if_neg h2,if_pos (by unfold QaB; omega)]
  ·rw [if_neg h1,if_neg (by unfold QaB; omega)];rfl
 ·have hc := hall;simp only [List.all_cons,Bool.and_eq_true] at hc;have hd := (QaP c).1 hc.1;rw [parseIntB_plain 64 c r (by omega) (by omega),hu c r hall,Qgl h45];generalize valD (c :: r) = v;by_cases h1 : v ≤ 18446744073709551615
  ·rw [if_pos h1];show (if 2 ^ 63 ≤ v then NumEnd.range else .ok (v : Int)) = _;by_cases h2 : 9223372036854775808 ≤ v
   ·rw [if_pos h2,if_neg (by unfold QaB; omega)]
   ·rw [if_neg h2,if_pos (by unfold QaB; omega)]
  ·rw [if_neg h1,if_neg (by unfold QaB; omega)];rfl

theorem QeH (u : Nat) : (decDigits u).all digB = true ∧ valD (decDigits u) = u ∧ (u ≠ 0 → ∃ c r,decDigits u = c :: r ∧ c ≠ 48) := by
 induction u using Nat.strongRecOn with
 | _ u ih =>
  by_cases h : u < 10
  ·rw [decDigits_one h];have e : (UInt8.ofNat (48 + u)).toNat = 48 + u := by rw [UInt8.toNat_ofNat']; omega
   refine ⟨by simp [digB]; omega,by simp only [valD,accD,List.foldl_cons,List.foldl_nil,e]; omega,fun h0 => ⟨_,_,rfl,fun hc => ?_⟩⟩;have := congrArg UInt8.toNat hc;rw [e] at this;have e2 : (48 : UInt8).toNat = 48 := rfl;omega
  ·rw [decDigits,dif_neg h];obtain ⟨h1,h2,h3⟩ := ih (u / 10) (by omega);have e : (UInt8.ofNat (48 + u % 10)).toNat = 48 + u % 10 := by rw [UInt8.toNat_ofNat']; omega
   refine ⟨by rw [List.all_append,h1]; simp [digB]; omega,?_,fun _ => ?_⟩
   ·rw [valD,QdU];have : accD 0 (decDigits (u / 10)) = u / 10 := h2;rw [this];simp [accD];omega
   ·obtain ⟨c,r,hc,h48⟩ := h3 (by omega);exact ⟨c,_,by rw [hc]; rfl,h48⟩
theorem Qoj (l : Bs) : ∀ a,0 < a → 0 < accD a l := fun a h => Nat.lt_of_lt_of_le h (QlL l a)
theorem QiQ {c : UInt8} (h : digB c = true) (h48 : c ≠ 48) : 0 < c.toNat - 48 := by
 have := (QaP c).1 h;rcases Nat.eq_or_lt_of_le this.1 with e | e
 ·exact absurd (UInt8.toNat_inj.1 (by rw [← e]; rfl)) h48
 ·omega
theorem Qp7 : ∀ (n : Nat) (c : UInt8) (r : Bs),r.length = n → (c :: r).all digB = true → (c ≠ 48 ∨ r = []) → decDigits (valD (c :: r)) = c :: r := by
 intro n
 induction n with
 | zero =>
  intro c r hr hall _;obtain rfl := List.length_eq_zero_iff.1 hr;have hc : digB c = true := by simpa using hall
  have := (QaP c).1 hc;have e : valD [c] = c.toNat - 48 := by simp [valD,accD]
  rw [e,decDigits_one (by omega)];have : 48 + (c.toNat - 48) = c.toNat := by omega
  rw [this];simp
 | succ n ih =>
  intro c r hr hall h48;have hne : r ≠ [] := by rintro rfl; cases hr
  have hc48 : c ≠ 48 := h48.resolve_right hne;obtain ⟨m,d,rfl⟩ : ∃ m d,r = m ++ [d] := ⟨r.dropLast,r.getLast hne,(List.dropLast_concat_getLast hne).symm⟩;have hall2 : (c :: m).all digB = true ∧ digB d = true := by
   rw [← List.cons_append,List.all_append,Bool.and_eq_true] at hall;exact ⟨hall.1,by simpa using hall.2⟩
  have hm : m.length = n := by simpa using hr
  have hd := (QaP d).1 hall2.2;have hcd : digB c = true := by have := hall2.1; simp only [List.all_cons,Bool.and_eq_true] at this; exact this.1
  have e : valD (c :: (m ++ [d])) = valD (c :: m) * 10 + (d.toNat - 48) := by
   rw [← List.cons_append,valD,QdU];rfl
  have hpos : 0 < valD (c :: m) := by
   rw [valD,Qen];exact Qoj m _ (by have := QiQ hcd hc48; omega)
  rw [e,decDigits,dif_neg (by omega)];have e1 : (valD (c :: m) * 10 + (d.toNat - 48)) / 10 = valD (c :: m) := by omega
  have e2 : (valD (c :: m) * 10 + (d.toNat - 48)) % 10 = d.toNat - 48 := by omega
  rw [e1,e2,ih c m hm hall2.1 (.inl hc48)];have e3 : 48 + (d.toNat - 48) = d.toNat := by omega
  rw [e3];simp

theorem Qmr {n : Int} (h : n < 0) : itoa n = 45 :: decDigits n.natAbs := by rw [itoa,if_pos h]
theorem QiJ {n : Int} (h : ¬ n < 0) : itoa n = decDigits n.toNat := by rw [itoa,if_neg h]
theorem dec_head {u : Nat} {c : UInt8} {r : Bs} (h : decDigits u = c :: r) : c.toNat ≠ 45 := by
 have := (QeH u).1;rw [h] at this;simp only [List.all_cons,Bool.and_eq_true] at this;have := (QaP c).1 this.1;omega
theorem dec_ne (u : Nat) : ∃ c r,decDigits u = c :: r := by
 by_cases h : u < 10
 ·exact ⟨_,_,decDigits_one h⟩
 ·obtain ⟨c,r,e,_⟩ := (QeH u).2.2 (by omega);exact ⟨c,r,e⟩
/-- a number's text is read as it -/
theorem QkV (n : Int) (h : QaB n) : Qa3 (itoa n) = (n,0) := by
 have key : QbY (itoa n) = true ∧ numV (itoa n) = n := by
  by_cases h0 : n < 0
  ·obtain ⟨h1,h2,h3⟩ := QeH n.natAbs;obtain ⟨c,r,e,hc⟩ := h3 (by omega);rw [Qmr h0,Qgm,h2];refine ⟨?_,by omega⟩;rw [e] at h1 ⊢;simp [QbY,Qdq,hc];simpa using h1
  ·obtain ⟨h1,h2,h3⟩ := QeH n.toNat;obtain ⟨c,r,e⟩ := dec_ne n.toNat;have h45 := dec_head e;have hh : (decDigits n.toNat).head? ≠ some 45 := by
    rw [e];intro x;simp at x;exact h45 (by rw [x]; rfl)
   rw [QiJ h0,Qgl hh,h2];refine ⟨?_,by omega⟩;by_cases hz : n.toNat = 0
   ·rw [hz,decDigits_one (by omega)];rfl
   ·obtain ⟨c',r',e',hc⟩ := h3 hz;simp only [QbY,Qdq,if_neg hh,h1];rw [e'];simp [hc]
 rw [Qa3,if_pos key.1,key.2,if_pos h]
/-- a text that is read is the number's text -/
theorem Qlg {l : Bs} {n : Int} (h : Qa3 l = (n,0)) : itoa n = l := by
 unfold Qa3 at h;split at h
 ·rename_i hw;split at h
  ·have hn : numV l = n := by simpa using h
   subst hn;rcases Qgz hw with ⟨_,c,r,rfl,hc,hall⟩ | ⟨h45,c,r,rfl,hc,hall⟩
   ·rw [Qgm];have hcd : digB c = true := by simp only [List.all_cons,Bool.and_eq_true] at hall; exact hall.1
    have hpos : 0 < valD (c :: r) := by
     rw [valD,Qen];exact Qoj r _ (by have := QiQ hcd hc; omega)
    rw [Qmr (by omega)];have : (-(valD (c :: r) : Int)).natAbs = valD (c :: r) := by omega
    rw [this,Qp7 _ c r rfl hall (.inl hc)]
   ·rw [Qgl h45,QiJ (by omega)];have : ((valD (c :: r) : Int)).toNat = valD (c :: r) := by omega
    rw [this,Qp7 _ c r rfl hall hc]
  ·simp at h
 ·simp at h
end Go.Esc
