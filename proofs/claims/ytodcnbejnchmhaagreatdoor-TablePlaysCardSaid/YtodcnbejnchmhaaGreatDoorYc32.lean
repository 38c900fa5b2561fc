import Derived.Test.YtodcnbejnchmhaaGreatDoorYc14
import Derived.Test.YtodcnbejnchmhaaGreatDoorYc09
import Derived.Test.YtodcnbejnchmhaaGreatDoorYc31
import Derived.Test.YtodcnbejnchmhaaGreatDoorYc16
namespace Go.Rope
/- lines of a text in which a stretch is put in another's place -/
theorem Qe1 : ∀ (l x : Bs) (i : Nat),i ≤ Qah l → Qas (l.take (Qak l i) ++ x) = (Qas l).take i ++ Qas x
 | l,x,0,_ => by rw [Qa6]; simp
 | [],x,i + 1,h => by simp [QjV] at h
 | c :: r,x,i + 1,h => by
  by_cases hc : c = 10
  ·subst hc;rw [Qa8] at h;have ih := Qe1 r x i (by omega);simp only [Qak,if_true,List.take_succ_cons,List.cons_append,Qas,ih]
  ·rw [QbE hc] at h;have ih := Qe1 r x (i + 1) h;cases hl : Qas r with
   | nil => exact absurd hl (QdR r)
   | cons p ps =>
    rw [hl,List.take_succ_cons,List.cons_append] at ih;simp only [Qak,if_neg hc,List.take_succ_cons,List.cons_append,Qas,ih,hl]
theorem QfR : ∀ (l : Bs) (i : Nat),i ≤ Qah l → Qas (l.drop (Qak l i)) = (Qas l).drop i
 | l,0,_ => by rw [Qa6]; simp
 | [],i + 1,h => by simp [QjV] at h
 | c :: r,i + 1,h => by
  by_cases hc : c = 10
  ·subst hc;rw [Qa8] at h;have ih := QfR r i (by omega);simp only [Qak,if_true,List.drop_succ_cons,Qas,ih]
  ·rw [QbE hc] at h;have ih := QfR r (i + 1) h;cases hl : Qas r with
   | nil => exact absurd hl (QdR r)
   | cons p ps =>
    rw [hl,List.drop_succ_cons] at ih;simp only [Qak,if_neg hc,List.drop_succ_cons,Qas,ih,hl]
theorem QjH (l x : Bs) (j : Nat) (h : j ≤ Qah l) : Qas (x ++ l.drop (Qbj l j)) = Qas x ++ (Qas l).drop (j + 1) := by
 by_cases hj : j = Qah l
 ·have e : Qbj l j = l.length := by unfold Qbj; rw [if_pos hj]
  rw [e,List.drop_length,List.append_nil,List.drop_eq_nil_of_le (by rw [Qb3]; omega),List.append_nil]
 ·have hlt : j < Qah l := by omega
  obtain ⟨h1,h2⟩ := Qcp hlt;have hb := Qb5 l (j + 1);have e : l.drop (Qbj l j) = 10 :: l.drop (Qak l (j + 1)) := by
   unfold Qbj;rw [if_neg hj];have hl : Qak l (j + 1) - 1 < l.length := by omega
   rw [List.drop_eq_getElem_cons hl,show Qak l (j + 1) - 1 + 1 = Qak l (j + 1) by omega];rw [List.getElem?_eq_getElem hl] at h2;rw [Option.some.inj h2]
  rw [e,Dcm.QpF,QfR l (j + 1) hlt]
theorem Qhp {l : Bs} {i a b : Nat} (h : i ≤ Qah l) (h1 : Qak l i ≤ a) (h2 : a ≤ b) (h3 : b ≤ Qbj l i) : Qah (cut l a b) = 0 := by
 have hb := QeG l i;have e1 := Qey h h1 (Nat.le_trans h2 h3);have e2 := Qey h (Nat.le_trans h1 h2) h3;have : l.take b = l.take a ++ cut l a b := by
  unfold cut
  conv => lhs; rw [← List.take_append_drop a (l.take b)]
  rw [List.take_take,Nat.min_eq_left h2]
 rw [this,QbP,e1] at e2;omega
/-- the middle of what Qj3 -/
def midL (l : Bs) (i a b j : Nat) (s : Bs) : Bs := cut l (Qak l i) a ++ s ++ cut l b (Qbj l j)
/-- an edit's two places: in lines i and j,Qak a and b bytes -/
structure Spot (l : Bs) (i a j b : Nat) : Prop where
 hi : i ≤ Qah l
 a1 : Qak l i ≤ a
 a2 : a ≤ Qbj l i
 hj : j ≤ Qah l
 b1 : Qak l j ≤ b
 b2 : b ≤ Qbj l j
theorem Spot.le {l : Bs} {i a j b : Nat} (h : Spot l i a j b) (hab : a ≤ b) : i ≤ j := by
 have e1 := Qey h.hi h.a1 h.a2;have e2 := Qey h.hj h.b1 h.b2;rw [← e1,← e2];have : l.take a = (l.take b).take a := by rw [List.take_take,Nat.min_eq_left hab]
 rw [this];exact QiO _ _
theorem Spot.mid {l : Bs} {i a j b : Nat} (h : Spot l i a j b) (s : Bs) : Qah (midL l i a b j s) = Qah s := by
 unfold midL;rw [QbP,QbP,Qhp h.hi (Nat.le_refl _) h.a1 h.a2,Qhp h.hj h.b1 h.b2 (Nat.le_refl _)];omega
theorem Spot.lines {l : Bs} {i a j b : Nat} (h : Spot l i a j b) (s : Bs) : Qas (l.take a ++ s ++ l.drop b) = (Qas l).take i ++ Qas (midL l i a b j s) ++ (Qas l).drop (j + 1) := by
 have e1 : l.take a = l.take (Qak l i) ++ cut l (Qak l i) a := by
  unfold cut
  conv => lhs; rw [← List.take_append_drop (Qak l i) (l.take a)]
  rw [List.take_take,Nat.min_eq_left h.a1]
 have e2 : l.drop b = cut l b (Qbj l j) ++ l.drop (Qbj l j) := by
  rw [Qde]
  conv => lhs; rw [← List.take_append_drop (Qbj l j - b) (l.drop b)]
  rw [List.drop_drop,show b + (Qbj l j - b) = Qbj l j by have := h.b2; omega]
 rw [e1,e2,← Qe1 l _ i h.hi];have := QjH l (l.take (Qak l i) ++ midL l i a b j s) j h.hj;rw [← this];congr 1;simp [midL]
theorem Spot.len {l : Bs} {i a j b : Nat} (h : Spot l i a j b) (s : Bs) : Qah (l.take a ++ s ++ l.drop b) + (j - i) = Qah l + Qah s ∨ ¬ i ≤ j := by
 by_cases hij : i ≤ j
 ·left;have := congrArg List.length (h.lines s);have hi := h.hi;have hj := h.hj;rw [Qb3,List.length_append,List.length_append,List.length_take,List.length_drop,Qb3,Qb3,h.mid s] at this;omega
 ·exact .inr hij
end Go.Rope
namespace Go.Proofs.YtodcnbejnchmhaaGreatDoor
open Go.Rope hiding Bs
open Go.RowKit Go.Mem Go.Lin Go.Dcm

/- what edits make of a text -/
structure EdL where
 l1 : Int
 c1 : Int
 l2 : Int
 c2 : Int
 s : Bs
/-- a place that is there,and how many bytes are ahead of it -/
def OkP (l : Bs) (i c : Int) : Prop := 0 ≤ i ∧ i ≤ (Qah l : Int) ∧ 0 ≤ c ∧ c ≤ (Qbj l i.toNat : Int) - (Qak l i.toNat : Int)
instance (l : Bs) (i c : Int) : Decidable (OkP l i c) := by unfold OkP; infer_instance
def posD (l : Bs) (i c : Int) : Nat := Qak l i.toNat + c.toNat
def Qj3 (l : Bs) (e : EdL) : Bs := l.take (posD l e.l1 e.c1) ++ e.s ++ l.drop (posD l e.l2 e.c2)
def Fine (l : Bs) (e : EdL) : Prop := OkP l e.l1 e.c1 ∧ OkP l e.l2 e.c2 ∧ posD l e.l1 e.c1 ≤ posD l e.l2 e.c2
instance (l : Bs) (e : EdL) : Decidable (Fine l e) := by unfold Fine; infer_instance
def Fits (l : Bs) : Prop := l.length ≤ 20000 ∧ Qah l + 1 ≤ 400
instance (l : Bs) : Decidable (Fits l) := by unfold Fits; infer_instance
/-- the text Qak an edit,and the kind that it answers -/
def Qcc (l : Bs) (e : EdL) : Bs × Int := if Fine l e then (if Fits (Qj3 l e) then (Qj3 l e,0) else (l,17)) else (l,2)
def Qb0 (l : Bs) (e : EdL) (n : Int) : Int := if (Qcc l e).2 = 0 then (Qah e.s : Int) + 1 else n
theorem Qfq {l : Bs} {i c : Int} (h : OkP l i c) : S3.Qa9 l i c = ((posD l i c : Int),0) := by
 have h2 := h;unfold OkP at h2;unfold S3.Qa9;rw [if_pos h2];unfold posD;congr 1;omega
theorem Qg4 {l : Bs} {i c : Int} (h : ¬ OkP l i c) : S3.Qa9 l i c = (0,2) := by
 unfold OkP at h;unfold S3.Qa9;rw [if_neg h]
theorem Qf4 {l : Bs} {i c : Int} (h : OkP l i c) : Qak l i.toNat ≤ posD l i c ∧ posD l i c ≤ Qbj l i.toNat ∧ i.toNat ≤ Qah l ∧ posD l i c ≤ l.length := by
 obtain ⟨h1,h2,h3,h4⟩ := h;have := QeG l i.toNat;unfold posD;omega
theorem spot_of {l : Bs} {i c j d : Int} (h : OkP l i c) (k : OkP l j d) : Spot l i.toNat (posD l i c) j.toNat (posD l j d) :=
 ⟨(Qf4 h).2.2.1,(Qf4 h).1,(Qf4 h).2.1,(Qf4 k).2.2.1,(Qf4 k).1,(Qf4 k).2.1⟩
theorem Qjf {l : Bs} {a b : Nat} (s : Bs) (hb : b ≤ l.length) (hab : a ≤ b) : S3.Qb9 l (a : Int) (b : Int) s = if (l.take a ++ s ++ l.drop b).length ≤ 20000 then (l.take a ++ s ++ l.drop b,0) else ([],17) := by
 unfold S3.Qb9;rw [if_pos ⟨by omega,by omega,by omega⟩];simp only [Int.toNat_natCast];have e := S3.Qew (l := l) (f := a) (t := b) s hab hb;rw [← e];rfl
theorem QgN {l : Bs} {a b : Nat} (s : Bs) (hab : b < a) : S3.Qb9 l (a : Int) (b : Int) s = ([],2) := by
 unfold S3.Qb9;rw [if_neg (by rintro ⟨-,h,-⟩; omega)]
/-- the ways that an edit goes -/
inductive EdWay (l : Bs) (e : EdL) : Prop
 | no1 (h1 : S3.Qa9 l e.l1 e.c1 = (0,2)) (h : Qcc l e = (l,2))
 | no2 (a : Nat) (h1 : S3.Qa9 l e.l1 e.c1 = ((a : Int),0)) (h2 : S3.Qa9 l e.l2 e.c2 = (0,2)) (h : Qcc l e = (l,2))
 | back (a b : Nat) (h1 : S3.Qa9 l e.l1 e.c1 = ((a : Int),0)) (h2 : S3.Qa9 l e.l2 e.c2 = ((b : Int),0)) (h3 : S3.Qb9 l (a : Int) (b : Int) e.s = ([],2)) (h : Qcc l e = (l,2))
 | large (a b : Nat) (h1 : S3.Qa9 l e.l1 e.c1 = ((a : Int),0)) (h2 : S3.Qa9 l e.l2 e.c2 = ((b : Int),0)) (h3 : S3.Qb9 l (a : Int) (b : Int) e.s = ([],17)) (h : Qcc l e = (l,17))
 | many (a b : Nat) (t : Bs) (h1 : S3.Qa9 l e.l1 e.c1 = ((a : Int),0)) (h2 : S3.Qa9 l e.l2 e.c2 = ((b : Int),0)) (h3 : S3.Qb9 l (a : Int) (b : Int) e.s = (t,0)) (ht : t.length ≤ 20000) (hm : 400 < Qah t + 1) (h : Qcc l e = (l,17))
 | ok (i j a b : Nat) (t : Bs) (hi : e.l1 = (i : Int)) (hj : e.l2 = (j : Int)) (h1 : S3.Qa9 l e.l1 e.c1 = ((a : Int),0)) (h2 : S3.Qa9 l e.l2 e.c2 = ((b : Int),0)) (h3 : S3.Qb9 l (a : Int) (b : Int) e.s = (t,0)) (ht : t.length ≤ 20000) (hm : Qah t + 1 ≤ 400) (h : Qcc l e = (t,0))
   (hs : Spot l i a j b) (hab : a ≤ b) (hij : i ≤ j) (hc : t = l.take a ++ e.s ++ l.drop b)
theorem Qp4 (l : Bs) (e : EdL) : EdWay l e := by
 by_cases k1 : OkP l e.l1 e.c1
 ·by_cases k2 : OkP l e.l2 e.c2
  ·have o1 := Qfq k1;have o2 := Qfq k2;by_cases k3 : posD l e.l1 e.c1 ≤ posD l e.l2 e.c2
   ·have hf : Fine l e := ⟨k1,k2,k3⟩;have hs := Qjf e.s (Qf4 k2).2.2.2 k3;by_cases k4 : (Qj3 l e).length ≤ 20000
    ·have hs' : S3.Qb9 l (posD l e.l1 e.c1 : Int) (posD l e.l2 e.c2 : Int) e.s = (Qj3 l e,0) := by rw [hs]; exact if_pos k4
     by_cases k5 : Qah (Qj3 l e) + 1 ≤ 400
     ·have sp := spot_of k1 k2;refine .ok e.l1.toNat e.l2.toNat _ _ (Qj3 l e) ?_ ?_ o1 o2 hs' k4 k5 ?_ sp k3 (sp.le k3) rfl
      ·have := k1.1; omega
      ·have := k2.1; omega
      ·unfold Qcc; rw [if_pos hf,if_pos ⟨k4,k5⟩]
     ·exact .many _ _ _ o1 o2 hs' k4 (by omega) (by unfold Qcc; rw [if_pos hf,if_neg (fun h => k5 h.2)])
    ·exact .large _ _ o1 o2 (by rw [hs]; exact if_neg k4) (by unfold Qcc; rw [if_pos hf,if_neg (fun h => k4 h.1)])
   ·exact .back _ _ o1 o2 (QgN e.s (by omega)) (by unfold Qcc; rw [if_neg (fun h => k3 h.2.2)])
  ·exact .no2 _ (Qfq k1) (Qg4 k2) (by unfold Qcc; rw [if_neg (fun h => k2 h.2.1)])
 ·exact .no1 (Qg4 k1) (by unfold Qcc; rw [if_neg (fun h => k1 h.1)])
theorem Qp3 {l : Bs} (h : Fits l) (e : EdL) : Fits (Qcc l e).1 := by
 unfold Qcc;split
 ·split
  ·assumption
  ·exact h
 ·exact h
theorem Qid {l : Bs} {e : EdL} (h : (Qcc l e).2 ≠ 0) : (Qcc l e).1 = l := by
 unfold Qcc at *;split
 ·rename_i h1;rw [if_pos h1] at h;split
  ·rename_i h2;rw [if_pos h2] at h;exact absurd rfl h
  ·rfl
 ·rfl
/-- a text that is read whole: an edit of nothing -/
def Qf0 (s : Bs) : EdL := ⟨0,0,0,0,s⟩
theorem QnW (s : Bs) : Qcc [] (Qf0 s) = if Fits s then (s,0) else ([],17) := by
 have hf : Fine [] (Qf0 s) := by
  have h0 : OkP [] 0 0 := by decide
  exact ⟨h0,h0,Nat.le_refl _⟩
 have hc : Qj3 [] (Qf0 s) = s := by unfold Qj3; simp [Qf0]
 unfold Qcc;rw [if_pos hf,hc]
/- what lines say -/
def Qdh (l : Bs) : List LineL := (QdY l).map Qb8
def sayD (x : Bs) : LineL := Qb8 (Qcn x)
theorem Qkv (l : Bs) : Qdh l = (Qas l).map sayD := by
 unfold Qdh QdY;rw [List.map_map];rfl
theorem Qev (l : Bs) : (Qdh l).length = Qah l + 1 := by rw [Qkv,List.length_map,Qb3]
theorem Qla {x : Bs} (h : Qah x = 0) : QdY x = [Qcn x] := by unfold QdY; rw [Qhd h]; rfl
/-- the lines Qak an edit -/
theorem QoI {l : Bs} {i a j b : Nat} (h : Spot l i a j b) (s : Bs) : Qdh (l.take a ++ s ++ l.drop b) = (Qdh l).take i ++ (Qas (midL l i a b j s)).map sayD ++ (Qdh l).drop (j + 1) := by
 rw [Qkv,Qkv,h.lines s];simp
theorem QnG {l : Bs} {i : Nat} (h : i ≤ Qah l) : Qah (cut l (Qak l i) (Qbj l i)) = 0 := Qhp h (Nat.le_refl _) (QfB h) (Nat.le_refl _)
/-- line i + k of what Qj3 is line k of its middle -/
theorem line_mid {l : Bs} {i a j b : Nat} (h : Spot l i a j b) (s t : Bs) (ht : t = l.take a ++ s ++ l.drop b) (k : Nat) (hk : k ≤ Qah s) : i + k ≤ Qah t ∧ (Qas (midL l i a b j s))[k]? = some (cut t (Qak t (i + k)) (Qbj t (i + k))) := by
 subst ht;have hl := h.lines s;have hm := h.mid s;have hlen := congrArg List.length hl;have hmid := Qb3 (midL l i a b j s);have hi := h.hi;have hll := Qb3 l;rw [Qb3,List.length_append,List.length_append,List.length_take,List.length_drop,hmid,hm] at hlen;have h1 : i + k ≤ Qah (l.take a ++ s ++ l.drop b) := by omega
 refine ⟨h1,?_⟩;have := Qk9 h1;rw [hl,List.append_assoc,List.getElem?_append_right (by rw [List.length_take]; omega),List.length_take,Nat.min_eq_left (by omega),Nat.add_sub_cancel_left,List.getElem?_append_left (by omega)] at this;exact this
end Go.Proofs.YtodcnbejnchmhaaGreatDoor
namespace Go.Proofs.YtodcnbejnchmhaaGreatDoor
open Go.RowKit Go.Mem Go.Lin

/- an edit in its cells -/
def edC (e : EdL) : Array Value := #[intV e.l1,intV e.c1,intV e.l2,intV e.c2,strV e.s]
abbrev edV (e : EdL) : Value := .agg (edC e)
def edL (e : EdL) : List Value := (edC e).toList
theorem QiP (e : EdL) : (edL e).length = 5 := rfl
instance : Inhabited EdL := ⟨⟨0,0,0,0,[]⟩⟩
end Go.Proofs.YtodcnbejnchmhaaGreatDoor
