import Derived.Test.YtlfjknndkjgciaaGreatDoorYd04
import Derived.Lib.SplitLaws
namespace Go.Kwd
open Go.Lib

theorem QfN : split [] [47] = [[]] := by
 rw [split,count_miss (by simp [index])];rfl
theorem QiL (l : Bs) : split (47 :: l) [47] = [] :: split l [47] := by
 have hix : index (47 :: l) [47] = ((0 : Nat) : Int) := by rw [index]; simp [List.isPrefixOf]
 rw [split,count_cons_eq,Nat.add_comm,splitK,hix];simp [split]
theorem Qc3 (c : UInt8) (l : Bs) (h : c ≠ 47) : ∃ p ps,split l [47] = p :: ps ∧ split (c :: l) [47] = (c :: p) :: ps := by
 have hp : ([47] : List UInt8).isPrefixOf (c :: l) = false := by simp [List.isPrefixOf,Ne.symm h]
 have hix : index (c :: l) [47] = if index l [47] == -1 then -1 else index l [47] + 1 := by rw [index,hp]; simp
 unfold split;rw [count_cons_ne c 47 l h];by_cases hm : index l [47] = -1
 ·rw [count_miss hm];exact ⟨l,[],rfl,rfl⟩
 ·have hge := index_ge l [47];obtain ⟨j,hj⟩ : ∃ j : Nat,index l [47] = j := ⟨(index l [47]).toNat,by omega⟩;have hix' : index (c :: l) [47] = ((j + 1 : Nat) : Int) := by rw [hix,if_neg (fun e => hm (beq_iff_eq.1 e)),hj]; omega
  rw [count_hit (by simp) hj,Nat.add_comm,splitK,splitK,if_neg (fun e => hm (beq_iff_eq.1 e)),if_neg (by rw [hix']; intro e; have := beq_iff_eq.1 e; omega),hj,hix'];exact ⟨_,_,rfl,by simp⟩
theorem Qe6 : ∀ l : Bs,∃ p ps,split l [47] = p :: ps
 | [] => ⟨[],[],QfN⟩
 | c :: l => by
  by_cases h : c = 47
  ·subst h;exact ⟨_,_,QiL l⟩
  ·obtain ⟨p,ps,_,h2⟩ := Qc3 c l h;exact ⟨_,_,h2⟩
/-- may a part of a zone's name be so? -/
def allM : Bool → Bs → Bool
 | b,[] => !b
 | b,c :: r => QhV b c && allM false r
theorem Qf9 : ∀ (l : Bs) (b : Bool) (p : Bs) (ps : List Bs),split l [47] = p :: ps → QfI b l = (allM b p && ps.all (allM true))
 | [],b,p,ps,h => by
  rw [QfN] at h;obtain ⟨rfl,rfl⟩ := List.cons.inj h;simp [QfI,allM]
 | c :: l,b,p,ps,h => by
  by_cases hc : c = 47
  ·subst hc;rw [QiL] at h;obtain ⟨rfl,rfl⟩ := List.cons.inj h;obtain ⟨q,qs,hq⟩ := Qe6 l;rw [hq,QfI,if_pos rfl,Qf9 l true q qs hq];rfl
  ·obtain ⟨q,qs,h1,h2⟩ := Qc3 c l hc;rw [h2] at h;obtain ⟨rfl,rfl⟩ := List.cons.inj h;rw [QfI,if_neg hc,Qf9 l false q qs h1,allM,Bool.and_assoc]
/-- one byte of a part,wherever it stands -/
def Qft (c : UInt8) : Bool := Qde c || c == 43
def Qhq (p : Bs) : Bool := !p.isEmpty && p.head? != some 45 && p.all Qft
theorem zone_b (c : UInt8) : QhV false c = Qft c ∧ QhV true c = (Qft c && c != 45) := by
 have H : ∀ k : Fin 256,QhV false (UInt8.ofNat k.val) = Qft (UInt8.ofNat k.val) ∧ QhV true (UInt8.ofNat k.val) = (Qft (UInt8.ofNat k.val) && UInt8.ofNat k.val != 45) := by decide +kernel
 have := H ⟨c.toNat,c.toNat_lt⟩;simp only [UInt8.ofNat_toNat] at this;exact this
theorem Qkc : ∀ r : Bs,allM false r = r.all Qft
 | [] => rfl
 | c :: r => by rw [allM,Qkc r,(zone_b c).1]; rfl
theorem QmB (p : Bs) : allM true p = Qhq p := by
 cases p with
 | nil => rfl
 | cons c r =>
  rw [allM,Qkc,(zone_b c).2,Qhq];rw [Bool.eq_iff_iff];simp;constructor
  ·rintro ⟨⟨h1,h2⟩,h3⟩; exact ⟨h2,h1,h3⟩
  ·rintro ⟨h2,h1,h3⟩; exact ⟨⟨h1,h2⟩,h3⟩
/-- what the program's Zone says -/
theorem QnY (l : Bs) (h : l.length ≤ 30) : QbR l = (split l [47]).all Qhq := by
 obtain ⟨p,ps,hp⟩ := Qe6 l;have hz : QfI true l = (split l [47]).all Qhq := by
  rw [Qf9 l true p ps hp,hp,List.all_cons,QmB,show allM true = Qhq from funext QmB]
 unfold QbR;rw [hz];cases l with
 | nil => rw [QfN]; rfl
 | cons c r =>
  have hl : decide (1 ≤ (c :: r).length) = true := by simp
  rw [hl,decide_eq_true h];rfl
end Go.Kwd
