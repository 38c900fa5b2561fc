import Derived.Test.YtodcnbejnchmhaaGreatDoorYc04
import Derived.Lib.SplitLaws
namespace Go.Kwd
open Go.Lib

theorem Qff : split [] [47] = [[]] := by
 rw [split,count_miss (by simp [index])];rfl
theorem Qio (l : Bs) : split (47 :: l) [47] = [] :: split l [47] := by
 have hix : index (47 :: l) [47] = ((0 : Nat) : Int) := by rw [index]; simp [List.isPrefixOf]
 rw [split,count_cons_eq,Nat.add_comm,splitK,hix];simp [split]
theorem QcK (c : UInt8) (l : Bs) (h : c ≠ 47) : ∃ p ps,split l [47] = p :: ps ∧ split (c :: l) [47] = (c :: p) :: ps := by
 have hp : ([47] : List UInt8).isPrefixOf (c :: l) = false := by simp [List.isPrefixOf,Ne.symm h]
 have hix : index (c :: l) [47] = if index l [47] == -1 then -1 else index l [47] + 1 := by rw [index,hp]; simp
 unfold split;rw [count_cons_ne c 47 l h];by_cases hm : index l [47] = -1
 ·rw [count_miss hm];exact ⟨l,[],rfl,rfl⟩
 ·have hge := index_ge l [47];obtain ⟨j,hj⟩ : ∃ j : Nat,index l [47] = j := ⟨(index l [47]).toNat,by omega⟩;have hix' : index (c :: l) [47] = ((j + 1 : Nat) : Int) := by rw [hix,if_neg (fun e => hm (beq_iff_eq.1 e)),hj]; omega
  rw [count_hit (by simp) hj,Nat.add_comm,splitK,splitK,if_neg (fun e => hm (beq_iff_eq.1 e)),if_neg (by rw [hix']; intro e; have := beq_iff_eq.1 e; omega),hj,hix'];exact ⟨_,_,rfl,by simp⟩
theorem Qeu : ∀ l : Bs,∃ p ps,split l [47] = p :: ps
 | [] => ⟨[],[],Qff⟩
 | c :: l => by
  by_cases h : c = 47
  ·subst h;exact ⟨_,_,Qio l⟩
  ·obtain ⟨p,ps,_,h2⟩ := QcK c l h;exact ⟨_,_,h2⟩
/-- may a part of a zone's name be so? -/
def allM : Bool → Bs → Bool
 | b,[] => !b
 | b,c :: r => Qhz b c && allM false r
theorem QfE : ∀ (l : Bs) (b : Bool) (p : Bs) (ps : List Bs),split l [47] = p :: ps → Qfa b l = (allM b p && ps.all (allM true))
 | [],b,p,ps,h => by
  rw [Qff] at h;obtain ⟨rfl,rfl⟩ := List.cons.inj h;simp [Qfa,allM]
 | c :: l,b,p,ps,h => by
  by_cases hc : c = 47
  ·subst hc;rw [Qio] at h;obtain ⟨rfl,rfl⟩ := List.cons.inj h;obtain ⟨q,qs,hq⟩ := Qeu l;rw [hq,Qfa,if_pos rfl,QfE l true q qs hq];rfl
  ·obtain ⟨q,qs,h1,h2⟩ := QcK c l hc;rw [h2] at h;obtain ⟨rfl,rfl⟩ := List.cons.inj h;rw [Qfa,if_neg hc,QfE l false q qs h1,allM,Bool.and_assoc]
/-- one byte of a part,wherever it stands -/
def QeZ (c : UInt8) : Bool := QcT c || c == 43
def Qg3 (p : Bs) : Bool := !p.isEmpty && p.head? != some 45 && p.all QeZ
theorem zone_b (c : UInt8) : Qhz false c = QeZ c ∧ Qhz true c = (QeZ c && c != 45) := by
 have H : ∀ k : Fin 256,Qhz false (UInt8.ofNat k.val) = QeZ (UInt8.ofNat k.val) ∧ Qhz true (UInt8.ofNat k.val) = (QeZ (UInt8.ofNat k.val) && UInt8.ofNat k.val != 45) := by decide +kernel
 have := H ⟨c.toNat,c.toNat_lt⟩;simp only [UInt8.ofNat_toNat] at this;exact this
theorem Qj5 : ∀ r : Bs,allM false r = r.all QeZ
 | [] => rfl
 | c :: r => by rw [allM,Qj5 r,(zone_b c).1]; rfl
theorem QmK (p : Bs) : allM true p = Qg3 p := by
 cases p with
 | nil => rfl
 | cons c r =>
  rw [allM,Qj5,(zone_b c).2,Qg3];rw [Bool.eq_iff_iff];simp;constructor
  ·rintro ⟨⟨h1,h2⟩,h3⟩; exact ⟨h2,h1,h3⟩
  ·rintro ⟨h2,h1,h3⟩; exact ⟨⟨h1,h2⟩,h3⟩
/-- what the program's Zone says -/
theorem Qof (l : Bs) (h : l.length ≤ 30) : Qcd l = (split l [47]).all Qg3 := by
 obtain ⟨p,ps,hp⟩ := Qeu l;have hz : Qfa true l = (split l [47]).all Qg3 := by
  rw [QfE l true p ps hp,hp,List.all_cons,QmK,show allM true = Qg3 from funext QmK]
 unfold Qcd;rw [hz];cases l with
 | nil => rw [Qff]; rfl
 | cons c r =>
  have hl : decide (1 ≤ (c :: r).length) = true := by simp
  rw [hl,decide_eq_true h];rfl
end Go.Kwd
