import Derived.Test.YtodcnbejnchmhaaGreatDoorYc23
import Derived.Deep.DeepCutAuto
import Derived.Test.YtodcnbejnchmhaaGreatDoorYc26
import Derived.Test.YtodcnbejnchmhaaGreatDoorYc29
import Derived.Test.YtodcnbejnchmhaaGreatDoorYc35
import Derived.Test.YtodcnbejnchmhaaGreatDoorYc30
import Derived.Test.YtodcnbejnchmhaaGreatDoorYc27
import Derived.Test.YtodcnbejnchmhaaGreatDoorYc28
import Derived.Test.YtodcnbejnchmhaaGreatDoorYc43
import Derived.Test.YtodcnbejnchmhaaGreatDoorYc09
set_option maxRecDepth 100000
set_option maxHeartbeats 3200000
namespace Go.Proofs.YtodcnbejnchmhaaGreatDoor.S8
open Go.RowKit Go.Mem Go.Esc Go.Sort

theorem neg_tmod (m : Nat) : (-(m : Int)).tmod 10 = -((m % 10 : Nat) : Int) := by
 rw [Int.neg_tmod,Int.tmod_eq_emod_of_nonneg (by omega)];omega
theorem neg_tdiv (m : Nat) : (-(m : Int)).tdiv 10 = -((m / 10 : Nat) : Int) := by
 rw [Int.neg_tdiv,Int.tdiv_eq_ediv_of_nonneg (by omega)];omega
theorem Qe7 (s : ByteArray) (a k : Nat) : s.extract a (a + k) = ⟨((s.data.toList.drop a).take k).toArray⟩ := by
 apply ByteArray.ext;apply Array.toList_inj.1;simp [List.extract]
theorem Qix {s : ByteArray} {a : Nat} {l : Bs} (h : s.data.toList.drop a = l) : s.extract a s.size = ⟨l.toArray⟩ := by
 have hl : s.data.toList.length = s.size := Qag s;apply ByteArray.ext;apply Array.toList_inj.1;simp [← h,List.extract];rw [List.take_of_length_le (by rw [List.length_drop,hl]; omega)]
theorem QmG {s : ByteArray} {k : Nat} (h : k < s.size) : s.data.toList.take (k + 1) = s.data.toList.take k ++ [s[k]] := by
 rw [List.take_succ_eq_append_getElem (by simpa using h)]; rfl
theorem QiL {s : ByteArray} {c : UInt8} {r : Bs} (h : s.data.toList = c :: r) : ∃ hs : 0 < s.size,s[0] = c := by
 obtain ⟨hs,hc,-⟩ := QaS (s := s) (a := 0) (by rw [List.drop_zero,h]);exact ⟨hs,hc⟩

/-- the value of the first k digits -/
theorem QcU (s : ByteArray) (w : World) (hz : s.size ≤ 999980) :
  Calls Tryz.prog 112 #[.string s] w fun e w' => e = .returned (.tuple #[.int .i64 (Qa3 s.data.toList).1,.int .i64 (Qa3 s.data.toList).2]) ∧ w = w' := by
 exact S6.QcU s w hz
end Go.Proofs.YtodcnbejnchmhaaGreatDoor.S8
namespace Go.Proofs.YtodcnbejnchmhaaGreatDoor.S8
open _root_.Go.Proofs.Tryz
open Go.RowKit Go.Mem Go.Kwd Go.Esc

theorem QcY (l : Kwd.Bs) (w : World) (hl : l.length ≤ 999980) (p q : Int) (h : Qa3 l = (p,q)) : Calls Tryz.prog 112 #[strV l] w fun e w' => e = .returned (.tuple #[.int .i64 p,.int .i64 q]) ∧ w = w' := by
 have := QcU ⟨l.toArray⟩ w (by rw [Qal]; exact hl);rw [show (⟨l.toArray⟩ : ByteArray).data.toList = l from rfl,h] at this;exact this
theorem Qjw (l : Kwd.Bs) (w : World) (hl : l.length ≤ 999980) (y : Int × Int) (hy : QcJ (Qa3 l) = y) :
  Calls Tryz.prog 76 #[strV l] w fun e w' => e = .returned (.tuple #[.int .i64 y.1,.int .i64 y.2]) ∧ w = w' := by
 obtain ⟨p,q,hp⟩ : ∃ p q,Qa3 l = (p,q) := ⟨_,_,rfl⟩;have HP := Xi (QcY l w hl p q hp);rw [hp] at hy;clear hp;by_cases hq : q = 0
 ·subst hq;by_cases h1 : 1 ≤ p
  ·by_cases h2 : p ≤ 9999
   ·have hy : y = (p,0) := by rw [← hy,QcJ,if_pos ⟨rfl,h1,h2⟩]
    subst hy;go_enter func76,ntmps76;go_wp2_with fail;refine HP.out.mono ?_;rintro e w2 ⟨rfl,rfl⟩;go_wp2_with fail
    go_ret2
    exact ⟨rfl,rfl⟩
   ·have hy : y = (0,8) := by rw [← hy,QcJ,if_neg (fun h => h2 h.2.2)]
    subst hy;go_enter func76,ntmps76;go_wp2_with fail;refine HP.out.mono ?_;rintro e w2 ⟨rfl,rfl⟩;go_wp2_with fail
    go_ret2
    exact ⟨rfl,rfl⟩
  ·have hy : y = (0,8) := by rw [← hy,QcJ,if_neg (fun h => h1 h.2.1)]
   subst hy;go_enter func76,ntmps76;go_wp2_with fail;refine HP.out.mono ?_;rintro e w2 ⟨rfl,rfl⟩;go_wp2_with fail
   go_ret2
   exact ⟨rfl,rfl⟩
 ·have hy : y = (0,8) := by rw [← hy,QcJ,if_neg (fun h => hq h.1)]
  subst hy;have hq' : (q != 0) = true := by simpa using hq
  clear hq;go_enter func76,ntmps76;go_wp2_with fail;refine HP.out.mono ?_;rintro e w2 ⟨rfl,rfl⟩;go_wp2_with fail
  go_ret2
  exact ⟨rfl,rfl⟩
theorem rTo_any (l : Kwd.Bs) (fr : Int) (w : World) (hl : l.length ≤ 999980) (y : Int × Int) (hy : Qld (endD l) (QcJ (Qa3 l)) fr = y) :
  Calls Tryz.prog 77 #[strV l,.int .i64 fr] w fun e w' => e = .returned (.tuple #[.int .i64 y.1,.int .i64 y.2]) ∧ Fr w w' (fun _ => False) := by
 obtain ⟨z,hz⟩ : ∃ z,endD l = z := ⟨_,rfl⟩;have HF := Xi (QgW l _ 3 3 ends _ (Qc7 w 9 (0,0) (ends.map strV)) (by omega) (by omega) (by decide) z hz);have hz3 := end_le l;rw [hz] at hy hz3;obtain ⟨p,q,hp⟩ : ∃ p q,QcJ (Qa3 l) = (p,q) := ⟨_,_,rfl⟩;have HR := Xi (fun (W : World) => (show Calls Tryz.prog 76 #[strV l] W fun e w' => e = .returned (.tuple #[.int .i64 p,.int .i64 q]) ∧ W = w' from Qjw l W hl (p,q) hp));rw [hp] at hy;clear hz hp;have hcase : z = 1 ∨ z = 2 ∨ z = 0 ∨ z = 3 := by omega
 clear hz3;rcases hcase with rfl | rfl | hcase
 ·have hy : y = (fr,0) := by rw [← hy]; rfl
  subst hy;go_enter func77,ntmps77;go_wp2_with fail;refine HF.out.mono ?_;rintro e w2 ⟨rfl,hf⟩;have HF2 := Xi (Qci _ hf);clear hf;go_wp2_with fail
  go_ret2
  exact ⟨rfl,HF2.out⟩
 ·have hy : y = (10000,0) := by rw [← hy]; rfl
  subst hy;go_enter func77,ntmps77;go_wp2_with fail;refine HF.out.mono ?_;rintro e w2 ⟨rfl,hf⟩;have HF2 := Xi (Qci _ hf);clear hf;go_wp2_with fail
  go_ret2
  exact ⟨rfl,HF2.out⟩
 ·have hy : (if q = 0 ∧ fr ≤ p then (p,q) else (0,8)) = y := by rcases hcase with rfl | rfl <;> exact hy
  have z1 : ((z : Int) == 1) = false := beq_eq_false_iff_ne.2 (by omega);have z2 : ((z : Int) == 2) = false := beq_eq_false_iff_ne.2 (by omega);clear hcase;by_cases hq : q = 0
  ·subst hq;by_cases hfp : fr ≤ p
   ·rw [if_pos ⟨rfl,hfp⟩] at hy;subst hy;go_enter func77,ntmps77;go_wp2_with fail;refine HF.out.mono ?_;rintro e w2 ⟨rfl,hf⟩;have HF2 := Xi (Qci _ hf);clear hf;go_wp2_with fail;refine (HR.out _).mono ?_;rintro e w3 ⟨rfl,rfl⟩;go_wp2_with fail
    go_ret2
    exact ⟨rfl,HF2.out⟩
   ·rw [if_neg (fun h => hfp h.2)] at hy;subst hy;go_enter func77,ntmps77;go_wp2_with fail;refine HF.out.mono ?_;rintro e w2 ⟨rfl,hf⟩;have HF2 := Xi (Qci _ hf);clear hf;go_wp2_with fail;refine (HR.out _).mono ?_;rintro e w3 ⟨rfl,rfl⟩;go_wp2_with fail
    go_ret2
    exact ⟨rfl,HF2.out⟩
  ·rw [if_neg (fun h => hq h.1)] at hy;subst hy;have hq' : (q != 0) = true := by simpa using hq
   clear hq;go_enter func77,ntmps77;go_wp2_with fail;refine HF.out.mono ?_;rintro e w2 ⟨rfl,hf⟩;have HF2 := Xi (Qci _ hf);clear hf;go_wp2_with fail;refine (HR.out _).mono ?_;rintro e w3 ⟨rfl,rfl⟩;go_wp2_with fail
   go_ret2
   exact ⟨rfl,HF2.out⟩
end Go.Proofs.YtodcnbejnchmhaaGreatDoor.S8
namespace Go.Proofs.YtodcnbejnchmhaaGreatDoor
open Go.RowKit Go.Mem Go.Lin

/- the reference's packages,in line's own words -/
theorem QbI (l : Bs) (hl : l.length ≤ 900) (W : World) (n k : Int) (h : amtV l = (n,k)) : Calls Tryz.prog 71 #[strV l] W fun e w' => e = .returned (.tuple #[intV n,intV k]) ∧ Fr W w' (fun _ => False) := by
 refine (S5.QkN l W hl).mono ?_;rintro e w' ⟨hf,he⟩;unfold amtV at h;cases hx : Go.Clk.amtD l with
 | none =>
  rw [hx] at he h;obtain ⟨rfl,rfl⟩ := Prod.mk.inj h;exact ⟨he,hf⟩
 | some v =>
  rw [hx] at he h;obtain ⟨rfl,rfl⟩ := Prod.mk.inj h;exact ⟨he,hf⟩
theorem Qbu (l : Bs) (hl : l.length ≤ 900) (W : World) (t : AtL) (k : Int) (h : Qi9 l = (t,k)) : Calls Tryz.prog 81 #[strV l] W fun e w' => e = .returned (.tuple #[.agg (atC t),intV k]) ∧ Fr W w' (fun _ => False) := by
 refine (S5.QcY l W hl).mono ?_;rintro e w' ⟨hf,he⟩;unfold Qi9 Qga at h;cases hx : Go.Clk.QbG l with
 | none =>
  rw [hx] at he h;obtain ⟨rfl,rfl⟩ := Prod.mk.inj h;exact ⟨he,hf⟩
 | some v =>
  rw [hx] at he h;obtain ⟨rfl,rfl⟩ := Prod.mk.inj h;exact ⟨he,hf⟩
theorem Qex (l : Bs) (hl : l.length ≤ 900) (W : World) (d : DayL) (k : Int) (h : dayW l = (d,k)) : Calls Tryz.prog 79 #[strV l] W fun e w' => e = .returned (.tuple #[.agg (dayC d),intV k]) ∧ Fr W w' (fun _ => False) := by
 have hs : (⟨l.toArray⟩ : ByteArray).size ≤ 999980 := by rw [Qal]; omega
 unfold dayW dayP at h;rcases Go.Dfm.Qc8 l with ⟨a,b,c,-,-,hp⟩ | ⟨-,hp⟩
 ·rw [hp] at h;obtain ⟨rfl,rfl⟩ := Prod.mk.inj h;exact S6.QcY ⟨l.toArray⟩ hs W _ _ _ _ (by rw [Go.Dfm.Qfk]; exact hp)
 ·rw [hp] at h;obtain ⟨rfl,rfl⟩ := Prod.mk.inj h;exact S6.QcY ⟨l.toArray⟩ hs W _ _ _ _ (by rw [Go.Dfm.Qfk]; exact hp)
theorem QkF (d : DayL) (hd : Qlu d) (y m : Int) (W : World) : Calls Tryz.prog 80 #[.agg (dayC d),intV y,intV m] W (S6.OfX (if canB d y m = true then 0 else 6) W) :=
 S6.rOf_any d.k d.d d.w y m (Go.Dfm.QaO.2 hd) W
theorem Qdu (l : Bs) (hl : l.length ≤ 900) (W : World) (y k : Int) (h : Qlm l = (y,k)) : Calls Tryz.prog 76 #[strV l] W fun e w' => e = .returned (.tuple #[intV y,intV k]) ∧ Fr W w' (fun _ => False) := by
 refine (S8.Qjw l W (by omega) (y,k) ?_).mono ?_
 ·rw [← h];unfold Qlm Qe4;rcases Go.Kwd.Qi3 (Go.Esc.Qa3 l) with hk | hk
  ·rw [if_pos hk,← hk]
  ·rw [hk,if_neg (by decide)]
 ·rintro e w' ⟨rfl,rfl⟩;exact ⟨rfl,Fr.refl _ _⟩
theorem QoO (l : Bs) (fr : Int) (hl : l.length ≤ 900) (W : World) (y k : Int) (h : toV l fr = (y,k)) : Calls Tryz.prog 77 #[strV l,intV fr] W fun e w' => e = .returned (.tuple #[intV y,intV k]) ∧ Fr W w' (fun _ => False) := by
 refine S8.rTo_any l fr W (by omega) (y,k) ?_;rw [← h];unfold toV toP;show toD l fr = _;rcases Go.Kwd.QjM (Go.Kwd.endD l) (Go.Esc.Qa3 l) fr with hk | hk
 ·have hk : (toD l fr).2 = 0 := hk;rw [if_pos hk,← hk]
 ·have hk : toD l fr = (0,8) := hk;rw [hk,if_neg (by decide)]
theorem QcX (l : Bs) (hl : l.length ≤ 900) (W : World) (n : Nat) (h : Go.Kwd.Qcw l = n) : Calls Tryz.prog 78 #[strV l] W fun e w' => e = .returned (intV (n : Int)) ∧ Fr W w' (fun _ => False) := S8.Qnv l W (by omega) n h
theorem Qfl (l : Bs) (hl : l.length ≤ 900) (W : World) (n : Nat) (h : Go.Kwd.headD l = n) : Calls Tryz.prog 47 #[strV l] W fun e w' => e = .returned (intV (n : Int)) ∧ Fr W w' (fun _ => False) := S8.Qpg l W (by omega) n h
theorem Qc0 (l : Bs) (hl : l.length ≤ 900) (W : World) (b : Bool) (h : Go.Kwd.Qcd l = b) : Calls Tryz.prog 49 #[strV l] W fun e w' => e = .returned (.bool b) ∧ w' = W := by
 refine (S8.Qpc l W (by omega) b h).mono ?_;rintro e w' ⟨rfl,rfl⟩;exact ⟨rfl,rfl⟩
theorem Qfj (l : Bs) (hl : l.length ≤ 900) (W : World) (b : Bool) (h : Go.Kwd.Qc4 l = b) : Calls Tryz.prog 72 #[strV l] W fun e w' => e = .returned (.bool b) ∧ w' = W := by
 refine (S8.Qpf l W (by omega) b h).mono ?_;rintro e w' ⟨rfl,rfl⟩;exact ⟨rfl,rfl⟩
end Go.Proofs.YtodcnbejnchmhaaGreatDoor
namespace Go.Proofs.YtodcnbejnchmhaaGreatDoor
open _root_.Go.Proofs.Tryz
open Go.RowKit Go.Mem Go.Lin

def Qf5 (c : UInt8) : Bool := Go.Kwd.Qba c || Go.Kwd.Qbc c
theorem QjK (c : UInt8) : letB c = (Qf5 c || (c.toNat : Int) == 43) := by
 have h43 : (c == 43) = ((c.toNat : Int) == 43) := S8.QbC c 43;unfold letB Qf5;rw [h43]
theorem QhV (c : UInt8) (w : World) : Calls Tryz.prog 110 #[.int .u8 (c.toNat : Int)] w fun e w' => e = .returned (.bool (Qf5 c)) ∧ w' = w := by
 have HX := Xi (show Qf5 c = ((decide ((97 : Int) ≤ (c.toNat : Int)) && decide ((c.toNat : Int) ≤ 122)) || (decide ((65 : Int) ≤ (c.toNat : Int)) && decide ((c.toNat : Int) ≤ 90)) || (decide ((48 : Int) ≤ (c.toNat : Int)) && decide ((c.toNat : Int) ≤ 57))) by
  unfold Qf5 Go.Kwd.Qba Go.Kwd.Qbc;congr 2
  ·congr 1 <;> simp <;> omega
  ·congr 1 <;> simp <;> omega
  ·simp <;> omega
  ·simp <;> omega)
 obtain ⟨x,hx⟩ : ∃ x,Qf5 c = x := ⟨_,rfl⟩;rw [hx] at HX ⊢;generalize (c.toNat : Int) = n at *;clear hx;have hc : (97 ≤ n ∧ n ≤ 122) ∨ (65 ≤ n ∧ n ≤ 90) ∨ (48 ≤ n ∧ n ≤ 57) ∨ 122 < n ∨ (90 < n ∧ n < 97) ∨ (57 < n ∧ n < 65) ∨ n < 48 := by omega
 rcases hc with ⟨h1,h2⟩ | ⟨h1,h2⟩ | ⟨h1,h2⟩ | h1 | ⟨h1,h2⟩ | ⟨h1,h2⟩ | h1
 all_goals
  go_enter func110,ntmps110;go_wp2_with fail
  all_goals
   go_ret;refine ⟨congrArg (fun b => Ending.returned (Value.bool b)) (show (_ : Bool) = x from ?_),rfl⟩;rw [HX.out,Bool.eq_iff_iff];simp only [Bool.or_eq_true,Bool.and_eq_true,decide_eq_true_eq,true_iff,false_iff,Bool.false_eq_true];omega
/-- what the reference's letter answers -/
def Qhf (l : Bs) : Bs × Int := match QcE l with
 | some v => (v,0)
 | none => ([],15)
theorem QiI (l : Bs) : (∃ y,Qhf l = (y,0) ∧ QcE l = some y) ∨ (Qhf l = ([],15) ∧ QcE l = none) := by
 unfold Qhf;cases h : QcE l with
 | none => exact .inr ⟨rfl,rfl⟩
 | some y => exact .inl ⟨y,rfl,rfl⟩
theorem Qqq (s : ByteArray) (p : UInt8 → Bool) : s.data.toList.all p = true ↔ ∀ j (h : j < s.size),p s[j] = true := by
 rw [List.all_eq_true];constructor
 ·intro h j hj;exact h _ (List.getElem_mem (show j < s.data.toList.length by rw [S8.Qag]; exact hj))
 ·intro h x hx;obtain ⟨j,hj,rfl⟩ := List.getElem_of_mem hx;exact h j (by rw [S8.Qag] at hj; exact hj)
theorem Qf2 (l : Bs) (w : World) (hl : l.length ≤ 900) (v : Bs) (k : Int) (h : Qhf l = (v,k)) : Calls Tryz.prog 82 #[strV l] w fun e w' => e = .returned (.tuple #[strV v,intV k]) ∧ Fr w w' (fun _ => False) := by
 have hsz := Qal l;by_cases h45 : l = [45]
 ·subst h45;obtain ⟨rfl,rfl⟩ := Prod.mk.inj h;clear h hsz;go_enter func82,ntmps82;go_wp2_with fail
  go_ret2
  exact ⟨rfl,Fr.refl _ _⟩
 ·have e45 : (l == [45]) = false := by simpa using h45
  unfold Qhf QcE at h;rw [if_neg h45] at h;by_cases hn : 1 ≤ l.length ∧ l.length ≤ 6
  ·obtain ⟨n1,n2⟩ := hn;have h : (if l.all letB = true then (l,(0 : Int)) else ([],15)) = (v,k) := by
    rw [← h];by_cases ha : l.all letB = true
    ·rw [if_pos ha,if_pos ⟨n1,n2,ha⟩]
    ·rw [if_neg ha,if_neg (fun x => ha x.2.2)]
   obtain ⟨s,hs⟩ : ∃ s : ByteArray,s = ⟨l.toArray⟩ := ⟨_,rfl⟩;rw [← hs] at hsz;have hsl : s.data.toList = l := by rw [hs]
   have e45 : (s.toList == [45]) = false := by rw [show s.toList = l by rw [hs]; simp]; exact e45
   rw [show strV l = .string s by rw [hs]];have HL := Xi (show Value.string s = strV l by rw [hs]);have HX := Xi (Qqq s letB);rw [hsl] at HX;have HR := Xi h;have i1 : (1 : Int) ≤ (s.size : Int) := by omega
   have i6 : (s.size : Int) ≤ 6 := by omega
   clear h hs hsl h45 hl hsz n1 n2;go_enter func82,ntmps82;go_wp2_with fail
   go_loopg [4] s.size (fun g v4 wr => ∃ k : Nat,k + g = s.size ∧ v4 = .int .i64 (k : Int) ∧ (∀ j (h : j < s.size),j < k → letB s[j] = true) ∧ w = wr)
   case atStart => exact ⟨0,by omega,rfl,fun j h hj => by omega,rfl⟩
   case round =>
    obtain ⟨i,hi,rfl,hall,rfl⟩ := hrel;have HA := Xi hall;clear hall;by_cases hlt : i < s.size
    ·have i0 : (0 : Int) ≤ (i : Int) := by omega
     have i2 : (i : Int) < (s.size : Int) := by omega
     have HP := Xi (QhV s[i] w);have HQ := Xi (QjK s[i]);obtain ⟨p,hp⟩ : ∃ p,Qf5 s[i] = p := ⟨_,rfl⟩;obtain ⟨q,hq⟩ : ∃ q,((s[i].toNat : Int) == 43) = q := ⟨_,rfl⟩;rw [hp] at HP HQ;rw [hq] at HQ;have hq2 : ((s[i].toNat : Int) != 43) = !q := by unfold bne; rw [hq]
     clear hp hq;have hcs : (letB s[i] = true ∧ (p = true ∨ (p = false ∧ q = true))) ∨ (letB s[i] = false ∧ p = false ∧ q = false) := by
      rw [HQ.out];cases p <;> cases q <;> simp
     rcases hcs with ⟨hy,hcs⟩ | ⟨hy,rfl,rfl⟩
     ·have HY := Xi hy;clear hy;rcases hcs with rfl | ⟨rfl,rfl⟩
      all_goals
       try simp only [Bool.not_true] at hq2
       go_wp2_with (go_at_call 110; refine HP.out.mono ?_; rintro e w2 ⟨rfl,rfl⟩)
       go_roundg (s.size - (i + 1))
       case measure => omega
       case rel => exact ⟨i + 1,by omega,by go_num,fun j h hj => (by
        by_cases e : j = i
        ·subst e; exact HY.out
        ·exact HA.out j h (by omega)),rfl⟩
     ·have hno : l.all letB ≠ true := fun e => by
       have := HX.out.1 e i hlt;rw [hy] at this;cases this
      have hR := HR.out;rw [if_neg hno] at hR;obtain ⟨rfl,rfl⟩ := Prod.mk.inj hR;clear hR hno hy;simp only [Bool.not_false] at hq2;go_wp2_with (go_at_call 110; refine HP.out.mono ?_; rintro e w2 ⟨rfl,rfl⟩)
      go_ret2
      exact ⟨rfl,Fr.refl _ _⟩
    ·have hk : i = s.size := by omega
     subst hk;have hyes : l.all letB = true := HX.out.2 (fun j h => HA.out j h h);have hR := HR.out;rw [if_pos hyes] at hR;obtain ⟨rfl,rfl⟩ := Prod.mk.inj hR;clear hR hyes;go_wp2_with fail
     go_ret2
     refine ⟨?_,Fr.refl _ _⟩;show Ending.returned (.tuple #[Value.string s,intV 0]) = _;rw [HL.out]
  ·rw [if_neg (fun x => hn ⟨x.1,x.2.1⟩)] at h;obtain ⟨rfl,rfl⟩ := Prod.mk.inj h;have hc : (l.length : Int) < 1 ∨ ((1 : Int) ≤ (l.length : Int) ∧ (6 : Int) < (l.length : Int)) := by omega
   clear h hn;rcases hc with hc | ⟨hc1,hc2⟩
   all_goals
    go_enter func82,ntmps82;go_wp2_with fail
    go_ret2
    exact ⟨rfl,Fr.refl _ _⟩
theorem QkZ (o : Option Nat) (m : Nat) : (o.map (· + 1)).map (· + m) = o.map (· + (m + 1)) := by
 cases o with
 | none => rfl
 | some k => simp; omega
theorem fmt_x (l : Bs) (h1 : 1 ≤ l.length) (h2 : l.length ≤ 20) : Qck l = (match rfmt l with
  | some k => decide (k ≤ 1)
  | none => false) := by
 unfold Qck;rw [decide_eq_true h1,decide_eq_true h2,QjS];rfl
/-- while the reference's format looks at a text: i bytes are gone by,m marks are counted -/
def FmI (s : ByteArray) (l : Bs) (w : World) (g : Nat) (v3 v4 : Value) (wr : World) : Prop := ∃ i m : Nat,i + g = s.size ∧ v4 = .int .i64 (i : Int) ∧ v3 = .int .i64 (m : Int) ∧ m ≤ i ∧ rfmt l = (rfmt (l.drop i)).map (· + m) ∧ w = wr
theorem Qbn (l : Bs) (w : World) (hl : l.length ≤ 900) (x : Bool) (hx : Qck l = x) : Calls Tryz.prog 73 #[strV l] w fun e w' => e = .returned (.bool x) ∧ w' = w := by
 have hsz := Qal l;by_cases hn : 1 ≤ l.length ∧ l.length ≤ 20
 ·obtain ⟨n1,n2⟩ := hn;rw [fmt_x l n1 n2] at hx;obtain ⟨s,hs⟩ : ∃ s : ByteArray,s = ⟨l.toArray⟩ := ⟨_,rfl⟩;rw [← hs] at hsz;have hsl : s.data.toList = l := by rw [hs]
  rw [show strV l = .string s by rw [hs]];have HS := Xi (show ∀ i (h : i < s.size),l.drop i = s[i] :: l.drop (i + 1) from fun i h => by
   rw [List.drop_eq_getElem_cons (by omega)];congr 1;subst hsl;rfl)
  have HL := Xi (show l.length = s.size by omega);have HX := Xi hx;have i1 : (1 : Int) ≤ (s.size : Int) := by omega
  have i20 : (s.size : Int) ≤ 20 := by omega
  clear hx hs hsl hl hsz n1 n2;go_enter func73,ntmps73;go_wp2_with fail
  go_loopg [3,4,5,23,47,52] s.size (fun g v3 v4 _ _ _ _ wr => FmI s l w g v3 v4 wr)
  case atStart => exact ⟨0,0,by omega,rfl,rfl,Nat.le_refl _,by cases h : rfmt l <;> simp [h],rfl⟩
  case round =>
   obtain ⟨i,m,hi,rfl,rfl,hmi,hF,rfl⟩ := hrel;by_cases hlt : i < s.size
   ·have i0 : (0 : Int) ≤ (i : Int) := by omega
    have i2 : (i : Int) < (s.size : Int) := by omega
    have m60 : (m : Int) ≤ 60 := by omega
    have hd := HS.out i hlt;rw [hd] at hF;clear hd;by_cases h37 : s[i] = 37
    ·have e37 : ((s[i].toNat : Int) == 37) = true := by rw [h37]; rfl
     rw [rfmt,if_pos h37] at hF;by_cases hj : i + 1 < s.size
     ·have j0 : (0 : Int) ≤ (i : Int) + 1 := by omega
      have j2 : (i : Int) + 1 < (s.size : Int) := by omega
      have hd2 := HS.out (i + 1) (by omega);rw [hd2] at hF;have hF : rfmt l = ((if s[i + 1] = 115 ∨ s[i + 1] = 122 then (rfmt (l.drop (i + 1))).map (· + 1) else none)).map (· + m) := by rw [hd2]; exact hF
      have q1 : ((s[i + 1].toNat : Int) == 115) = (s[i + 1] == 115) := (S8.QbC s[i + 1] 115).symm;have q2 : ((s[i + 1].toNat : Int) == 122) = (s[i + 1] == 122) := (S8.QbC s[i + 1] 122).symm;by_cases h115 : s[i + 1] = 115
      ·have f1 : ((s[i + 1].toNat : Int) != 115) = false := by unfold bne; rw [q1,h115]; rfl
       rw [if_pos (.inl h115),QkZ] at hF;have HF := Xi hF;clear hF hd2 q1 q2 h115 h37;go_wp2_with fail
       go_roundg (s.size - (i + 1))
       case measure => omega
       case rel => exact ⟨i + 1,m + 1,by omega,by go_num,by go_num,by omega,HF.out,rfl⟩
      ·have f1 : ((s[i + 1].toNat : Int) != 115) = true := by unfold bne; rw [q1]; simpa using h115
       by_cases h122 : s[i + 1] = 122
       ·have f2 : ((s[i + 1].toNat : Int) != 122) = false := by unfold bne; rw [q2,h122]; rfl
        rw [if_pos (.inr h122),QkZ] at hF;have HF := Xi hF;clear hF hd2 q1 q2 h115 h122 h37;go_wp2_with fail
        go_roundg (s.size - (i + 1))
        case measure => omega
        case rel => exact ⟨i + 1,m + 1,by omega,by go_num,by go_num,by omega,HF.out,rfl⟩
       ·have f2 : ((s[i + 1].toNat : Int) != 122) = true := by unfold bne; rw [q2]; simpa using h122
        rw [if_neg (by rintro (h | h); exact h115 h; exact h122 h)] at hF;have hR := HX.out;rw [hF] at hR;have hR : false = x := hR;subst hR;clear hF hd2 q1 q2 h115 h122 h37;go_wp2_with fail;go_ret;exact ⟨rfl,rfl⟩
     ·have j3 : (s.size : Int) ≤ (i : Int) + 1 := by omega
      rw [show l.drop (i + 1) = [] from List.drop_eq_nil_of_le (by have := HL.out; omega)] at hF;have hR := HX.out;rw [hF] at hR;have hR : false = x := hR;subst hR;clear hF h37;go_wp2_with fail;go_ret;exact ⟨rfl,rfl⟩
    ·have e37 : ((s[i].toNat : Int) == 37) = false := by rw [show ((s[i].toNat : Int) == 37) = (s[i] == 37) from (S8.QbC s[i] 37).symm]; simpa using h37
     rw [rfmt,if_neg h37] at hF;by_cases h47 : s[i] = 47
     ·have e47 : ((s[i].toNat : Int) == 47) = true := by rw [h47]; rfl
      rw [if_pos h47,QkZ] at hF;have HF := Xi hF;clear hF h37 h47;go_wp2_with fail
      go_roundg (s.size - (i + 1))
      case measure => omega
      case rel => exact ⟨i + 1,m + 1,by omega,by go_num,by go_num,by omega,HF.out,rfl⟩
     ·have e47 : ((s[i].toNat : Int) == 47) = false := by rw [show ((s[i].toNat : Int) == 47) = (s[i] == 47) from (S8.QbC s[i] 47).symm]; simpa using h47
      rw [if_neg h47] at hF;have HP := Xi (QhV s[i] w);have hq := QjK s[i];obtain ⟨p,hp⟩ : ∃ p,Qf5 s[i] = p := ⟨_,rfl⟩;obtain ⟨q,hq43⟩ : ∃ q,((s[i].toNat : Int) == 43) = q := ⟨_,rfl⟩;obtain ⟨r,hr45⟩ : ∃ r,((s[i].toNat : Int) == 45) = r := ⟨_,rfl⟩;rw [hp] at HP hq;rw [hq43] at hq;have h45 : (s[i] == 45) = r := by rw [show (s[i] == 45) = ((s[i].toNat : Int) == 45) from S8.QbC s[i] 45]; exact hr45
      have g43 : ((s[i].toNat : Int) != 43) = !q := by unfold bne; rw [hq43]
      have g45 : ((s[i].toNat : Int) != 45) = !r := by unfold bne; rw [hr45]
      have hcs : ((letB s[i] = true ∨ s[i] = 45) ∧ (p = true ∨ (p = false ∧ q = true) ∨ (p = false ∧ q = false ∧ r = true))) ∨ (¬ (letB s[i] = true ∨ s[i] = 45) ∧ p = false ∧ q = false ∧ r = false) := by
       rw [hq,← beq_iff_eq (a := s[i]) (b := 45),h45];cases p <;> cases q <;> cases r <;> simp
      clear hp hq hq43 hr45 h45 h37 h47;rcases hcs with ⟨hy,hcs⟩ | ⟨hy,rfl,rfl,rfl⟩
      ·rw [if_pos hy] at hF;have HF := Xi hF;clear hF hy;rcases hcs with rfl | ⟨rfl,rfl⟩ | ⟨rfl,rfl,rfl⟩
       all_goals
        try simp only [Bool.not_true,Bool.not_false] at g43 g45
        go_wp2_with (go_at_call 110; refine HP.out.mono ?_; rintro e w2 ⟨rfl,rfl⟩)
        go_roundg (s.size - (i + 1))
        case measure => omega
        case rel => exact ⟨i + 1,m,by omega,by go_num,rfl,by omega,HF.out,rfl⟩
      ·rw [if_neg hy] at hF;have hR := HX.out;rw [hF] at hR;have hR : false = x := hR;subst hR;clear hF hy;simp only [Bool.not_false] at g43 g45;go_wp2_with (go_at_call 110; refine HP.out.mono ?_; rintro e w2 ⟨rfl,rfl⟩);go_ret;exact ⟨rfl,rfl⟩
   ·obtain rfl : i = s.size := by omega
    rw [show l.drop s.size = [] from List.drop_eq_nil_of_le (by have := HL.out; omega)] at hF;have hR := HX.out;rw [hF] at hR;have hR : decide (0 + m ≤ 1) = x := hR;rw [Nat.zero_add] at hR;by_cases hm : m ≤ 1
    ·have m1 : (m : Int) ≤ 1 := by omega
     rw [decide_eq_true hm] at hR;subst hR;clear hF;go_wp2_with fail;go_ret;exact ⟨rfl,rfl⟩
    ·have m1 : ¬ (m : Int) ≤ 1 := by omega
     rw [decide_eq_false hm] at hR;subst hR;clear hF;go_wp2_with fail;go_ret;exact ⟨rfl,rfl⟩
 ·have hf : x = false := by
   rw [← hx];unfold Qck;by_cases h1 : 1 ≤ l.length
   ·rw [decide_eq_false (show ¬ l.length ≤ 20 by omega)]; simp
   ·rw [decide_eq_false h1]; simp
  subst hf;have hc : (l.length : Int) < 1 ∨ ((1 : Int) ≤ (l.length : Int) ∧ (20 : Int) < (l.length : Int)) := by omega
  clear hx hn;rcases hc with hc | ⟨hc1,hc2⟩
  all_goals
   go_enter func73,ntmps73;go_wp2_with fail;go_ret;exact ⟨rfl,rfl⟩
end Go.Proofs.YtodcnbejnchmhaaGreatDoor
