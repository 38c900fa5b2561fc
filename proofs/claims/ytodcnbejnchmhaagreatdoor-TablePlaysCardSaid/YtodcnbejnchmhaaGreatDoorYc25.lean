import Derived.Test.YtodcnbejnchmhaaGreatDoorYc22
import Derived.Deep.LoopGhost
set_option maxHeartbeats 2000000
namespace Go.Proofs.YtodcnbejnchmhaaGreatDoor.S5
open _root_.Go.Proofs.Tryz
open Go.RowKit Go.Mem Go.Clk

theorem QlR (s : Bs) (c : UInt8) : valN (s ++ [c]) = valN s * 10 + dv c := by simp [valN]
theorem val_lt (s : Bs) (h : s.all digB = true) : valN s < 10 ^ s.length := by
 have key : ∀ (n : Nat) (s : Bs),s.length = n → s.all digB = true → valN s < 10 ^ n := by
  intro n
  induction n with
  | zero =>
   intro s hs _;rw [List.length_eq_zero_iff.1 hs];decide
  | succ n ih =>
   intro s hs h;have hne : s ≠ [] := fun e => by rw [e] at hs; cases hs
   obtain ⟨q,c,rfl⟩ : ∃ q c,s = q ++ [c] := ⟨s.dropLast,s.getLast hne,(List.dropLast_concat_getLast hne).symm⟩;rw [List.all_append,Bool.and_eq_true] at h;have h1 := ih q (by simpa using hs) h.1;have h2 := Qge (c := c) (by simpa using h.2);rw [QlR,Nat.pow_succ];omega
 exact key _ s rfl h
theorem val_999 {s : Bs} (h : s.all digB = true) (hl : s.length ≤ 3) : valN s ≤ 999 := by
 have := val_lt s h;have h2 : 10 ^ s.length ≤ 10 ^ 3 := Nat.pow_le_pow_right (by decide) hl;omega
theorem Qm1 {α : Type} {ls : List α} {k : Nat} {x : α} (h : ls[k]? = some x) : ls.take (k + 1) = ls.take k ++ [x] := by
 obtain ⟨h1,h2⟩ := List.getElem?_eq_some_iff.1 h;rw [List.take_succ_eq_append_getElem h1,h2]
theorem QcZ (s : Bs) (a b m : Nat) (_ha : a ≤ 3) (hb : b ≤ 3) (_hm : m ≤ 1000) (hs : s.length ≤ 100000) (w : World) (V : Int) (hV : numI s a b m = V) :
  Calls Tryz.prog 146 #[strV s,natV a,natV b,natV m] w fun e w' => e = .returned (.int .i64 V) ∧ w = w' := by
 have hz := Qal s;by_cases h1 : s.length < a
 ·have hf : V = -1 := by rw [← hV,numI,if_neg (by omega)]
  subst hf;have t1 : (s.length : Int) < (a : Int) := by omega
  clear hV;go_enter func146,ntmps146;go_wp2_with fail;go_ret;exact ⟨rfl,rfl⟩
 ·by_cases h2 : b < s.length
  ·have hf : V = -1 := by rw [← hV,numI,if_neg (by omega)]
   subst hf;have t1 : ¬ ((s.length : Int) < (a : Int)) := by omega
   have t2 : (b : Int) < (s.length : Int) := by omega
   clear hV h1;go_enter func146,ntmps146;go_wp2_with fail;go_ret;exact ⟨rfl,rfl⟩
  ·have t1 : ¬ ((s.length : Int) < (a : Int)) := by omega
   have t2 : ¬ ((b : Int) < (s.length : Int)) := by omega
   have hl3 : s.length ≤ 3 := by omega
   have HV := Xi (show V = if s.all digB = true ∧ valN s ≤ m then (valN s : Int) else -1 by
    rw [← hV,numI];by_cases h : s.all digB = true ∧ valN s ≤ m
    ·rw [if_pos h,if_pos ⟨by omega,by omega,h⟩]
    ·rw [if_neg h,if_neg (fun x => h x.2.2)])
   clear hV;go_enter func146,ntmps146;go_wp2_with fail
   go_loop [9,10] (fun v9 v10 => ∃ k : Nat,k ≤ s.length ∧ v10 = .int .i64 k ∧ v9 = natV (valN (s.take k)) ∧ (s.take k).all digB = true) (fun _ v10 => s.length - (intOf v10).toNat)
   case atStart => exact ⟨0,Nat.zero_le _,rfl,rfl,rfl⟩
   case round =>
    obtain ⟨k,hk,rfl,rfl,hall⟩ := hrel;have hv := val_999 hall (by rw [List.length_take]; omega);have HA := Xi hall;clear hall;by_cases hlt : k < s.length
    ·have hlt' : k < (⟨s.toArray⟩ : ByteArray).size := by rw [hz]; exact hlt
     have hget : (⟨s.toArray⟩ : ByteArray)[k]'hlt' = s[k]'hlt := rfl;have hget? : s[k]? = some (s[k]'hlt) := List.getElem?_eq_getElem hlt;obtain ⟨c,hc⟩ : ∃ c,s[k]'hlt = c := ⟨_,rfl⟩;rw [hc] at hget hget?;have HT := Xi (Qm1 hget?);by_cases hd : digB c = true
     ·have hcb := (QaP c).1 hd;have d1 : ¬ (((⟨s.toArray⟩ : ByteArray)[k]'hlt').toNat : Int) < 48 := by rw [hget]; omega
      have d2 : ¬ (57 : Int) < (((⟨s.toArray⟩ : ByteArray)[k]'hlt').toNat : Int) := by rw [hget]; omega
      have HE := Xi (show ((((⟨s.toArray⟩ : ByteArray)[k]'hlt').toNat : Int) - 48) = (dv c : Int) by rw [hget]; unfold dv; omega);have HD := Xi hd;clear hget hget? hc hcb hd HV;go_wp2_with fail
      go_round
      case rel => exact ⟨k + 1,by omega,by go_num,by
       have := HE.out;rw [HT.out,QlR];show Value.int _ _ = Value.int _ _;congr 1
       push_cast
       omega,by rw [HT.out,List.all_append,HA.out]; simpa using HD.out⟩
      case measure => simp [intOf]; omega
     ·have hf : V = -1 := by
       rw [HV.out,if_neg];rintro ⟨h,-⟩;exact hd (List.all_eq_true.1 h c (List.mem_of_getElem? hget?))
      subst hf;have hcb : ¬ (48 ≤ c.toNat ∧ c.toNat ≤ 57) := fun h => hd ((QaP c).2 h);by_cases p1 : c.toNat < 48
      ·have d1 : (((⟨s.toArray⟩ : ByteArray)[k]'hlt').toNat : Int) < 48 := by rw [hget]; omega
       clear hget hget? hc hcb hd HV p1;go_wp2_with fail;go_ret;exact ⟨rfl,rfl⟩
      ·have d1 : ¬ (((⟨s.toArray⟩ : ByteArray)[k]'hlt').toNat : Int) < 48 := by rw [hget]; omega
       have d2 : (57 : Int) < (((⟨s.toArray⟩ : ByteArray)[k]'hlt').toNat : Int) := by rw [hget]; omega
       clear hget hget? hc hcb hd HV p1;go_wp2_with fail;go_ret;exact ⟨rfl,rfl⟩
    ·have hks : s.take k = s := List.take_of_length_le (by omega);rw [hks] at HA hv;rw [hks];by_cases hle : valN s ≤ m
     ·have hf : V = (valN s : Int) := by rw [HV.out,if_pos ⟨HA.out,hle⟩]
      subst hf;have t3 : ¬ ((m : Int) < (valN s : Int)) := by omega
      clear HV hks;go_wp2_with fail;go_ret;exact ⟨rfl,rfl⟩
     ·have hf : V = -1 := by rw [HV.out,if_neg (fun h => hle h.2)]
      subst hf;have t3 : ((m : Int) < (valN s : Int)) := by omega
      clear HV hks;go_wp2_with fail;go_ret;exact ⟨rfl,rfl⟩
def cut (l : Bs) (a b : Nat) : Bs := (l.take b).drop a
theorem Qde (l : Bs) (a b : Nat) : cut l a b = (l.drop a).take (b - a) := by
 unfold cut;rw [List.drop_take]
theorem QbT (l : Bs) (a b : Nat) : (⟨l.toArray⟩ : ByteArray).extract a b = ⟨(cut l a b).toArray⟩ := by
 apply ByteArray.ext;apply Array.toList_inj.1;simp [cut,List.extract,List.drop_take]
/-- the slice v is the call's own and holds these texts -/
def Strs (w : World) (base : Nat) (v : Value) (vs : List Bs) : Prop := w.ownsRow base 9 1 v vs.length (vs.map strV)
theorem World.ownsRow.keepNew {w : World} {base : Nat} {e : TypeId} {size n : Nat} {v : Value} {xs : List Value} (h : w.ownsRow base e size v n xs) (o : Obj) : (w.alloc o).ownsRow base e size v n xs := (Fr.new w o (fun _ => False)).own h (fun _ _ h => h)
def Free (x : Bs) : Prop := ∀ c ∈ x,c ≠ 58
theorem Qnx {l : Bs} {f i : Nat} {done : List Bs} (h1 : f ≤ i) (h2 : l[i]? = some 58) (hd : QaM l = done ++ QaM (l.drop f)) (h0 : Free (cut l f i)) :
  QaM l = (done ++ [cut l f i]) ++ QaM (l.drop (i + 1)) ∧ Free (cut l (i + 1) (i + 1)) := by
 obtain ⟨h3,h4⟩ := List.getElem?_eq_some_iff.1 h2;have e : l.drop f = cut l f i ++ 58 :: l.drop (i + 1) := by
  have e1 := List.take_append_drop (i - f) (l.drop f);rw [List.drop_drop,show f + (i - f) = i by omega,← Qde,List.drop_eq_getElem_cons h3,h4] at e1;exact e1.symm
 refine ⟨?_,by simp [Qde,Free]⟩;rw [hd,e,Qfh h0];simp
theorem Qnw {l : Bs} {f i : Nat} {c : UInt8} (h1 : f ≤ i) (h2 : l[i]? = some c) (hc : c ≠ 58) (h0 : Free (cut l f i)) : Free (cut l f (i + 1)) := by
 obtain ⟨h3,h4⟩ := List.getElem?_eq_some_iff.1 h2;have e : cut l f (i + 1) = cut l f i ++ [c] := by
  rw [cut,List.take_succ_eq_append_getElem h3,h4,List.drop_append_of_le_length (by rw [List.length_take]; omega)];rfl
 rw [e];intro d hd;rcases List.mem_append.1 hd with h | h
 ·exact h0 d h
 ·simp at h;rw [h];exact hc
theorem Qny {l : Bs} {f : Nat} {done : List Bs} (hd : QaM l = done ++ QaM (l.drop f)) (h0 : Free (cut l f l.length)) : done ++ [cut l f l.length] = QaM l := by
 have e : cut l f l.length = l.drop f := by simp [cut]
 rw [e] at h0 ⊢;rw [hd,QcK h0]
def QlN (w : World) (l : Bs) (e : Ending) (w' : World) : Prop := ∃ v,e = .returned v ∧ Strs w' w.heap.size v (QaM l) ∧ Fr w w' (fun _ => False)
def PInv (w : World) (l : Bs) (v3 v4 v5 : Value) (wr : World) : Prop := ∃ (i f : Nat) (done : List Bs),i ≤ l.length + 1 ∧ f ≤ i ∧ v5 = .int .i64 (i : Int) ∧ v4 = .int .i64 (f : Int) ∧ Strs wr w.heap.size v3 done ∧
 ((i ≤ l.length ∧ QaM l = done ++ QaM (l.drop f) ∧ Free (cut l f i)) ∨ (i = l.length + 1 ∧ done = QaM l)) ∧ done.length ≤ i ∧ Fr w wr (fun _ => False)
theorem Qjz (l : Bs) (w : World) (hl : l.length ≤ 20000) : Calls Tryz.prog 145 #[strV l] w (QlN w l) := by
 have hz := Qal l;go_enter func145,ntmps145;go_wp2_with fail
 go_loopw [3,4,5] (fun v3 v4 v5 wr => PInv w l v3 v4 v5 wr) (fun _ _ v5 _ => l.length + 1 - (intOf v5).toNat)
 case atStart => exact ⟨0,0,[],Nat.zero_le _,Nat.le_refl _,rfl,rfl,World.ownsRow_nil _ _ _ _,.inl ⟨Nat.zero_le _,by simp,by simp [cut,Free]⟩,by simp,Fr.refl _ _⟩
 case round =>
  obtain ⟨i,f,done,hil,hfi,rfl,rfl,hown,hst,hdl,hf⟩ := hrel;obtain ⟨i0,hi0,hz0,hz1,hz2⟩ := info_parts QnL;have HO := Xi hown;have HF := Xi hf;have hws := hf.size;obtain ⟨A3,c3,rfl⟩ := Qcf hown;clear hown hf;have b0 : (0 : Int) ≤ (f : Int) := by omega
  have b1 : (f : Int) ≤ (i : Int) := by omega
  by_cases hle : i ≤ l.length
  ·have b2 : (i : Int) ≤ (l.length : Int) := by omega
   obtain ⟨hd,h0⟩ : QaM l = done ++ QaM (l.drop f) ∧ Free (cut l f i) := by
    rcases hst with ⟨-,h1,h2⟩ | ⟨h1,-⟩
    ·exact ⟨h1,h2⟩
    ·omega
   have HS5 := Xi (World.ownsRow.keepNew HO.out (.cells #[.string ((⟨l.toArray⟩ : ByteArray).extract f i)] 9));have HCE := Xi (show Value.string ((⟨l.toArray⟩ : ByteArray).extract f i) = strV (cut l f i) by rw [QbT]);by_cases hlt : i < l.length
   ·have hlt' : i < (⟨l.toArray⟩ : ByteArray).size := by rw [hz]; exact hlt
    have hget : (⟨l.toArray⟩ : ByteArray)[i]'hlt' = l[i]'hlt := rfl;have hget? : l[i]? = some (l[i]'hlt) := List.getElem?_eq_getElem hlt;obtain ⟨c,hc⟩ : ∃ c,l[i]'hlt = c := ⟨_,rfl⟩;rw [hc] at hget hget?;have e0 : ((i : Int) == (l.length : Int)) = false := by simp; omega
    by_cases hc10 : c = 58
    ·subst hc10;have e10 : (((((⟨l.toArray⟩ : ByteArray)[i]'hlt').toNat : Nat) : Int) == 58) = true := by rw [hget]; rfl
     have HS := Xi (Qnx hfi hget? hd h0);clear hget hget? hc hst hd h0;go_wp2_with (at_builtin; refine QaF _ rfl (.tmp 22) (.tmp 27) 75 rfl w.heap.size 9 i0 _ 1 16 underlying75 hi0 hz0 hz1 hz2 rfl (by decide) _ _ _ rfl HS5.out _ 1 1 [.string ((⟨l.toArray⟩ : ByteArray).extract f i)] rfl (Qc7 wr 9 (0,0) [.string ((⟨l.toArray⟩ : ByteArray).extract f i)]) (by intro u hu; simp at hu; subst hu; rfl) (by simp only [maxLen]; omega) (by omega) (by simp; omega) ?_; intro v6 w6 hown6 hg6 _);have hf6 := ((Fr.new wr (.cells #[.string ((⟨l.toArray⟩ : ByteArray).extract f i)] 9) (fun _ => False))).trans (Fr.ofGrown hg6) (U := fun k => w.heap.size ≤ k) (fun _ _ h => h.elim) (fun k _ e => (HS5.out.lt k e.symm).1);have HF6 := Xi (HF.out.fresh hf6 (fun k hk => hk));have HO6 := Xi hown6;clear hf6 hown6 hg6;go_wp2_with fail
     go_roundw
     case measure => simp [intOf]; omega
     case rel =>
      refine ⟨i + 1,i + 1,done ++ [cut l f i],by omega,Nat.le_refl _,by go_num,by go_num,?_,.inl ⟨by omega,HS.out.1,HS.out.2⟩,by simp; omega,HF6.out⟩;have := HO6.out;rw [HCE.out] at this;show World.ownsRow _ _ _ _ _ _ _;simpa using this
    ·have e10 : (((((⟨l.toArray⟩ : ByteArray)[i]'hlt').toNat : Nat) : Int) == 58) = false := by
      rw [hget,beq_eq_false_iff_ne];intro e;exact hc10 (UInt8.toNat_inj.1 (by have : (58 : UInt8).toNat = 58 := rfl; omega))
     have HS := Xi (Qnw hfi hget? hc10 h0);have HD := Xi hd;clear hget hget? hc hst hd h0;go_wp2_with fail
     go_roundw
     case measure => simp [intOf]; omega
     case rel => exact ⟨i + 1,f,done,by omega,by omega,by go_num,rfl,HO.out,.inl ⟨by omega,HD.out,HS.out⟩,by omega,HF.out⟩
   ·have hil' : i = l.length := by omega
    subst hil';have HS := Xi (Qny hd h0);clear hst hd h0 hlt;go_wp2_with (at_builtin; refine QaF _ rfl (.tmp 22) (.tmp 27) 75 rfl w.heap.size 9 i0 _ 1 16 underlying75 hi0 hz0 hz1 hz2 rfl (by decide) _ _ _ rfl HS5.out _ 1 1 [.string ((⟨l.toArray⟩ : ByteArray).extract f l.length)] rfl (Qc7 wr 9 (0,0) [.string ((⟨l.toArray⟩ : ByteArray).extract f l.length)]) (by intro u hu; simp at hu; subst hu; rfl) (by simp only [maxLen]; omega) (by omega) (by simp; omega) ?_; intro v6 w6 hown6 hg6 _);have hf6 := ((Fr.new wr (.cells #[.string ((⟨l.toArray⟩ : ByteArray).extract f l.length)] 9) (fun _ => False))).trans (Fr.ofGrown hg6) (U := fun k => w.heap.size ≤ k) (fun _ _ h => h.elim) (fun k _ e => (HS5.out.lt k e.symm).1);have HF6 := Xi (HF.out.fresh hf6 (fun k hk => hk));have HO6 := Xi hown6;clear hf6 hown6 hg6;go_wp2_with fail
    go_roundw
    case measure => simp [intOf]
    case rel =>
     refine ⟨l.length + 1,l.length + 1,done ++ [cut l f l.length],by omega,Nat.le_refl _,by go_num,by go_num,?_,.inr ⟨rfl,HS.out⟩,by simp; omega,HF6.out⟩;have := HO6.out;rw [HCE.out] at this;show World.ownsRow _ _ _ _ _ _ _;simpa using this
  ·have hd : done = QaM l := by
    rcases hst with ⟨h1,-⟩ | ⟨-,h2⟩
    ·omega
    ·exact h2
   subst hd;have b2 : (l.length : Int) < (i : Int) := by omega
   clear hst;go_wp2_with fail;go_ret;exact ⟨_,rfl,HO.out,HF.out⟩
/-- a part's number,0 where there is none -/
def Qbg (ps : List Bs) (k : Nat) : Int := match ps[k]? with
 | some x => numI x 2 2 59
 | none => 0
def QbV (ps : List Bs) : Int := match ps with
 | h :: _ => numI h 1 3 167
 | [] => 0
theorem QfL {ps : List Bs} (h0 : ps ≠ []) (h3 : ps.length ≤ 3) : QeX ps = Qd5 (QbV ps) (Qbg ps 1) (Qbg ps 2) := by
 match ps,h0,h3 with
 | [a],_,_ => rfl
 | [a,b],_,_ => rfl
 | [a,b,c],_,_ => rfl
 | _ :: _ :: _ :: _ :: _,_,h => simp at h
theorem QgT {ps : List Bs} (h : ¬ ps.length ≤ 3) : QeX ps = none := by
 match ps,h with
 | [],h => rfl
 | [a],h => simp at h
 | [a,b],h => simp at h
 | [a,b,c],h => simp at h
 | _ :: _ :: _ :: _ :: _,_ => rfl
theorem Qh1 (s : Bs) (a b m : Nat) : -1 ≤ numI s a b m ∧ numI s a b m ≤ (m : Int) := by
 unfold numI;split
 ·omega
 ·omega
theorem QdP (ps : List Bs) (k : Nat) : -1 ≤ Qbg ps k ∧ Qbg ps k ≤ 59 := by
 unfold Qbg;split
 ·exact Qh1 _ _ _ _
 ·omega
theorem Qg2 (ps : List Bs) : -1 ≤ QbV ps ∧ QbV ps ≤ 167 := by
 unfold QbV;split
 ·exact Qh1 _ _ _ _
 ·omega
theorem Qeu (l : Bs) : QaM l ≠ [] := by
 cases l with
 | nil => simp [QaM]
 | cons c r =>
  simp only [QaM];split <;> simp
theorem Qd9 (l : Bs) : ∀ x ∈ QaM l,x.length ≤ l.length := by
 induction l with
 | nil => simp [QaM]
 | cons c r ih =>
  intro x hx;simp only [QaM] at hx;split at hx
  ·rcases List.mem_cons.1 hx with rfl | h
   ·simp
   ·have := ih x h; simp; omega
  ·cases hs : QaM r with
   | nil => exact absurd hs (Qeu r)
   | cons y ys =>
    rw [hs] at hx;simp at hx;rcases hx with rfl | h
    ·have := ih y (by rw [hs]; simp); simp; omega
    ·have := ih x (by rw [hs]; simp [h]); simp; omega
theorem num22 (s : Bs) (hs : s.length ≤ 100000) (w : World) : Calls Tryz.prog 146 #[strV s,.int .i64 2,.int .i64 2,.int .i64 59] w fun e w' => e = .returned (.int .i64 (numI s 2 2 59)) ∧ w = w' := QcZ s 2 2 59 (by omega) (by omega) (by omega) hs w _ rfl
theorem num13 (s : Bs) (hs : s.length ≤ 100000) (w : World) : Calls Tryz.prog 146 #[strV s,.int .i64 1,.int .i64 3,.int .i64 167] w fun e w' => e = .returned (.int .i64 (numI s 1 3 167)) ∧ w = w' := QcZ s 1 3 167 (by omega) (by omega) (by omega) hs w _ rfl
/-- what the document's time answers -/
def TimeR (g : Option Int) (w : World) (e : Ending) (w' : World) : Prop := Fr w w' (fun _ => False) ∧ match g with
 | none => e = .returned (.tuple #[.int .i64 0,.bool false])
 | some n => e = .returned (.tuple #[.int .i64 n,.bool true])
def TInv (w : World) (ps : List Bs) (A : Option Addr) (g : Nat) (v6 v7 v8 : Value) (wr : World) : Prop :=
 ∃ (i : Nat) (n : Int) (bd : Bool),i + g = 3 ∧ 1 ≤ i ∧ v6 = .int .i64 n ∧ v7 = .bool bd ∧ v8 = natV i ∧
  ((i = 1 ∧ n = QbV ps ∧ (bd = true ↔ QbV ps < 0)) ∨ (i = 2 ∧ n = QbV ps * 60 + Qbg ps 1 ∧ (bd = true ↔ QbV ps < 0 ∨ Qbg ps 1 < 0)) ∨
   (i = 3 ∧ n = (QbV ps * 60 + Qbg ps 1) * 60 + Qbg ps 2 ∧ (bd = true ↔ QbV ps < 0 ∨ Qbg ps 1 < 0 ∨ Qbg ps 2 < 0))) ∧
  Rd wr 1 A ps.length (ps.map strV) ∧ Fr w wr (fun _ => False)
theorem Qcu {w : World} {A : Option Addr} {n : Nat} {ls : List Bs} (h : Rd w 1 A n (ls.map strV)) {k : Nat} (hk : k < n) :
  ∃ b off x,A = some ⟨b,off,none⟩ ∧ ls[k]? = some x ∧ w.cell? ⟨b,off + k,none⟩ = some (strV x) := by
 obtain ⟨b,off,u,e,hu,hc⟩ := h.at_ hk;rw [List.getElem?_map] at hu;obtain ⟨x,hx,rfl⟩ := Option.map_eq_some_iff.1 hu;exact ⟨b,off,x,e,hx,hc⟩
theorem Qni (w : World) : Calls Tryz.prog 109 #[strV [45]] w (TimeR (Qb7 [45]) w) := by
 go_enter func109,ntmps109;go_wp2_with fail
 go_ret2
 exact ⟨Fr.refl _ _,rfl⟩
theorem Qpz {ps : List Bs} {n : Int} (h : n = (QbV ps * 60 + Qbg ps 1) * 60 + Qbg ps 2) : -10000000 ≤ n ∧ n ≤ 10000000 := by
 have := Qg2 ps;have := QdP ps 1;have := QdP ps 2;omega
theorem Qkl {ps : List Bs} {i : Nat} {n : Int} {bd : Bool} {x : Int} (h : (i = 1 ∧ n = QbV ps ∧ (bd = true ↔ QbV ps < 0)) ∨ (i = 2 ∧ n = QbV ps * 60 + Qbg ps 1 ∧ (bd = true ↔ QbV ps < 0 ∨ Qbg ps 1 < 0)) ∨
   (i = 3 ∧ n = (QbV ps * 60 + Qbg ps 1) * 60 + Qbg ps 2 ∧ (bd = true ↔ QbV ps < 0 ∨ Qbg ps 1 < 0 ∨ Qbg ps 2 < 0))) (hi : i < 3) (hx : x = Qbg ps i) :
  (-20000 ≤ n ∧ n ≤ 20000 ∧ -1 ≤ x ∧ x ≤ 59) ∧ ∀ c : Bool,(c = true ↔ bd = true ∨ x < 0) → ((i + 1 = 1 ∧ n * 60 + x = QbV ps ∧ (c = true ↔ QbV ps < 0)) ∨ (i + 1 = 2 ∧ n * 60 + x = QbV ps * 60 + Qbg ps 1 ∧ (c = true ↔ QbV ps < 0 ∨ Qbg ps 1 < 0)) ∨
   (i + 1 = 3 ∧ n * 60 + x = (QbV ps * 60 + Qbg ps 1) * 60 + Qbg ps 2 ∧ (c = true ↔ QbV ps < 0 ∨ Qbg ps 1 < 0 ∨ Qbg ps 2 < 0))) := by
 have a1 := Qg2 ps;have a2 := QdP ps 1;have a3 := QdP ps 2;subst hx;rcases h with ⟨rfl,rfl,hb⟩ | ⟨rfl,rfl,hb⟩ | ⟨rfl,-,-⟩
 ·refine ⟨by omega,fun c hc => .inr (.inl ⟨rfl,rfl,?_⟩)⟩;rw [hc,hb]
 ·refine ⟨by omega,fun c hc => .inr (.inr ⟨rfl,rfl,?_⟩)⟩;rw [hc,hb,or_assoc]
 ·omega
theorem QoP (l : Bs) (w : World) (hl : l.length ≤ 1000) (hne : l ≠ []) : Calls Tryz.prog 109 #[strV (45 :: l)] w (TimeR (negO true (QeX (QaM l))) w) := by
 obtain ⟨L,hL⟩ : ∃ L,L = 45 :: l := ⟨_,rfl⟩;have e0 : (L == [45]) = false := by rw [hL]; simp [hne]
 have hsz := Qal L;have hlen : L.length = l.length + 1 := by rw [hL]; rfl
 have hp : 0 < (⟨L.toArray⟩ : ByteArray).size := by rw [hsz]; omega
 have hget : (⟨L.toArray⟩ : ByteArray)[0]'hp = 45 := by subst hL; rfl
 have t0 : ((((⟨L.toArray⟩ : ByteArray)[0]'hp).toNat : Int) == 45) = true := by rw [hget]; rfl
 have hcut : (⟨L.toArray⟩ : ByteArray).extract 1 L.length = ⟨l.toArray⟩ := by
  rw [QbT,hL];simp [cut]
 have hls : (0 : Int) < (L.length : Int) := by omega
 have hls1 : (1 : Int) ≤ (L.length : Int) := by omega
 rw [← hL];clear hL hget hlen;have HP := Xi (fun W => Qjz l W (by omega));have hps0 := Qeu l;have hpl := Qd9 l;unfold QlN at HP;generalize QaM l = ps at HP hps0 hpl ⊢;obtain ⟨G,hG⟩ : ∃ G,QeX ps = G := ⟨_,rfl⟩;rw [hG];have HG0 := Xi hG;clear hG;have hp1 : 1 ≤ ps.length := List.length_pos_iff.2 hps0;clear hne;go_enter func109,ntmps109;go_wp2_with fail;refine (HP.out _).mono ?_;rintro e w2 ⟨v,rfl,hown,hf2⟩;obtain ⟨A,cap,rfl,hcap,hmax,hrd,-,-⟩ := Qed hown;have HF2 := Xi hf2;clear hown hf2;by_cases h3 : ps.length ≤ 3
 ·have t3 : ¬ ((3 : Int) < (ps.length : Int)) := by omega
  obtain ⟨b,off,x0,rfl,hx0,hc0⟩ := Qcu hrd (k := 0) (by omega);rw [Nat.add_zero] at hc0;have HN0 := Xi (num13 x0 (by have := hpl x0 (List.mem_of_getElem? hx0); omega));have hH : numI x0 1 3 167 = QbV ps := by
   cases ps with
   | nil => cases hx0
   | cons y ys =>
    obtain rfl : y = x0 := by simpa using hx0
    rfl
  rw [hH] at HN0;have hpos : (0 : Int) < (ps.length : Int) := by omega
  have HRD := Xi hrd;have HPL := Xi hpl;have HG : Hid (Qd5 (QbV ps) (Qbg ps 1) (Qbg ps 2) = G) := Xi (by rw [← HG0.out,QfL hps0 h3]);clear HG0 hH hx0 hrd hpl HP hps0;go_wp2_with fail;refine (HN0.out _).mono ?_;rintro e w3 ⟨rfl,rfl⟩;go_wp2_with fail
  go_loopg [6,7,8,9] 2 (fun g v6 v7 v8 _v9 wr => TInv w ps (some ⟨b,off,none⟩) g v6 v7 v8 wr)
  case atStart => exact ⟨1,QbV ps,_,rfl,Nat.le_refl _,rfl,rfl,rfl,.inl ⟨rfl,rfl,by simp⟩,HRD.out,HF2.out⟩
  case round =>
   obtain ⟨i,n,bd,hig,h1i,rfl,rfl,rfl,hst,hrd,hfr⟩ := hrel;have HFR := Xi hfr;have HR := Xi hrd;clear hfr HF2 HRD hc0 HN0;by_cases hi3 : i < 3
   ·obtain ⟨g',rfl⟩ : ∃ g',gk = g' + 1 := ⟨gk - 1,by omega⟩;have hi3' : (i : Int) < 3 := by omega
    obtain ⟨x,hx⟩ : ∃ x,x = Qbg ps i := ⟨_,rfl⟩;obtain ⟨⟨n1,n2,x1,x2⟩,hnext⟩ := Qkl hst hi3 hx;have HNX := Xi hnext;clear hst hnext;by_cases hil : i < ps.length
    ·obtain ⟨b',off',y,hA,hy,hcy⟩ := Qcu hrd hil;cases hA
     have HN := Xi (num22 y (by have := HPL.out y (List.mem_of_getElem? hy); omega));have hyx : numI y 2 2 59 = x := by rw [hx,Qbg,hy]
     rw [hyx] at HN;have q1 : (i : Int) < (ps.length : Int) := by omega
     have q2 : (0 : Int) ≤ (i : Int) := by omega
     clear hy hyx hx hrd;cases bd
     ·go_wp2_with fail;refine (HN.out _).mono ?_;rintro e w3 ⟨rfl,rfl⟩;go_wp2_with fail
      go_roundg g'
      case measure => omega
      case rel => exact ⟨i + 1,n * 60 + x,_,by omega,by omega,rfl,rfl,by go_num,HNX.out _ (by simp),HR.out,HFR.out⟩
     ·go_wp2_with fail;refine (HN.out _).mono ?_;rintro e w3 ⟨rfl,rfl⟩;go_wp2_with fail
      go_roundg g'
      case measure => omega
      case rel => exact ⟨i + 1,n * 60 + x,_,by omega,by omega,rfl,rfl,by go_num,HNX.out _ (by simp),HR.out,HFR.out⟩
    ·have hx0 : x = 0 := by rw [hx,Qbg,List.getElem?_eq_none (by omega)]
     subst hx0;have q1 : ¬ (i : Int) < (ps.length : Int) := by omega
     clear hx hrd;cases bd
     ·go_wp2_with fail
      go_roundg g'
      case measure => omega
      case rel => exact ⟨i + 1,n * 60 + 0,_,by omega,by omega,by go_num,rfl,by go_num,HNX.out _ (by simp),HR.out,HFR.out⟩
     ·go_wp2_with fail
      go_roundg g'
      case measure => omega
      case rel => exact ⟨i + 1,n * 60 + 0,_,by omega,by omega,by go_num,rfl,by go_num,HNX.out _ (by simp),HR.out,HFR.out⟩
   ·obtain rfl : i = 3 := by omega
    obtain ⟨hn,hb⟩ : n = (QbV ps * 60 + Qbg ps 1) * 60 + Qbg ps 2 ∧ (bd = true ↔ QbV ps < 0 ∨ Qbg ps 1 < 0 ∨ Qbg ps 2 < 0) := by
     rcases hst with ⟨h,-⟩ | ⟨h,-⟩ | ⟨-,h⟩
     ·omega
     ·omega
     ·exact h
    obtain ⟨m1,m2⟩ := Qpz hn;clear hi3 hst hrd;cases bd
    ·have hg : some n = G := by
      rw [← HG.out,Qd5,if_neg (fun h => absurd (hb.2 h) (by simp)),hn]
     subst hg;clear HG hb hn;go_wp2_with fail
     go_ret2
     exact ⟨HFR.out,rfl⟩
    ·have hg : none = G := by
      rw [← HG.out,Qd5,if_pos (hb.1 rfl)]
     subst hg;clear HG hb hn;go_wp2_with fail
     go_ret2
     exact ⟨HFR.out,rfl⟩
 ·have t3 : ((3 : Int) < (ps.length : Int)) := by omega
  have hg : none = G := by rw [← HG0.out,QgT h3]
  subst hg;clear hrd HP HG0;go_wp2_with fail
  go_ret2
  exact ⟨HF2.out,rfl⟩
theorem Qnh (l : Bs) (w : World) (hl : l.length ≤ 1000) (h45 : l.head? ≠ some 45) : Calls Tryz.prog 109 #[strV l] w (TimeR (negO false (QeX (QaM l))) w) := by
 have hsz := Qal l;have HP := Xi (fun W => Qjz l W (by omega));have hps0 := Qeu l;have hpl := Qd9 l;unfold QlN at HP;generalize QaM l = ps at HP hps0 hpl ⊢;obtain ⟨G,hG⟩ : ∃ G,QeX ps = G := ⟨_,rfl⟩;rw [hG];have HG0 := Xi hG;clear hG;have hp1 : 1 ≤ ps.length := List.length_pos_iff.2 hps0;by_cases hl0 : l = []
 ·subst hl0;clear h45;go_enter func109,ntmps109;go_wp2_with fail;refine (HP.out _).mono ?_;rintro e w2 ⟨v,rfl,hown,hf2⟩;obtain ⟨A,cap,rfl,hcap,hmax,hrd,-,-⟩ := Qed hown;have HF2 := Xi hf2;clear hown hf2;by_cases h3 : ps.length ≤ 3
  ·have t3 : ¬ ((3 : Int) < (ps.length : Int)) := by omega
   obtain ⟨b,off,x0,rfl,hx0,hc0⟩ := Qcu hrd (k := 0) (by omega);rw [Nat.add_zero] at hc0;have HN0 := Xi (num13 x0 (by have := hpl x0 (List.mem_of_getElem? hx0); omega));have hH : numI x0 1 3 167 = QbV ps := by
    cases ps with
    | nil => cases hx0
    | cons y ys =>
     obtain rfl : y = x0 := by simpa using hx0
     rfl
   rw [hH] at HN0;have hpos : (0 : Int) < (ps.length : Int) := by omega
   have HRD := Xi hrd;have HPL := Xi hpl;have HG : Hid (Qd5 (QbV ps) (Qbg ps 1) (Qbg ps 2) = G) := Xi (by rw [← HG0.out,QfL hps0 h3]);clear HG0 hH hx0 hrd hpl HP hps0;go_wp2_with fail;refine (HN0.out _).mono ?_;rintro e w3 ⟨rfl,rfl⟩;go_wp2_with fail
   go_loopg [6,7,8,9] 2 (fun g v6 v7 v8 _v9 wr => TInv w ps (some ⟨b,off,none⟩) g v6 v7 v8 wr)
   case atStart => exact ⟨1,QbV ps,_,rfl,Nat.le_refl _,rfl,rfl,rfl,.inl ⟨rfl,rfl,by simp⟩,HRD.out,HF2.out⟩
   case round =>
    obtain ⟨i,n,bd,hig,h1i,rfl,rfl,rfl,hst,hrd,hfr⟩ := hrel;have HFR := Xi hfr;have HR := Xi hrd;clear hfr HF2 HRD hc0 HN0;by_cases hi3 : i < 3
    ·obtain ⟨g',rfl⟩ : ∃ g',gk = g' + 1 := ⟨gk - 1,by omega⟩;have hi3' : (i : Int) < 3 := by omega
     obtain ⟨x,hx⟩ : ∃ x,x = Qbg ps i := ⟨_,rfl⟩;obtain ⟨⟨n1,n2,x1,x2⟩,hnext⟩ := Qkl hst hi3 hx;have HNX := Xi hnext;clear hst hnext;by_cases hil : i < ps.length
     ·obtain ⟨b',off',y,hA,hy,hcy⟩ := Qcu hrd hil;cases hA
      have HN := Xi (num22 y (by have := HPL.out y (List.mem_of_getElem? hy); omega));have hyx : numI y 2 2 59 = x := by rw [hx,Qbg,hy]
      rw [hyx] at HN;have q1 : (i : Int) < (ps.length : Int) := by omega
      have q2 : (0 : Int) ≤ (i : Int) := by omega
      clear hy hyx hx hrd;cases bd
      ·go_wp2_with fail;refine (HN.out _).mono ?_;rintro e w3 ⟨rfl,rfl⟩;go_wp2_with fail
       go_roundg g'
       case measure => omega
       case rel => exact ⟨i + 1,n * 60 + x,_,by omega,by omega,rfl,rfl,by go_num,HNX.out _ (by simp),HR.out,HFR.out⟩
      ·go_wp2_with fail;refine (HN.out _).mono ?_;rintro e w3 ⟨rfl,rfl⟩;go_wp2_with fail
       go_roundg g'
       case measure => omega
       case rel => exact ⟨i + 1,n * 60 + x,_,by omega,by omega,rfl,rfl,by go_num,HNX.out _ (by simp),HR.out,HFR.out⟩
     ·have hx0 : x = 0 := by rw [hx,Qbg,List.getElem?_eq_none (by omega)]
      subst hx0;have q1 : ¬ (i : Int) < (ps.length : Int) := by omega
      clear hx hrd;cases bd
      ·go_wp2_with fail
       go_roundg g'
       case measure => omega
       case rel => exact ⟨i + 1,n * 60 + 0,_,by omega,by omega,by go_num,rfl,by go_num,HNX.out _ (by simp),HR.out,HFR.out⟩
      ·go_wp2_with fail
       go_roundg g'
       case measure => omega
       case rel => exact ⟨i + 1,n * 60 + 0,_,by omega,by omega,by go_num,rfl,by go_num,HNX.out _ (by simp),HR.out,HFR.out⟩
    ·obtain rfl : i = 3 := by omega
     obtain ⟨hn,hb⟩ : n = (QbV ps * 60 + Qbg ps 1) * 60 + Qbg ps 2 ∧ (bd = true ↔ QbV ps < 0 ∨ Qbg ps 1 < 0 ∨ Qbg ps 2 < 0) := by
      rcases hst with ⟨h,-⟩ | ⟨h,-⟩ | ⟨-,h⟩
      ·omega
      ·omega
      ·exact h
     obtain ⟨m1,m2⟩ := Qpz hn;clear hi3 hst hrd;cases bd
     ·have hg : some n = G := by
       rw [← HG.out,Qd5,if_neg (fun h => absurd (hb.2 h) (by simp)),hn]
      subst hg;clear HG hb hn;go_wp2_with fail
      go_ret2
      exact ⟨HFR.out,rfl⟩
     ·have hg : none = G := by
       rw [← HG.out,Qd5,if_pos (hb.1 rfl)]
      subst hg;clear HG hb hn;go_wp2_with fail
      go_ret2
      exact ⟨HFR.out,rfl⟩
  ·have t3 : ((3 : Int) < (ps.length : Int)) := by omega
   have hg : none = G := by rw [← HG0.out,QgT h3]
   subst hg;clear hrd HP HG0;go_wp2_with fail
   go_ret2
   exact ⟨HF2.out,rfl⟩
 ·have e0 : (l == [45]) = false := by
   rw [beq_eq_false_iff_ne];rintro rfl;exact h45 rfl
  have hl1 : 0 < l.length := List.length_pos_iff.2 hl0;have hp : 0 < (⟨l.toArray⟩ : ByteArray).size := by rw [hsz]; exact hl1
  have hget : (⟨l.toArray⟩ : ByteArray)[0]'hp = l[0]'hl1 := rfl;have t0 : ((((⟨l.toArray⟩ : ByteArray)[0]'hp).toNat : Int) == 45) = false := by
   rw [hget,beq_eq_false_iff_ne];intro e;refine h45 ?_;rw [List.head?_eq_getElem?,List.getElem?_eq_getElem hl1,UInt8.toNat_inj.1 (by have : (45 : UInt8).toNat = 45 := rfl; omega : (l[0]'hl1).toNat = (45 : UInt8).toNat)]
  have hls : (0 : Int) < (l.length : Int) := by omega
  clear h45 hl0 hget hl1;go_enter func109,ntmps109;go_wp2_with fail;refine (HP.out _).mono ?_;rintro e w2 ⟨v,rfl,hown,hf2⟩;obtain ⟨A,cap,rfl,hcap,hmax,hrd,-,-⟩ := Qed hown;have HF2 := Xi hf2;clear hown hf2;by_cases h3 : ps.length ≤ 3
  ·have t3 : ¬ ((3 : Int) < (ps.length : Int)) := by omega
   obtain ⟨b,off,x0,rfl,hx0,hc0⟩ := Qcu hrd (k := 0) (by omega);rw [Nat.add_zero] at hc0;have HN0 := Xi (num13 x0 (by have := hpl x0 (List.mem_of_getElem? hx0); omega));have hH : numI x0 1 3 167 = QbV ps := by
    cases ps with
    | nil => cases hx0
    | cons y ys =>
     obtain rfl : y = x0 := by simpa using hx0
     rfl
   rw [hH] at HN0;have hpos : (0 : Int) < (ps.length : Int) := by omega
   have HRD := Xi hrd;have HPL := Xi hpl;have HG : Hid (Qd5 (QbV ps) (Qbg ps 1) (Qbg ps 2) = G) := Xi (by rw [← HG0.out,QfL hps0 h3]);clear HG0 hH hx0 hrd hpl HP hps0;go_wp2_with fail;refine (HN0.out _).mono ?_;rintro e w3 ⟨rfl,rfl⟩;go_wp2_with fail
   go_loopg [6,7,8,9] 2 (fun g v6 v7 v8 _v9 wr => TInv w ps (some ⟨b,off,none⟩) g v6 v7 v8 wr)
   case atStart => exact ⟨1,QbV ps,_,rfl,Nat.le_refl _,rfl,rfl,rfl,.inl ⟨rfl,rfl,by simp⟩,HRD.out,HF2.out⟩
   case round =>
    obtain ⟨i,n,bd,hig,h1i,rfl,rfl,rfl,hst,hrd,hfr⟩ := hrel;have HFR := Xi hfr;have HR := Xi hrd;clear hfr HF2 HRD hc0 HN0;by_cases hi3 : i < 3
    ·obtain ⟨g',rfl⟩ : ∃ g',gk = g' + 1 := ⟨gk - 1,by omega⟩;have hi3' : (i : Int) < 3 := by omega
     obtain ⟨x,hx⟩ : ∃ x,x = Qbg ps i := ⟨_,rfl⟩;obtain ⟨⟨n1,n2,x1,x2⟩,hnext⟩ := Qkl hst hi3 hx;have HNX := Xi hnext;clear hst hnext;by_cases hil : i < ps.length
     ·obtain ⟨b',off',y,hA,hy,hcy⟩ := Qcu hrd hil;cases hA
      have HN := Xi (num22 y (by have := HPL.out y (List.mem_of_getElem? hy); omega));have hyx : numI y 2 2 59 = x := by rw [hx,Qbg,hy]
      rw [hyx] at HN;have q1 : (i : Int) < (ps.length : Int) := by omega
      have q2 : (0 : Int) ≤ (i : Int) := by omega
      clear hy hyx hx hrd;cases bd
      ·go_wp2_with fail;refine (HN.out _).mono ?_;rintro e w3 ⟨rfl,rfl⟩;go_wp2_with fail
       go_roundg g'
       case measure => omega
       case rel => exact ⟨i + 1,n * 60 + x,_,by omega,by omega,rfl,rfl,by go_num,HNX.out _ (by simp),HR.out,HFR.out⟩
      ·go_wp2_with fail;refine (HN.out _).mono ?_;rintro e w3 ⟨rfl,rfl⟩;go_wp2_with fail
       go_roundg g'
       case measure => omega
       case rel => exact ⟨i + 1,n * 60 + x,_,by omega,by omega,rfl,rfl,by go_num,HNX.out _ (by simp),HR.out,HFR.out⟩
     ·have hx0 : x = 0 := by rw [hx,Qbg,List.getElem?_eq_none (by omega)]
      subst hx0;have q1 : ¬ (i : Int) < (ps.length : Int) := by omega
      clear hx hrd;cases bd
      ·go_wp2_with fail
       go_roundg g'
       case measure => omega
       case rel => exact ⟨i + 1,n * 60 + 0,_,by omega,by omega,by go_num,rfl,by go_num,HNX.out _ (by simp),HR.out,HFR.out⟩
      ·go_wp2_with fail
       go_roundg g'
       case measure => omega
       case rel => exact ⟨i + 1,n * 60 + 0,_,by omega,by omega,by go_num,rfl,by go_num,HNX.out _ (by simp),HR.out,HFR.out⟩
    ·obtain rfl : i = 3 := by omega
     obtain ⟨hn,hb⟩ : n = (QbV ps * 60 + Qbg ps 1) * 60 + Qbg ps 2 ∧ (bd = true ↔ QbV ps < 0 ∨ Qbg ps 1 < 0 ∨ Qbg ps 2 < 0) := by
      rcases hst with ⟨h,-⟩ | ⟨h,-⟩ | ⟨-,h⟩
      ·omega
      ·omega
      ·exact h
     obtain ⟨m1,m2⟩ := Qpz hn;clear hi3 hst hrd;cases bd
     ·have hg : some n = G := by
       rw [← HG.out,Qd5,if_neg (fun h => absurd (hb.2 h) (by simp)),hn]
      subst hg;clear HG hb hn;go_wp2_with fail
      go_ret2
      exact ⟨HFR.out,rfl⟩
     ·have hg : none = G := by
       rw [← HG.out,Qd5,if_pos (hb.1 rfl)]
      subst hg;clear HG hb hn;go_wp2_with fail
      go_ret2
      exact ⟨HFR.out,rfl⟩
  ·have t3 : ((3 : Int) < (ps.length : Int)) := by omega
   have hg : none = G := by rw [← HG0.out,QgT h3]
   subst hg;clear hrd HP HG0;go_wp2_with fail
   go_ret2
   exact ⟨HF2.out,rfl⟩
theorem Qbu (l : Bs) (w : World) (hl : l.length ≤ 1000) : Calls Tryz.prog 109 #[strV l] w (TimeR (Qb7 l) w) := by
 by_cases h0 : l = [45]
 ·subst h0;exact Qni w
 ·rw [Qb7,if_neg h0];by_cases h45 : l.head? = some 45
  ·have e := Qda h45;rw [if_pos h45];have := QoP l.tail w (by rw [List.length_tail]; omega) (fun h => h0 (by rw [e,h]))
   rwa [← e] at this
  ·rw [if_neg h45];exact Qnh l w hl h45
end Go.Proofs.YtodcnbejnchmhaaGreatDoor.S5
