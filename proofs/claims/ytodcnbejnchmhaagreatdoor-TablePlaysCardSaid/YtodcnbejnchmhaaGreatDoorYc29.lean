import Derived.Test.YtodcnbejnchmhaaGreatDoorYc23
namespace Go.Proofs.YtodcnbejnchmhaaGreatDoor.S8
open _root_.Go.Proofs.Tryz
open Go.RowKit Go.Mem Go.Kwd

theorem Qnn (t : Bs) (i a n : Nat) (w : Bs) (ws : List Bs) : Qd7 t i a n (w :: ws) =
  if t.length = 0 ∨ w.length < t.length ∨ w.take t.length ≠ t then Qd7 t (i + 1) a n ws else (if t.length = w.length then i + 1 else Qd7 t (i + 1) (i + 1) (n + 1) ws) := by
 have hc : (t.isEmpty || !preB t w) = true ↔ (t.length = 0 ∨ w.length < t.length ∨ w.take t.length ≠ t) := by
  have h0 : t.isEmpty = true ↔ t.length = 0 := by cases t <;> simp
  have h2 : (!preB t w) = true ↔ (w.length < t.length ∨ w.take t.length ≠ t) := by
   rw [Bool.not_eq_true',Bool.eq_false_iff,ne_eq,Qpo];constructor
   ·exact fun h => .inr h
   ·rintro (h | h) e
    ·have := congrArg List.length e;rw [List.length_take] at this;omega
    ·exact h e
  rw [Bool.or_eq_true,h0,h2]
 rw [Qd7];by_cases h : (t.isEmpty || !preB t w) = true
 ·rw [if_pos h,if_pos (hc.1 h)]
 ·rw [if_neg h,if_neg (fun x => h (hc.2 x))]
theorem QpD (a b : ByteArray) : (a.toList == b.toList) = decide (a = b) := by
 rw [Lib.toList_data,Lib.toList_data,Bool.eq_iff_iff,beq_iff_eq,decide_eq_true_iff];constructor
 ·intro h;apply ByteArray.ext;exact Array.toList_inj.1 h
 ·intro h; rw [h]
theorem QgW (l : Bs) (A : Option Addr) (n c : Nat) (ws : List Bs) (w : World) (hr : Rd w 1 A n (ws.map strV)) (hn : n ≤ 1000) (hl : l.length ≤ 1000000) (hw : ∀ x ∈ ws,x.length ≤ 1000000) (z : Nat) (hz : QhF l ws = z) :
  Calls Tryz.prog 75 #[strV l,.slice A n c] w fun e w' => e = .returned (.int .i64 (z : Int)) ∧ Fr w w' (fun _ => False) := by
 have HR := Xi hr;have HL := Xi (Ql0 hr);have HW := Xi hw;have HS := Xi (Qnj l w hl);have htl := Qds l;unfold QhF at hz;obtain ⟨t,ht⟩ : ∃ t,Qca l = t := ⟨_,rfl⟩;rw [ht] at hz htl HS;have HZ := Xi hz;obtain ⟨T,hT⟩ : ∃ T : ByteArray,T = ⟨t.toArray⟩ := ⟨_,rfl⟩;have hts : T.size = t.length := by rw [hT]; exact Qal t
 rw [show strV t = .string T by rw [hT]] at HS;have HTS := Xi hts;have HT := Xi hT;have ht6 : T.size ≤ 1000000 := by omega
 clear hr hz hw ht htl hts hT;go_enter func75,ntmps75;go_wp2_with fail;refine HS.out.mono ?_;rintro e w2 ⟨rfl,hf2⟩;have HF2 := Xi hf2;clear hf2;go_wp2_with fail
 go_loopg [5,6,7] n (fun g v5 v6 v7 wr => ∃ k a m : Nat,k + g = n ∧ v7 = .int .i64 (k : Int) ∧ v5 = .int .i64 (a : Int) ∧ v6 = .int .i64 (m : Int) ∧ a ≤ k ∧ m ≤ k ∧ Qd7 t k a m (ws.drop k) = z ∧ Fr w wr (fun _ => False))
 case atStart => exact ⟨0,0,0,by omega,rfl,rfl,rfl,by omega,by omega,HZ.out,HF2.out⟩
 case round =>
  obtain ⟨k,a,m,hk,rfl,rfl,rfl,ha,hm,hfd,hf⟩ := hrel;have HF := Xi hf;have HR2 := Xi (Qki HR.out hf);have HFD := Xi hfd;clear hf hfd;by_cases hlt : k < n
  ·obtain ⟨b,o,x,rfl,hx,hc⟩ := Qcu HR2.out hlt;have hxl : x.length ≤ 1000000 := HW.out x (List.mem_of_getElem? hx);obtain ⟨X,hX⟩ : ∃ X : ByteArray,X = ⟨x.toArray⟩ := ⟨_,rfl⟩;have hxs : X.size = x.length := by rw [hX]; exact Qal x
   rw [show strV x = .string X by rw [hX]] at hc;have HXS := Xi hxs;have hx6 : X.size ≤ 1000000 := by omega
   have HTX := Xi (show x.take t.length = t ↔ X.extract 0 T.size = T by
    rw [hX,HTS.out,ext_take,HT.out];constructor
    ·intro h; rw [h]
    ·intro h;have := congrArg (fun b : ByteArray => b.data.toList) h;simpa using this)
   clear hxs hX hxl;have h1 : (k : Int) < (n : Int) := by omega
   have h2 : (0 : Int) ≤ (k : Int) := by omega
   have hstep := Qnn t k a m x (ws.drop (k + 1));rw [← Qp6 hx,HFD.out] at hstep;clear hx;by_cases t0 : t.length = 0
   ·rw [if_pos (.inl t0)] at hstep;have HST := Xi hstep;have e1 : ((T.size : Int) == 0) = true := beq_iff_eq.2 (by have := HTS.out; omega);clear hstep t0;go_wp2_with fail
    go_roundg (n - (k + 1))
    case measure => omega
    case rel => exact ⟨k + 1,a,m,by omega,by go_num,rfl,rfl,by omega,by omega,HST.out.symm,HF.out⟩
   ·have e1 : ((T.size : Int) == 0) = false := beq_eq_false_iff_ne.2 (by have := HTS.out; omega);by_cases t1 : x.length < t.length
    ·rw [if_pos (.inr (.inl t1))] at hstep;have HST := Xi hstep;have e2 : (X.size : Int) < (T.size : Int) := by have := HTS.out; have := HXS.out; omega
     clear hstep t0 t1;go_wp2_with fail
     go_roundg (n - (k + 1))
     case measure => omega
     case rel => exact ⟨k + 1,a,m,by omega,by go_num,rfl,rfl,by omega,by omega,HST.out.symm,HF.out⟩
    ·have e2 : (T.size : Int) ≤ (X.size : Int) := by have := HTS.out; have := HXS.out; omega
     have e3 : (0 : Int) ≤ (T.size : Int) := by omega
     by_cases t2 : X.extract 0 T.size = T
     ·have hcond : ¬ (t.length = 0 ∨ x.length < t.length ∨ x.take t.length ≠ t) := by
       rintro (h | h | h)
       ·exact t0 h
       ·exact t1 h
       ·exact h (HTX.out.2 t2)
      rw [if_neg hcond] at hstep;have e4 : ((X.extract 0 T.size).toList == T.toList) = true := by rw [QpD]; exact decide_eq_true t2
      have e5 : ((X.extract 0 T.size).toList != T.toList) = false := by unfold bne; rw [e4]; rfl
      by_cases he : t.length = x.length
      ·rw [if_pos he] at hstep;have hzk : z = k + 1 := hstep;have het : ((T.size : Int) == (X.size : Int)) = true := beq_iff_eq.2 (by have := HTS.out; have := HXS.out; omega);clear hstep hcond t0 t1 t2 he;subst hzk;go_wp2_with fail;go_ret;exact ⟨by simp,HF.out⟩
      ·rw [if_neg he] at hstep;have HST := Xi hstep;have het : ((T.size : Int) == (X.size : Int)) = false := beq_eq_false_iff_ne.2 (by have := HTS.out; have := HXS.out; omega);clear hstep hcond t0 t1 t2 he;go_wp2_with fail
       go_roundg (n - (k + 1))
       case measure => omega
       case rel => exact ⟨k + 1,k + 1,m + 1,by omega,by go_num,by go_num,by go_num,by omega,by omega,HST.out.symm,HF.out⟩
     ·have hcond : t.length = 0 ∨ x.length < t.length ∨ x.take t.length ≠ t := .inr (.inr (fun e => t2 (HTX.out.1 e)));rw [if_pos hcond] at hstep;have HST := Xi hstep;have e4 : ((X.extract 0 T.size).toList == T.toList) = false := by rw [QpD]; exact decide_eq_false t2
      have e5 : ((X.extract 0 T.size).toList != T.toList) = true := by unfold bne; rw [e4]; rfl
      clear hstep hcond t0 t1 t2;go_wp2_with fail
      go_roundg (n - (k + 1))
      case measure => omega
      case rel => exact ⟨k + 1,a,m,by omega,by go_num,rfl,rfl,by omega,by omega,HST.out.symm,HF.out⟩
  ·have hkn : k = n := by omega
   subst hkn;have hd : ws.drop k = [] := List.drop_eq_nil_of_le (by rw [HL.out]; omega);have hz : (if m = 1 then a else 0) = z := by have := HFD.out; rw [hd] at this; exact this
   by_cases hm1 : m = 1
   ·rw [if_pos hm1] at hz;subst hz hm1;go_wp2_with fail;go_ret;exact ⟨rfl,HF.out⟩
   ·rw [if_neg hm1] at hz;subst hz;have hmt : ((m : Int) != 1) = true := by simp; omega
    go_wp2_with fail;go_ret;exact ⟨rfl,HF.out⟩
theorem Qpg (l : Bs) (w : World) (hl : l.length ≤ 1000000) (z : Nat) (hz : headD l = z) : Calls Tryz.prog 47 #[strV l] w fun e w' => e = .returned (.int .i64 (z : Int)) ∧ Fr w w' (fun _ => False) := by
 have HF := Xi (QgW l _ 3 3 QnO _ (Qc7 w 9 (0,0) (QnO.map strV)) (by omega) hl (by decide) z hz);clear hz;go_enter func47,ntmps47;go_wp2_with fail;refine HF.out.mono ?_;rintro e w2 ⟨rfl,hf⟩;have HF2 := Xi (Qci _ hf);clear hf;go_wp2_with fail;go_ret;exact ⟨rfl,HF2.out⟩
theorem QkG (w : World) : Calls Tryz.prog 113 #[] w fun e w' => ∃ A,e = .returned (.slice A 12 12) ∧ Rd w' 1 A 12 (Qfr.map strV) ∧ Fr w w' (fun _ => False) := by
 have HR := Xi (Qc7 w 9 (0,0) (Qfr.map strV));go_enter func113,ntmps113;go_wp2_with fail;go_ret;exact ⟨_,rfl,HR.out,Fr.new _ _ _⟩
theorem Qnv (l : Bs) (w : World) (hl : l.length ≤ 1000000) (z : Nat) (hz : Qcw l = z) : Calls Tryz.prog 78 #[strV l] w fun e w' => e = .returned (.int .i64 (z : Int)) ∧ Fr w w' (fun _ => False) := by
 have HM := Xi (QkG w);have HZ := Xi hz;clear hz;go_enter func78,ntmps78;go_wp2_with fail;refine HM.out.mono ?_;rintro e w2 ⟨A,rfl,hr,hf⟩;have HF2 := Xi hf;have HF := Xi (QgW l A 12 12 Qfr w2 hr (by omega) hl (by decide) z HZ.out);clear hf hr;go_wp2_with fail;refine HF.out.mono ?_;rintro e w3 ⟨rfl,hf⟩;have HF3 := Xf HF2 hf;clear hf;go_wp2_with fail;go_ret;exact ⟨rfl,HF3.out⟩
end Go.Proofs.YtodcnbejnchmhaaGreatDoor.S8
