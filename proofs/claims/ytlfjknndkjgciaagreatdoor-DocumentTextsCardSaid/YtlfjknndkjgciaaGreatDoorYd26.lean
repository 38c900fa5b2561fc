import Derived.Test.YtlfjknndkjgciaaGreatDoorYd15
import Derived.Test.YtlfjknndkjgciaaGreatDoorYd25
import Derived.Test.YtlfjknndkjgciaaGreatDoorYd16
import Derived.Test.YtlfjknndkjgciaaGreatDoorYd18
set_option maxRecDepth 100000
namespace Go.Proofs.YtlfjknndkjgciaaGreatDoor.S6
open _root_.Go.Proofs.Tryz
open Go.RowKit Go.Mem Go.Dfm

abbrev namesA : Array Value := #[strV [83,117,110],strV [77,111,110],strV [84,117,101],strV [87,101,100],strV [84,104,117],strV [70,114,105],strV [83,97,116]]
/-- the slice at b holds the names of days -/
def Qqb (w : World) (b : Nat) : Prop := Blk w b 9 namesA
theorem Qm7 (w : World) : Calls Tryz.prog 130 #[] w fun e w' => ∃ b,e = .returned (.slice (some ⟨b,0,none⟩) 7 7) ∧ Fr w w' (fun _ => False) ∧ Qqb w' b := by
 go_enter func130,ntmps130;go_wp2_with fail;go_ret;exact ⟨w.heap.size,rfl,Fr.new _ _ _,Blk.made _ _ _⟩
theorem Qk5 {w : World} {b : Nat} (h : Qqb w b) : w.cell? ⟨b,0,none⟩ = some (strV [83,117,110]) ∧ w.cell? ⟨b,1,none⟩ = some (strV [77,111,110]) ∧ w.cell? ⟨b,2,none⟩ = some (strV [84,117,101]) ∧ w.cell? ⟨b,3,none⟩ = some (strV [87,101,100]) ∧ w.cell? ⟨b,4,none⟩ = some (strV [84,104,117]) ∧ w.cell? ⟨b,5,none⟩ = some (strV [70,114,105]) ∧ w.cell? ⟨b,6,none⟩ = some (strV [83,97,116]) :=
 ⟨Qaa h 0,Qaa h 1,Qaa h 2,Qaa h 3,Qaa h 4,Qaa h 5,Qaa h 6⟩
theorem Qoy (l : Bs) (w : World) : Calls Tryz.prog 96 #[strV l] w fun e w' => e = .returned (.int .i64 (Qa8 l)) ∧ Fr w w' (fun _ => False) := by
 have HR := Xi (Qm7 w);obtain ⟨z,hz⟩ : ∃ z,Qa8 l = z := ⟨_,rfl⟩;have HZ := Xi hz;rw [hz];clear hz;go_enter func96,ntmps96;go_wp2_with fail;refine HR.out.mono ?_;rintro e w2 ⟨b,rfl,hf2,hb⟩;have HF2 := Xi hf2;obtain ⟨c0,c1,c2,c3,c4,c5,c6⟩ := Qk5 hb;clear hf2 hb HR;go_wp2_with fail
 go_loop [4] (fun v4 => ∃ k : Int,0 ≤ k ∧ k ≤ 7 ∧ v4 = .int .i64 k ∧ ∀ j : Nat,(j : Int) < k → QeO.getD j [] ≠ l) (fun v4 => 7 - (intOf v4).toNat)
 case atStart => exact ⟨0,by omega,by omega,rfl,fun j h => absurd h (by omega)⟩
 case round =>
  obtain ⟨k,hk0,hk,rfl,hall⟩ := hrel;have HA := Xi hall;clear hall;have hk7 : k = 0 ∨ k = 1 ∨ k = 2 ∨ k = 3 ∨ k = 4 ∨ k = 5 ∨ k = 6 ∨ k = 7 := by omega
  clear hk hk0;rcases hk7 with rfl | rfl | rfl | rfl | rfl | rfl | rfl | rfl
  ·by_cases h : [83,117,110] = l
   ·have hz : z = 0 := by rw [← HZ.out,← h]; rfl
    subst hz h;go_wp2_with fail;go_ret;exact ⟨rfl,HF2.out⟩
   ·have h1 : (([83,117,110] : Bs) == l) = false := beq_eq_false_iff_ne.2 h;have HN := Xi h;clear h;go_wp2_with fail
    go_round
    case rel => exact ⟨1,by omega,by omega,by rfl,fun j hj => by
     by_cases e : j = 0
     ·subst e; exact HN.out
     ·exact HA.out j (by omega)⟩
    case measure => simp [intOf]
  ·by_cases h : [77,111,110] = l
   ·have hz : z = 1 := by rw [← HZ.out,← h]; rfl
    subst hz h;go_wp2_with fail;go_ret;exact ⟨rfl,HF2.out⟩
   ·have h1 : (([77,111,110] : Bs) == l) = false := beq_eq_false_iff_ne.2 h;have HN := Xi h;clear h;go_wp2_with fail
    go_round
    case rel => exact ⟨2,by omega,by omega,by rfl,fun j hj => by
     by_cases e : j = 1
     ·subst e; exact HN.out
     ·exact HA.out j (by omega)⟩
    case measure => simp [intOf]
  ·by_cases h : [84,117,101] = l
   ·have hz : z = 2 := by rw [← HZ.out,← h]; rfl
    subst hz h;go_wp2_with fail;go_ret;exact ⟨rfl,HF2.out⟩
   ·have h1 : (([84,117,101] : Bs) == l) = false := beq_eq_false_iff_ne.2 h;have HN := Xi h;clear h;go_wp2_with fail
    go_round
    case rel => exact ⟨3,by omega,by omega,by rfl,fun j hj => by
     by_cases e : j = 2
     ·subst e; exact HN.out
     ·exact HA.out j (by omega)⟩
    case measure => simp [intOf]
  ·by_cases h : [87,101,100] = l
   ·have hz : z = 3 := by rw [← HZ.out,← h]; rfl
    subst hz h;go_wp2_with fail;go_ret;exact ⟨rfl,HF2.out⟩
   ·have h1 : (([87,101,100] : Bs) == l) = false := beq_eq_false_iff_ne.2 h;have HN := Xi h;clear h;go_wp2_with fail
    go_round
    case rel => exact ⟨4,by omega,by omega,by rfl,fun j hj => by
     by_cases e : j = 3
     ·subst e; exact HN.out
     ·exact HA.out j (by omega)⟩
    case measure => simp [intOf]
  ·by_cases h : [84,104,117] = l
   ·have hz : z = 4 := by rw [← HZ.out,← h]; rfl
    subst hz h;go_wp2_with fail;go_ret;exact ⟨rfl,HF2.out⟩
   ·have h1 : (([84,104,117] : Bs) == l) = false := beq_eq_false_iff_ne.2 h;have HN := Xi h;clear h;go_wp2_with fail
    go_round
    case rel => exact ⟨5,by omega,by omega,by rfl,fun j hj => by
     by_cases e : j = 4
     ·subst e; exact HN.out
     ·exact HA.out j (by omega)⟩
    case measure => simp [intOf]
  ·by_cases h : [70,114,105] = l
   ·have hz : z = 5 := by rw [← HZ.out,← h]; rfl
    subst hz h;go_wp2_with fail;go_ret;exact ⟨rfl,HF2.out⟩
   ·have h1 : (([70,114,105] : Bs) == l) = false := beq_eq_false_iff_ne.2 h;have HN := Xi h;clear h;go_wp2_with fail
    go_round
    case rel => exact ⟨6,by omega,by omega,by rfl,fun j hj => by
     by_cases e : j = 5
     ·subst e; exact HN.out
     ·exact HA.out j (by omega)⟩
    case measure => simp [intOf]
  ·by_cases h : [83,97,116] = l
   ·have hz : z = 6 := by rw [← HZ.out,← h]; rfl
    subst hz h;go_wp2_with fail;go_ret;exact ⟨rfl,HF2.out⟩
   ·have h1 : (([83,97,116] : Bs) == l) = false := beq_eq_false_iff_ne.2 h;have HN := Xi h;clear h;go_wp2_with fail
    go_round
    case rel => exact ⟨7,by omega,by omega,by rfl,fun j hj => by
     by_cases e : j = 6
     ·subst e; exact HN.out
     ·exact HA.out j (by omega)⟩
    case measure => simp [intOf]
  ·have hz : z = -1 := Qjo HZ.out (fun j hj => HA.out j (by omega));subst hz;go_wp2_with fail;go_ret;exact ⟨rfl,HF2.out⟩
theorem Qdl (k d q : Int) (w : World) : Calls Tryz.prog 97 #[dayV k d q] w fun e w' => e = .returned (.bool (QaS k d q)) ∧ Fr w w' (fun _ => False) := by
 obtain ⟨b,hb⟩ : ∃ b,QaS k d q = b := ⟨_,rfl⟩;have HB := Xi (show b = true ↔ Qcv k d q by rw [← hb]; exact QaY);rw [hb];clear hb;go_enter func97,ntmps97;go_wp2_with fail
 all_goals
  go_ret;refine ret_bf ?_ (Fr.new _ _ _);have hb := HB.out;rw [Bool.eq_iff_iff,hb];simp [Qcv]
  try (simp only [beq_iff_eq,beq_eq_false_iff_ne,ne_eq] at *; omega)
theorem QaR (s : ByteArray) (hs : s.size ≤ 999980) (w : World) : Calls Tryz.prog 95 #[.string s] w fun e w' => e = .returned (.int .i64 (Qbh s.data.toList)) ∧ w = w' := by
 have HP := Xi (Qdg s w hs);obtain ⟨z,hz⟩ : ∃ z,Qbh s.data.toList = z := ⟨_,rfl⟩;rw [hz];unfold Qbh at hz;generalize Go.Esc.Qbi s.data.toList = P at *;obtain ⟨a,b⟩ := P;simp only at hz HP;by_cases hb : b = 0
 ·subst hb;by_cases h1 : 1 ≤ a
  ·by_cases h2 : a ≤ 31
   ·rw [if_pos ⟨rfl,h1,h2⟩] at hz;subst hz;go_enter func95,ntmps95;go_wp2_with fail;refine HP.out.mono ?_;rintro e w2 ⟨rfl,rfl⟩;go_wp2_with fail;go_ret;exact ⟨rfl,rfl⟩
   ·rw [if_neg (fun x => h2 x.2.2)] at hz;subst hz;go_enter func95,ntmps95;go_wp2_with fail;refine HP.out.mono ?_;rintro e w2 ⟨rfl,rfl⟩;go_wp2_with fail;go_ret;exact ⟨rfl,rfl⟩
  ·rw [if_neg (fun x => h1 x.2.1)] at hz;subst hz;have h3 : a < 1 := by omega
   clear h1;go_enter func95,ntmps95;go_wp2_with fail;refine HP.out.mono ?_;rintro e w2 ⟨rfl,rfl⟩;go_wp2_with fail;go_ret;exact ⟨rfl,rfl⟩
 ·rw [if_neg (fun x => hb x.1)] at hz;subst hz;have h3 : (b == 0) = false := beq_eq_false_iff_ne.2 hb;have h4 : (b != 0) = true := by simp [bne,h3]
  clear hb;go_enter func95,ntmps95;go_wp2_with fail;refine HP.out.mono ?_;rintro e w2 ⟨rfl,rfl⟩;go_wp2_with fail;go_ret;exact ⟨rfl,rfl⟩
end Go.Proofs.YtlfjknndkjgciaaGreatDoor.S6
namespace Go.Proofs.YtlfjknndkjgciaaGreatDoor.S8
open _root_.Go.Proofs.Tryz
open Go.RowKit Go.Mem Go.Kwd

theorem Qm8 (t : Bs) (i a n : Nat) (w : Bs) (ws : List Bs) : QeH t i a n (w :: ws) =
  if t.length = 0 ∨ w.length < t.length ∨ w.take t.length ≠ t then QeH t (i + 1) a n ws else (if t.length = w.length then i + 1 else QeH t (i + 1) (i + 1) (n + 1) ws) := by
 have hc : (t.isEmpty || !preB t w) = true ↔ (t.length = 0 ∨ w.length < t.length ∨ w.take t.length ≠ t) := by
  have h0 : t.isEmpty = true ↔ t.length = 0 := by cases t <;> simp
  have h2 : (!preB t w) = true ↔ (w.length < t.length ∨ w.take t.length ≠ t) := by
   rw [Bool.not_eq_true',Bool.eq_false_iff,ne_eq,QoW];constructor
   ·exact fun h => .inr h
   ·rintro (h | h) e
    ·have := congrArg List.length e;rw [List.length_take] at this;omega
    ·exact h e
  rw [Bool.or_eq_true,h0,h2]
 rw [QeH];by_cases h : (t.isEmpty || !preB t w) = true
 ·rw [if_pos h,if_pos (hc.1 h)]
 ·rw [if_neg h,if_neg (fun x => h (hc.2 x))]
theorem Qpa (a b : ByteArray) : (a.toList == b.toList) = decide (a = b) := by
 rw [Lib.toList_data,Lib.toList_data,Bool.eq_iff_iff,beq_iff_eq,decide_eq_true_iff];constructor
 ·intro h;apply ByteArray.ext;exact Array.toList_inj.1 h
 ·intro h; rw [h]
theorem Qhj (l : Bs) (A : Option Addr) (n c : Nat) (ws : List Bs) (w : World) (hr : Rd w 1 A n (ws.map strV)) (hn : n ≤ 1000) (hl : l.length ≤ 1000000) (hw : ∀ x ∈ ws,x.length ≤ 1000000) (z : Nat) (hz : Qh0 l ws = z) :
  Calls Tryz.prog 66 #[strV l,.slice A n c] w fun e w' => e = .returned (.int .i64 (z : Int)) ∧ Fr w w' (fun _ => False) := by
 have HR := Xi hr;have HL := Xi (QlS hr);have HW := Xi hw;have HS := Xi (Qm4 l w hl);have htl := QdW l;unfold Qh0 at hz;obtain ⟨t,ht⟩ : ∃ t,Qcr l = t := ⟨_,rfl⟩;rw [ht] at hz htl HS;have HZ := Xi hz;obtain ⟨T,hT⟩ : ∃ T : ByteArray,T = ⟨t.toArray⟩ := ⟨_,rfl⟩;have hts : T.size = t.length := by rw [hT]; exact Qaw t
 rw [show strV t = .string T by rw [hT]] at HS;have HTS := Xi hts;have HT := Xi hT;have ht6 : T.size ≤ 1000000 := by omega
 clear hr hz hw ht htl hts hT;go_enter func66,ntmps66;go_wp2_with fail;refine HS.out.mono ?_;rintro e w2 ⟨rfl,hf2⟩;have HF2 := Xi hf2;clear hf2;go_wp2_with fail
 go_loopg [5,6,7] n (fun g v5 v6 v7 wr => ∃ k a m : Nat,k + g = n ∧ v7 = .int .i64 (k : Int) ∧ v5 = .int .i64 (a : Int) ∧ v6 = .int .i64 (m : Int) ∧ a ≤ k ∧ m ≤ k ∧ QeH t k a m (ws.drop k) = z ∧ Fr w wr (fun _ => False))
 case atStart => exact ⟨0,0,0,by omega,rfl,rfl,rfl,by omega,by omega,HZ.out,HF2.out⟩
 case round =>
  obtain ⟨k,a,m,hk,rfl,rfl,rfl,ha,hm,hfd,hf⟩ := hrel;have HF := Xi hf;have HR2 := Xi (Qkl HR.out hf);have HFD := Xi hfd;clear hf hfd;by_cases hlt : k < n
  ·obtain ⟨b,o,x,rfl,hx,hc⟩ := QdM HR2.out hlt;have hxl : x.length ≤ 1000000 := HW.out x (List.mem_of_getElem? hx);obtain ⟨X,hX⟩ : ∃ X : ByteArray,X = ⟨x.toArray⟩ := ⟨_,rfl⟩;have hxs : X.size = x.length := by rw [hX]; exact Qaw x
   rw [show strV x = .string X by rw [hX]] at hc;have HXS := Xi hxs;have hx6 : X.size ≤ 1000000 := by omega
   have HTX := Xi (show x.take t.length = t ↔ X.extract 0 T.size = T by
    rw [hX,HTS.out,ext_take,HT.out];constructor
    ·intro h; rw [h]
    ·intro h;have := congrArg (fun b : ByteArray => b.data.toList) h;simpa using this)
   clear hxs hX hxl;have h1 : (k : Int) < (n : Int) := by omega
   have h2 : (0 : Int) ≤ (k : Int) := by omega
   have hstep := Qm8 t k a m x (ws.drop (k + 1));rw [← QpP hx,HFD.out] at hstep;clear hx;by_cases t0 : t.length = 0
   ·rw [if_pos (.inl t0)] at hstep;have HST := Xi hstep;have e1 : ((T.size : Int) == 0) = true := beq_iff_eq.2 (by have := HTS.out; omega);clear hstep t0;go_wp2_with fail
    go_roundg (n - (k + 1))
    case measure => omega
    case rel => exact ⟨k + 1,a,m,by omega,by go_num,rfl,rfl,by omega,by omega,HST.out.symm,HF.out⟩
   ·have e1 : ((T.size : Int) == 0) = false := beq_eq_false_iff_ne.2 (by have := HTS.out; omega);by_cases t1 : x.length < t.length
    ·rw [if_pos (.inr (.inl t1))] at hstep;have HST := Xi hstep;have e2 : (X.size : Int) < (T.size : Int) := by have := HTS.out; have := HXS.out; omega
     clear hstep t0 t1;go_wp2_with fail
     go_roundg (n - (k + 1))
     case measure => omega
     case rel => exact ⟨k + 1,a,m,by omega,by go_num,rfl,rfl,by omega,by omega,HST.out.symm,HF.out⟩
    ·have e2 : (T.size : Int) ≤ (X.size : Int) := by have := HTS.out; have := HXS.out; omega
     have e3 : (0 : Int) ≤ (T.size : Int) := by omega
     by_cases t2 : X.extract 0 T.size = T
     ·have hcond : ¬ (t.length = 0 ∨ x.length < t.length ∨ x.take t.length ≠ t) := by
       rintro (h | h | h)
       ·exact t0 h
       ·exact t1 h
       ·exact h (HTX.out.2 t2)
      rw [if_neg hcond] at hstep;have e4 : ((X.extract 0 T.size).toList == T.toList) = true := by rw [Qpa]; exact decide_eq_true t2
      have e5 : ((X.extract 0 T.size).toList != T.toList) = false := by unfold bne; rw [e4]; rfl
      by_cases he : t.length = x.length
      ·rw [if_pos he] at hstep;have hzk : z = k + 1 := hstep;have het : ((T.size : Int) == (X.size : Int)) = true := beq_iff_eq.2 (by have := HTS.out; have := HXS.out; omega);clear hstep hcond t0 t1 t2 he;subst hzk;go_wp2_with fail;go_ret;exact ⟨by simp,HF.out⟩
      ·rw [if_neg he] at hstep;have HST := Xi hstep;have het : ((T.size : Int) == (X.size : Int)) = false := beq_eq_false_iff_ne.2 (by have := HTS.out; have := HXS.out; omega);clear hstep hcond t0 t1 t2 he;go_wp2_with fail
       go_roundg (n - (k + 1))
       case measure => omega
       case rel => exact ⟨k + 1,k + 1,m + 1,by omega,by go_num,by go_num,by go_num,by omega,by omega,HST.out.symm,HF.out⟩
     ·have hcond : t.length = 0 ∨ x.length < t.length ∨ x.take t.length ≠ t := .inr (.inr (fun e => t2 (HTX.out.1 e)));rw [if_pos hcond] at hstep;have HST := Xi hstep;have e4 : ((X.extract 0 T.size).toList == T.toList) = false := by rw [Qpa]; exact decide_eq_false t2
      have e5 : ((X.extract 0 T.size).toList != T.toList) = true := by unfold bne; rw [e4]; rfl
      clear hstep hcond t0 t1 t2;go_wp2_with fail
      go_roundg (n - (k + 1))
      case measure => omega
      case rel => exact ⟨k + 1,a,m,by omega,by go_num,rfl,rfl,by omega,by omega,HST.out.symm,HF.out⟩
  ·have hkn : k = n := by omega
   subst hkn;have hd : ws.drop k = [] := List.drop_eq_nil_of_le (by rw [HL.out]; omega);have hz : (if m = 1 then a else 0) = z := by have := HFD.out; rw [hd] at this; exact this
   by_cases hm1 : m = 1
   ·rw [if_pos hm1] at hz;subst hz hm1;go_wp2_with fail;go_ret;exact ⟨rfl,HF.out⟩
   ·rw [if_neg hm1] at hz;subst hz;have hmt : ((m : Int) != 1) = true := by simp; omega
    go_wp2_with fail;go_ret;exact ⟨rfl,HF.out⟩
theorem QoP (l : Bs) (w : World) (hl : l.length ≤ 1000000) (z : Nat) (hz : headD l = z) : Calls Tryz.prog 48 #[strV l] w fun e w' => e = .returned (.int .i64 (z : Int)) ∧ Fr w w' (fun _ => False) := by
 have HF := Xi (Qhj l _ 3 3 Qnu _ (QdZ w 9 (0,0) (Qnu.map strV)) (by omega) hl (by decide) z hz);clear hz;go_enter func48,ntmps48;go_wp2_with fail;refine HF.out.mono ?_;rintro e w2 ⟨rfl,hf⟩;have HF2 := Xi (Qcx _ hf);clear hf;go_wp2_with fail;go_ret;exact ⟨rfl,HF2.out⟩
theorem QkG (w : World) : Calls Tryz.prog 94 #[] w fun e w' => ∃ A,e = .returned (.slice A 12 12) ∧ Rd w' 1 A 12 (QfY.map strV) ∧ Fr w w' (fun _ => False) := by
 have HR := Xi (QdZ w 9 (0,0) (QfY.map strV));go_enter func94,ntmps94;go_wp2_with fail;go_ret;exact ⟨_,rfl,HR.out,Fr.new _ _ _⟩
theorem Qnf (l : Bs) (w : World) (hl : l.length ≤ 1000000) (z : Nat) (hz : QcI l = z) : Calls Tryz.prog 69 #[strV l] w fun e w' => e = .returned (.int .i64 (z : Int)) ∧ Fr w w' (fun _ => False) := by
 have HM := Xi (QkG w);have HZ := Xi hz;clear hz;go_enter func69,ntmps69;go_wp2_with fail;refine HM.out.mono ?_;rintro e w2 ⟨A,rfl,hr,hf⟩;have HF2 := Xi hf;have HF := Xi (Qhj l A 12 12 QfY w2 hr (by omega) hl (by decide) z HZ.out);clear hf hr;go_wp2_with fail;refine HF.out.mono ?_;rintro e w3 ⟨rfl,hf⟩;have HF3 := Xf HF2 hf;clear hf;go_wp2_with fail;go_ret;exact ⟨rfl,HF3.out⟩
end Go.Proofs.YtlfjknndkjgciaaGreatDoor.S8
