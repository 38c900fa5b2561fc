import Derived.Test.YtodcnbejnchmhaaGreatDoorYc20
import Derived.Test.YtodcnbejnchmhaaGreatDoorYc21
set_option maxRecDepth 100000
set_option maxHeartbeats 4000000
namespace Go.Proofs.YtodcnbejnchmhaaGreatDoor.S6
open _root_.Go.Proofs.Tryz
open Go.RowKit Go.Mem Go.Esc Go.Sort

/-- the value of the first k digits -/
def QcO (ds : Bs) (k : Nat) : Nat := valD (ds.take k)
theorem QiD {t : ByteArray} {ds : Bs} (h : t.data.toList = ds) {k : Nat} (hk : k < t.size) : QcO ds (k + 1) = QcO ds k * 10 + (t[k].toNat - 48) := by
 rw [QcO,QcO,← h,QmG hk,valD,QdU];simp [accD]
theorem QiE (ds : Bs) (k : Nat) : QcO ds k ≤ valD ds := by
 have := QdU 0 (ds.take k) (ds.drop k);rw [List.take_append_drop] at this;show accD 0 (ds.take k) ≤ accD 0 ds;rw [this];exact QlL _ _
theorem QkU {ds : Bs} {k : Nat} (h : ds.length ≤ k) : QcO ds k = valD ds := by rw [QcO,List.take_of_length_le h]
/-- what ref's second loop tests -/
theorem QiH (v d : Int) (_h0 : 0 ≤ v) (hd : 0 ≤ d) (hd9 : d ≤ 9) : (-v < (-9223372036854775808 + d).tdiv 10) ↔ 9223372036854775808 < v * 10 + d := by
 have e : (-9223372036854775808 + d).tdiv 10 = -((9223372036854775808 - d) / 10) := by
  have := Int.neg_tdiv (a := 9223372036854775808 - d) (b := 10);rw [show -(9223372036854775808 - d) = -9223372036854775808 + d by omega] at this;rw [this,Int.tdiv_eq_ediv_of_nonneg (by omega)]
 rw [e];omega
theorem Qih {c : UInt8} {r : Bs} (h : (c :: r).all digB = true) (h48 : c ≠ 48) (hl : 20 ≤ (c :: r).length) : 9223372036854775808 < valD (c :: r) := by
 have key : ∀ (r : Bs) (a : Nat),a * 10 ^ r.length ≤ accD a r := by
  intro r
  induction r with
  | nil => intro a; simp [accD]
  | cons x r ih =>
   intro a;rw [Qen,List.length_cons,Nat.pow_succ];have := ih (a * 10 + (x.toNat - 48));have h2 : a * (10 ^ r.length * 10) ≤ (a * 10 + (x.toNat - 48)) * 10 ^ r.length := by
    rw [Nat.add_mul,Nat.mul_comm (10 ^ r.length) 10,← Nat.mul_assoc];exact Nat.le_add_right _ _
   omega
 have hc : digB c = true := by simp only [List.all_cons,Bool.and_eq_true] at h; exact h.1
 have hpos := QiQ hc h48;have h1 := key r (0 * 10 + (c.toNat - 48));rw [valD,Qen];simp at hl;have h2 : 10 ^ 19 ≤ 10 ^ r.length := Nat.pow_le_pow_right (by omega) hl;have h3 : 1 * 10 ^ r.length ≤ (0 * 10 + (c.toNat - 48)) * 10 ^ r.length := Nat.mul_le_mul_right _ (by omega);have h4 : (10 : Nat) ^ 19 = 10000000000000000000 := by decide
 omega

theorem Qiz (s : ByteArray) (ds : Bs) (w : World) (hs : s.data.toList = 45 :: ds) (hz : ds.length ≤ 999980) (P : Int × Int) (hP : Qa3 (45 :: ds) = P) :
  Calls Tryz.prog 112 #[.string s] w fun e w' => e = .returned (.tuple #[.int .i64 P.1,.int .i64 P.2]) ∧ w = w' := by
 have hsz : s.size = ds.length + 1 := by rw [← Qag,hs]; rfl
 obtain ⟨h0,hs0⟩ := QiL hs;have e45 : ((s[0].toNat : Int) == 45) = true := by rw [hs0]; rfl
 have HREST := Xi (Qix (s := s) (a := 1) (l := ds) (by rw [hs]; rfl));have hp0 : (1 : Int) ≤ (s.size : Int) := by omega
 have hp1 : s.size ≤ 999990 := by omega
 have hPe : ∀ b : Bool,QbY (45 :: ds) = b → P = if b = true then (if Go.Esc.QaB (numV (45 :: ds)) then (numV (45 :: ds),0) else (0,2)) else (0,3) := fun b hb => by rw [← hP,Qa3,hb]
 have HPE := Xi hPe;have HWB := Xi (show QbY (45 :: ds) = (!ds.isEmpty && ds.head? != some 48 && ds.all digB) by simp [QbY,Qdq]);clear hs0 hs hsz hPe hP;go_enter func112,ntmps112
 go_upto_if 19 with (fail)
 go_cut [4] (fun v4 wx => ∃ t : ByteArray,v4 = .string t ∧ t.data.toList = ds ∧ w = wx)
 case first =>
  go_wp2_with fail
  go_meet
  exact ⟨_,rfl,by rw [HREST.out],rfl⟩
 case rest =>
  obtain ⟨t,rfl,ht,rfl⟩ := hcut;have htz : t.size = ds.length := by rw [← Qag,ht]
  have hsz3 : t.size ≤ 999990 := by omega
  have HT := Xi ht;have HTZ := Xi htz;clear ht htz e45 hp0 hp1 HREST;by_cases ht0 : t.size = 0
  ·have e24 : ((t.size : Int) == 0) = true := beq_iff_eq.2 (by omega);have hd0 : ds = [] := List.length_eq_zero_iff.1 (by rw [← HTZ.out]; exact ht0);have HPP := Xi (show P = (0,3) from (HPE.out false (by rw [HWB.out,hd0]; rfl)));clear ht0 hd0;go_wp2_with fail
   go_ret2
   exact ⟨by rw [HPP.out]; rfl,rfl⟩
  ·have ht1 : 0 < t.size := by omega
   have e24 : ((t.size : Int) == 0) = false := beq_eq_false_iff_ne.2 (by omega);have hhd : t.data.toList.head? = some t[0] := by
    rw [List.head?_eq_getElem?,List.getElem?_eq_getElem (by rw [Qag]; exact ht1)];rfl
   have hemp : ds.isEmpty = false := by
    cases hd : ds with
    | nil => have h2 := HTZ.out; rw [hd,List.length_nil] at h2; omega
    | cons c r => rfl
   rw [HT.out] at hhd;by_cases h48 : t[0] = 48
   ·have e28 : ((t[0].toNat : Int) == 48) = true := by rw [h48]; rfl
    have HPP := Xi (show P = (0,3) from (HPE.out false (by rw [HWB.out,hhd,h48,hemp]; rfl)));clear h48 ht0 hhd hemp;go_wp2_with fail
    all_goals
     go_ret2
     exact ⟨by rw [HPP.out]; rfl,rfl⟩
   ·have e28 : ((t[0].toNat : Int) == 48) = false := Qeq (k := 48) h48 rfl;have hwd : QbY (45 :: ds) = ds.all digB := by rw [HWB.out,hhd,hemp]; simp [h48]
    have HNW := Xi (show ds.all digB = false → P = (0,3) from fun h => HPE.out false (by rw [hwd]; exact h));have HWH := Xi (show ds.all digB = true → (Go.Esc.QaB (-(valD ds : Int)) → P = (-(valD ds : Int),0)) ∧ (¬ Go.Esc.QaB (-(valD ds : Int)) → P = (0,2)) from fun h => by
     have := HPE.out true (by rw [hwd]; exact h);rw [if_pos rfl,Qgm] at this;exact ⟨fun hr => by rw [this,if_pos hr],fun hr => by rw [this,if_neg hr]⟩)
    have HBIG := Xi (show ds.all digB = true → 20 ≤ ds.length → ¬ Go.Esc.QaB (-(valD ds : Int)) from fun h h20 => by
     cases hd : ds with
     | nil => rw [hd] at hemp; cases hemp
     | cons c r =>
      rw [hd] at h h20 hhd;have hc : c ≠ 48 := by simp at hhd; rw [hhd]; exact h48
      have := Qih h hc h20;unfold Go.Esc.QaB;omega)
    have HOV := Xi (show 9223372036854775808 < valD ds → ¬ Go.Esc.QaB (-(valD ds : Int)) from fun h => by unfold Go.Esc.QaB; omega);clear h48 ht0 hhd hemp hwd;go_wp2_with fail
    go_loop [6] (fun v => ∃ k : Nat,k ≤ t.size ∧ v = .int .i64 (k : Int) ∧ ∀ j (h : j < t.size),j < k → digB t[j] = true) (fun v => t.size - (intOf v).toNat)
    case atStart => exact ⟨0,Nat.zero_le _,rfl,fun j _ h => absurd h (by omega)⟩
    case round =>
     obtain ⟨k,hk,rfl,hall⟩ := hrel;have HA := Xi hall;clear hall;by_cases hlt : k < t.size
     ·have HI := Xi (Qep t[k]);have HBAD := Xi (show ¬ (48 ≤ t[k].toNat ∧ t[k].toNat ≤ 57) → P = (0,3) from fun hb => HNW.out (by
       rw [Bool.eq_false_iff];intro e;rw [← HT.out] at e;exact hb ((QaP _).1 (Qdn.2 e k hlt))))
      by_cases p1 : (t[k].toNat : Int) < 48
      ·have HPP := Xi (HBAD.out (fun h => (HI.out.1 h).1 p1));go_wp2_with fail
       go_ret2
       exact ⟨by rw [HPP.out]; rfl,rfl⟩
      ·by_cases p2 : (57 : Int) < (t[k].toNat : Int)
       ·have HPP := Xi (HBAD.out (fun h => (HI.out.1 h).2 p2));go_wp2_with fail
        go_ret2
        exact ⟨by rw [HPP.out]; rfl,rfl⟩
       ·have HY := Xi ((QaP _).2 (HI.out.2 ⟨p1,p2⟩));go_wp2_with fail
        go_round
        case rel => exact ⟨k + 1,by omega,by go_num,fun j h hj => by
         by_cases e : j = k
         ·subst e; exact HY.out
         ·exact HA.out j h (by omega)⟩
        case measure => simp [intOf]; omega
     ·have hall : ds.all digB = true := by
       rw [← HT.out];exact Qdn.1 fun j h => HA.out j h (by omega)
      have HALL := Xi hall;have HOK := Xi (HWH.out hall);clear hall;have hkz : k = t.size := by omega
      subst hkz;by_cases h19 : 19 < t.size
      ·have HPP := Xi (HOK.out.2 (HBIG.out HALL.out (by rw [← HT.out,Qag]; omega)));go_wp2_with fail
       all_goals
        go_ret2
        exact ⟨by rw [HPP.out]; rfl,rfl⟩
      ·have h19' : t.size ≤ 19 := by omega
       clear h19;go_wp2_with fail
       go_loop [7,8] (fun v7 v8 => ∃ k : Nat,k ≤ t.size ∧ v8 = .int .i64 (k : Int) ∧ v7 = .int .i64 (-(QcO ds k : Int)) ∧ QcO ds k ≤ 9223372036854775808) (fun _ v8 => t.size - (intOf v8).toNat)
       case atStart => exact ⟨0,Nat.zero_le _,rfl,by simp [QcO,accD],by simp [QcO,accD]⟩
       case round =>
        obtain ⟨k2,hk2,rfl,rfl,hlim⟩ := hrel;by_cases hlt2 : k2 < t.size
        ·have hdg := (QaP _).1 (HA.out k2 hlt2 hlt2);have hps := QiD HT.out hlt2;have hmo := QiE ds (k2 + 1);obtain ⟨v,hv⟩ : ∃ v,QcO ds k2 = v := ⟨_,rfl⟩;have HVV := Xi hv;rw [hv] at hps hlim;have htest := QiH (v : Int) ((t[k2].toNat : Int) - 48) (by omega) (by omega) (by omega);have d1 : 48 ≤ (t[k2].toNat : Int) := by omega
         have d2 : (t[k2].toNat : Int) ≤ 57 := by omega
         rw [hv];by_cases hover : 9223372036854775808 < (v : Int) * 10 + ((t[k2].toNat : Int) - 48)
         ·have HPP := Xi (HOK.out.2 (HOV.out (by omega)));have hcond := htest.2 hover;clear htest hover hps hmo hv hdg;go_wp2_with fail
          go_ret2
          exact ⟨by rw [HPP.out]; rfl,rfl⟩
         ·have hcond := fun h => hover (htest.1 h);clear htest hmo hv hdg;have HPS := Xi hps;clear hps;go_wp2_with fail
          go_round
          case rel => exact ⟨k2 + 1,by omega,by go_num,by rw [HPS.out]; congr 1; omega,by rw [HPS.out]; omega⟩
          case measure => simp [intOf]; omega
        ·have hkz2 : k2 = t.size := by omega
         subst hkz2;have hpa : QcO ds t.size = valD ds := QkU (by rw [← HT.out,Qag]; omega);rw [hpa] at hlim;have HPP := Xi (HOK.out.1 (by unfold Go.Esc.QaB; omega));rw [hpa];clear hpa;go_wp2_with fail
         go_ret2
         exact ⟨by rw [HPP.out]; rfl,rfl⟩
theorem QhD (t : ByteArray) (ds : Bs) (w : World) (hs : t.data.toList = ds) (hz : ds.length ≤ 999980) (h45 : ds.head? ≠ some 45) (P : Int × Int) (hP : Qa3 ds = P) :
  Calls Tryz.prog 112 #[.string t] w fun e w' => e = .returned (.tuple #[.int .i64 P.1,.int .i64 P.2]) ∧ w = w' := by
 have htz : t.size = ds.length := by rw [← Qag,hs]
 have hsz3 : t.size ≤ 999990 := by omega
 have hPe : ∀ b : Bool,QbY ds = b → P = if b = true then (if Go.Esc.QaB (numV ds) then (numV ds,0) else (0,2)) else (0,3) := fun b hb => by rw [← hP,Qa3,hb]
 have HPE := Xi hPe;have HNV := Xi (Qgl h45);have HWB := Xi (show QbY ds = (ds == [48] || (!ds.isEmpty && ds.head? != some 48 && ds.all digB)) by simp only [QbY,Qdq,if_neg h45]);have HT := Xi hs;have HTZ := Xi htz;clear hs htz hPe hP;by_cases ht0 : t.size = 0
 ·have e24 : ((t.size : Int) == 0) = true := beq_iff_eq.2 (by omega);have hd0 : ds = [] := List.length_eq_zero_iff.1 (by rw [← HTZ.out]; exact ht0);have HPP := Xi (show P = (0,3) from (HPE.out false (by rw [HWB.out,hd0]; rfl)));have hnp : ¬ ((0 : Int) < (t.size : Int)) := by omega
  clear ht0 hd0 h45;go_enter func112,ntmps112;go_wp2_with fail
  go_ret2
  exact ⟨by rw [HPP.out]; rfl,rfl⟩
 ·have ht1 : 0 < t.size := by omega
  have hp1 : (0 : Int) < (t.size : Int) := by omega
  have e24 : ((t.size : Int) == 0) = false := beq_eq_false_iff_ne.2 (by omega);have hhd : t.data.toList.head? = some t[0] := by
   rw [List.head?_eq_getElem?,List.getElem?_eq_getElem (by rw [Qag]; exact ht1)];rfl
  have hemp : ds.isEmpty = false := by
   cases hd : ds with
   | nil => have h2 := HTZ.out; rw [hd,List.length_nil] at h2; omega
   | cons c r => rfl
  rw [HT.out] at hhd;have e45 : ((t[0].toNat : Int) == 45) = false := Qeq (k := 45) (fun e => h45 (by rw [hhd,e])) rfl;have HHD := Xi hhd;have HEM := Xi hemp;clear h45 hhd hemp;by_cases hbad : t[0] = 48 ∧ 1 < t.size
  ·obtain ⟨h48,h1t⟩ := hbad;have e28 : ((t[0].toNat : Int) == 48) = true := by rw [h48]; rfl
   have h1t' : (1 : Int) < (t.size : Int) := by omega
   have HPP := Xi (show P = (0,3) from (HPE.out false (by
    rw [HWB.out,HHD.out,h48,HEM.out];have : (ds == [48]) = false := by
     rw [beq_eq_false_iff_ne];intro e;have h2 := HTZ.out;rw [e] at h2;simp at h2;omega
    rw [this];rfl)))
   clear h48 ht0;go_enter func112,ntmps112;go_wp2_with fail
   go_ret2
   exact ⟨by rw [HPP.out]; rfl,rfl⟩
  ·have hwd : QbY ds = ds.all digB := by
    rw [HWB.out,HHD.out,HEM.out];by_cases h48 : t[0] = 48
    ·have h1 : t.size = 1 := by
      have : ¬ 1 < t.size := fun h => hbad ⟨h48,h⟩;omega
     have hd : ds = [48] := by
      have h2 := HTZ.out;rw [h1] at h2;have h3 := HHD.out;rw [h48] at h3
      match ds,h2,h3 with
      | [c],_,h3 => simp at h3; rw [h3]
     rw [hd];rfl
    ·have : (ds == [48]) = false := by
      rw [beq_eq_false_iff_ne];intro e;have h3 := HHD.out;rw [e] at h3;exact h48 (by simpa using h3.symm)
     rw [this];simp [h48]
   have HNW := Xi (show ds.all digB = false → P = (0,3) from fun h => HPE.out false (by rw [hwd]; exact h));have HWH := Xi (show ds.all digB = true → (Go.Esc.QaB (valD ds : Int) → P = ((valD ds : Int),0)) ∧ (¬ Go.Esc.QaB (valD ds : Int) → P = (0,2)) from fun h => by
    have := HPE.out true (by rw [hwd]; exact h);rw [if_pos rfl,HNV.out] at this;exact ⟨fun hr => by rw [this,if_pos hr],fun hr => by rw [this,if_neg hr]⟩)
   have HBIG := Xi (show ds.all digB = true → 20 ≤ ds.length → ¬ Go.Esc.QaB (valD ds : Int) from fun h h20 => by
    have hc48 : t[0] ≠ 48 := fun e => hbad ⟨e,by have := HTZ.out; omega⟩;have h3 := HHD.out;cases hd : ds with
    | nil => rw [hd] at h3; cases h3
    | cons c r =>
     rw [hd] at h h20 h3;have hc : c ≠ 48 := by simp at h3; rw [h3]; exact hc48
     have := Qih h hc h20;unfold Go.Esc.QaB;omega)
   have HOV := Xi (show 9223372036854775808 < valD ds → ¬ Go.Esc.QaB (valD ds : Int) from fun h => by unfold Go.Esc.QaB; omega);clear hwd ht0;by_cases h48 : t[0] = 48
   ·have e28 : ((t[0].toNat : Int) == 48) = true := by rw [h48]; rfl
    have h1t : ¬ ((1 : Int) < (t.size : Int)) := fun h => hbad ⟨h48,by omega⟩;clear h48 hbad;go_enter func112,ntmps112;go_wp2_with fail
    go_loop [6] (fun v => ∃ k : Nat,k ≤ t.size ∧ v = .int .i64 (k : Int) ∧ ∀ j (h : j < t.size),j < k → digB t[j] = true) (fun v => t.size - (intOf v).toNat)
    case atStart => exact ⟨0,Nat.zero_le _,rfl,fun j _ h => absurd h (by omega)⟩
    case round =>
     obtain ⟨k,hk,rfl,hall⟩ := hrel;have HA := Xi hall;clear hall;by_cases hlt : k < t.size
     ·have HI := Xi (Qep t[k]);have HBAD := Xi (show ¬ (48 ≤ t[k].toNat ∧ t[k].toNat ≤ 57) → P = (0,3) from fun hb => HNW.out (by
       rw [Bool.eq_false_iff];intro e;rw [← HT.out] at e;exact hb ((QaP _).1 (Qdn.2 e k hlt))))
      by_cases p1 : (t[k].toNat : Int) < 48
      ·have HPP := Xi (HBAD.out (fun h => (HI.out.1 h).1 p1));go_wp2_with fail
       go_ret2
       exact ⟨by rw [HPP.out]; rfl,rfl⟩
      ·by_cases p2 : (57 : Int) < (t[k].toNat : Int)
       ·have HPP := Xi (HBAD.out (fun h => (HI.out.1 h).2 p2));go_wp2_with fail
        go_ret2
        exact ⟨by rw [HPP.out]; rfl,rfl⟩
       ·have HY := Xi ((QaP _).2 (HI.out.2 ⟨p1,p2⟩));go_wp2_with fail
        go_round
        case rel => exact ⟨k + 1,by omega,by go_num,fun j h hj => by
         by_cases e : j = k
         ·subst e; exact HY.out
         ·exact HA.out j h (by omega)⟩
        case measure => simp [intOf]; omega
     ·have hall : ds.all digB = true := by
       rw [← HT.out];exact Qdn.1 fun j h => HA.out j h (by omega)
      have HALL := Xi hall;have HOK := Xi (HWH.out hall);clear hall;have hkz : k = t.size := by omega
      subst hkz;by_cases h19 : 19 < t.size
      ·have HPP := Xi (HOK.out.2 (HBIG.out HALL.out (by rw [← HT.out,Qag]; omega)));go_wp2_with fail
       all_goals
        go_ret2
        exact ⟨by rw [HPP.out]; rfl,rfl⟩
      ·have h19' : t.size ≤ 19 := by omega
       clear h19;go_wp2_with fail
       go_loop [7,8] (fun v7 v8 => ∃ k : Nat,k ≤ t.size ∧ v8 = .int .i64 (k : Int) ∧ v7 = .int .i64 (-(QcO ds k : Int)) ∧ QcO ds k ≤ 9223372036854775808) (fun _ v8 => t.size - (intOf v8).toNat)
       case atStart => exact ⟨0,Nat.zero_le _,rfl,by simp [QcO,accD],by simp [QcO,accD]⟩
       case round =>
        obtain ⟨k2,hk2,rfl,rfl,hlim⟩ := hrel;by_cases hlt2 : k2 < t.size
        ·have hdg := (QaP _).1 (HA.out k2 hlt2 hlt2);have hps := QiD HT.out hlt2;have hmo := QiE ds (k2 + 1);obtain ⟨v,hv⟩ : ∃ v,QcO ds k2 = v := ⟨_,rfl⟩;have HVV := Xi hv;rw [hv] at hps hlim;have htest := QiH (v : Int) ((t[k2].toNat : Int) - 48) (by omega) (by omega) (by omega);have d1 : 48 ≤ (t[k2].toNat : Int) := by omega
         have d2 : (t[k2].toNat : Int) ≤ 57 := by omega
         rw [hv];by_cases hover : 9223372036854775808 < (v : Int) * 10 + ((t[k2].toNat : Int) - 48)
         ·have HPP := Xi (HOK.out.2 (HOV.out (by omega)));have hcond := htest.2 hover;clear htest hover hps hmo hv hdg;go_wp2_with fail
          go_ret2
          exact ⟨by rw [HPP.out]; rfl,rfl⟩
         ·have hcond := fun h => hover (htest.1 h);clear htest hmo hv hdg;have HPS := Xi hps;clear hps;go_wp2_with fail
          go_round
          case rel => exact ⟨k2 + 1,by omega,by go_num,by rw [HPS.out]; congr 1; omega,by rw [HPS.out]; omega⟩
          case measure => simp [intOf]; omega
        ·have hkz2 : k2 = t.size := by omega
         subst hkz2;have hpa : QcO ds t.size = valD ds := QkU (by rw [← HT.out,Qag]; omega);rw [hpa] at hlim;have HPA := Xi hpa;rw [hpa];clear hpa;obtain ⟨v,hv⟩ : ∃ v,valD ds = v := ⟨_,rfl⟩;rw [hv] at hlim HOK;rw [hv];clear hv;by_cases hbig : v ≤ 9223372036854775807
         ·have HPP := Xi (HOK.out.1 (by unfold Go.Esc.QaB; omega));have hb' : ¬ (-(v : Int) < -9223372036854775807) := by omega
          go_wp2_with fail
          go_ret2
          exact ⟨by rw [HPP.out]; simp,rfl⟩
         ·have HPP := Xi (HOK.out.2 (by unfold Go.Esc.QaB; omega));have hb' : (-(v : Int) < -9223372036854775807) := by omega
          go_wp2_with fail
          go_ret2
          exact ⟨by rw [HPP.out]; rfl,rfl⟩
   ·have e28 : ((t[0].toNat : Int) == 48) = false := Qeq (k := 48) h48 rfl;clear h48 hbad;go_enter func112,ntmps112;go_wp2_with fail
    go_loop [6] (fun v => ∃ k : Nat,k ≤ t.size ∧ v = .int .i64 (k : Int) ∧ ∀ j (h : j < t.size),j < k → digB t[j] = true) (fun v => t.size - (intOf v).toNat)
    case atStart => exact ⟨0,Nat.zero_le _,rfl,fun j _ h => absurd h (by omega)⟩
    case round =>
     obtain ⟨k,hk,rfl,hall⟩ := hrel;have HA := Xi hall;clear hall;by_cases hlt : k < t.size
     ·have HI := Xi (Qep t[k]);have HBAD := Xi (show ¬ (48 ≤ t[k].toNat ∧ t[k].toNat ≤ 57) → P = (0,3) from fun hb => HNW.out (by
       rw [Bool.eq_false_iff];intro e;rw [← HT.out] at e;exact hb ((QaP _).1 (Qdn.2 e k hlt))))
      by_cases p1 : (t[k].toNat : Int) < 48
      ·have HPP := Xi (HBAD.out (fun h => (HI.out.1 h).1 p1));go_wp2_with fail
       go_ret2
       exact ⟨by rw [HPP.out]; rfl,rfl⟩
      ·by_cases p2 : (57 : Int) < (t[k].toNat : Int)
       ·have HPP := Xi (HBAD.out (fun h => (HI.out.1 h).2 p2));go_wp2_with fail
        go_ret2
        exact ⟨by rw [HPP.out]; rfl,rfl⟩
       ·have HY := Xi ((QaP _).2 (HI.out.2 ⟨p1,p2⟩));go_wp2_with fail
        go_round
        case rel => exact ⟨k + 1,by omega,by go_num,fun j h hj => by
         by_cases e : j = k
         ·subst e; exact HY.out
         ·exact HA.out j h (by omega)⟩
        case measure => simp [intOf]; omega
     ·have hall : ds.all digB = true := by
       rw [← HT.out];exact Qdn.1 fun j h => HA.out j h (by omega)
      have HALL := Xi hall;have HOK := Xi (HWH.out hall);clear hall;have hkz : k = t.size := by omega
      subst hkz;by_cases h19 : 19 < t.size
      ·have HPP := Xi (HOK.out.2 (HBIG.out HALL.out (by rw [← HT.out,Qag]; omega)));go_wp2_with fail
       all_goals
        go_ret2
        exact ⟨by rw [HPP.out]; rfl,rfl⟩
      ·have h19' : t.size ≤ 19 := by omega
       clear h19;go_wp2_with fail
       go_loop [7,8] (fun v7 v8 => ∃ k : Nat,k ≤ t.size ∧ v8 = .int .i64 (k : Int) ∧ v7 = .int .i64 (-(QcO ds k : Int)) ∧ QcO ds k ≤ 9223372036854775808) (fun _ v8 => t.size - (intOf v8).toNat)
       case atStart => exact ⟨0,Nat.zero_le _,rfl,by simp [QcO,accD],by simp [QcO,accD]⟩
       case round =>
        obtain ⟨k2,hk2,rfl,rfl,hlim⟩ := hrel;by_cases hlt2 : k2 < t.size
        ·have hdg := (QaP _).1 (HA.out k2 hlt2 hlt2);have hps := QiD HT.out hlt2;have hmo := QiE ds (k2 + 1);obtain ⟨v,hv⟩ : ∃ v,QcO ds k2 = v := ⟨_,rfl⟩;have HVV := Xi hv;rw [hv] at hps hlim;have htest := QiH (v : Int) ((t[k2].toNat : Int) - 48) (by omega) (by omega) (by omega);have d1 : 48 ≤ (t[k2].toNat : Int) := by omega
         have d2 : (t[k2].toNat : Int) ≤ 57 := by omega
         rw [hv];by_cases hover : 9223372036854775808 < (v : Int) * 10 + ((t[k2].toNat : Int) - 48)
         ·have HPP := Xi (HOK.out.2 (HOV.out (by omega)));have hcond := htest.2 hover;clear htest hover hps hmo hv hdg;go_wp2_with fail
          go_ret2
          exact ⟨by rw [HPP.out]; rfl,rfl⟩
         ·have hcond := fun h => hover (htest.1 h);clear htest hmo hv hdg;have HPS := Xi hps;clear hps;go_wp2_with fail
          go_round
          case rel => exact ⟨k2 + 1,by omega,by go_num,by rw [HPS.out]; congr 1; omega,by rw [HPS.out]; omega⟩
          case measure => simp [intOf]; omega
        ·have hkz2 : k2 = t.size := by omega
         subst hkz2;have hpa : QcO ds t.size = valD ds := QkU (by rw [← HT.out,Qag]; omega);rw [hpa] at hlim;have HPA := Xi hpa;rw [hpa];clear hpa;obtain ⟨v,hv⟩ : ∃ v,valD ds = v := ⟨_,rfl⟩;rw [hv] at hlim HOK;rw [hv];clear hv;by_cases hbig : v ≤ 9223372036854775807
         ·have HPP := Xi (HOK.out.1 (by unfold Go.Esc.QaB; omega));have hb' : ¬ (-(v : Int) < -9223372036854775807) := by omega
          go_wp2_with fail
          go_ret2
          exact ⟨by rw [HPP.out]; simp,rfl⟩
         ·have HPP := Xi (HOK.out.2 (by unfold Go.Esc.QaB; omega));have hb' : (-(v : Int) < -9223372036854775807) := by omega
          go_wp2_with fail
          go_ret2
          exact ⟨by rw [HPP.out]; rfl,rfl⟩
theorem QcU (s : ByteArray) (w : World) (hz : s.size ≤ 999980) :
  Calls Tryz.prog 112 #[.string s] w fun e w' => e = .returned (.tuple #[.int .i64 (Qa3 s.data.toList).1,.int .i64 (Qa3 s.data.toList).2]) ∧ w = w' := by
 by_cases h : s.data.toList.head? = some 45
 ·obtain ⟨ds,hd⟩ : ∃ ds,s.data.toList = 45 :: ds := by
   cases hl : s.data.toList with
   | nil => rw [hl] at h; cases h
   | cons c r => rw [hl] at h; simp at h; exact ⟨r,by rw [h]⟩
  refine Qiz s ds w hd ?_ _ (by rw [hd]);have := Qag s;rw [hd,List.length_cons] at this;omega
 ·exact QhD s _ w rfl (by rw [Qag]; exact hz) h _ rfl
end Go.Proofs.YtodcnbejnchmhaaGreatDoor.S6
namespace Go.Proofs.YtodcnbejnchmhaaGreatDoor.S6
open _root_.Go.Proofs.Tryz
open Go.RowKit Go.Mem Go.Dfm

theorem QcW (k d q : Int) (w : World) : Calls Tryz.prog 116 #[dayV k d q] w fun e w' => e = .returned (.bool (QaL k d q)) ∧ Fr w w' (fun _ => False) := by
 obtain ⟨b,hb⟩ : ∃ b,QaL k d q = b := ⟨_,rfl⟩;have HB := Xi (show b = true ↔ Qce k d q by rw [← hb]; exact QaO);rw [hb];clear hb;go_enter func116,ntmps116;go_wp2_with fail
 all_goals
  go_ret;refine ret_bf ?_ (Fr.new _ _ _);have hb := HB.out;rw [Bool.eq_iff_iff,hb];simp [Qce]
  try (simp only [beq_iff_eq,beq_eq_false_iff_ne,ne_eq] at *; omega)
theorem QaI (s : ByteArray) (hs : s.size ≤ 999980) (w : World) : Calls Tryz.prog 114 #[.string s] w fun e w' => e = .returned (.int .i64 (Qa2 s.data.toList)) ∧ w = w' := by
 have HP := Xi (QcU s w hs);obtain ⟨z,hz⟩ : ∃ z,Qa2 s.data.toList = z := ⟨_,rfl⟩;rw [hz];unfold Qa2 at hz;generalize Go.Esc.Qa3 s.data.toList = P at *;obtain ⟨a,b⟩ := P;simp only at hz HP;by_cases hb : b = 0
 ·subst hb;by_cases h1 : 1 ≤ a
  ·by_cases h2 : a ≤ 31
   ·rw [if_pos ⟨rfl,h1,h2⟩] at hz;subst hz;go_enter func114,ntmps114;go_wp2_with fail;refine HP.out.mono ?_;rintro e w2 ⟨rfl,rfl⟩;go_wp2_with fail;go_ret;exact ⟨rfl,rfl⟩
   ·rw [if_neg (fun x => h2 x.2.2)] at hz;subst hz;go_enter func114,ntmps114;go_wp2_with fail;refine HP.out.mono ?_;rintro e w2 ⟨rfl,rfl⟩;go_wp2_with fail;go_ret;exact ⟨rfl,rfl⟩
  ·rw [if_neg (fun x => h1 x.2.1)] at hz;subst hz;have h3 : a < 1 := by omega
   clear h1;go_enter func114,ntmps114;go_wp2_with fail;refine HP.out.mono ?_;rintro e w2 ⟨rfl,rfl⟩;go_wp2_with fail;go_ret;exact ⟨rfl,rfl⟩
 ·rw [if_neg (fun x => hb x.1)] at hz;subst hz;have h3 : (b == 0) = false := beq_eq_false_iff_ne.2 hb;have h4 : (b != 0) = true := by simp [bne,h3]
  clear hb;go_enter func114,ntmps114;go_wp2_with fail;refine HP.out.mono ?_;rintro e w2 ⟨rfl,rfl⟩;go_wp2_with fail;go_ret;exact ⟨rfl,rfl⟩
end Go.Proofs.YtodcnbejnchmhaaGreatDoor.S6
