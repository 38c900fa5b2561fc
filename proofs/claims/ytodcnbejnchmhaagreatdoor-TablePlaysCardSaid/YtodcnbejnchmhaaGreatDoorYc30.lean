import Derived.Test.YtodcnbejnchmhaaGreatDoorYc22
import Derived.Defers
import Derived.Recover
import Derived.Test.YtodcnbejnchmhaaGreatDoorYc25
set_option maxHeartbeats 4000000
namespace Go.Proofs.YtodcnbejnchmhaaGreatDoor.S5
open _root_.Go.Proofs.Tryz
open Go.RowKit Go.Mem Go.Clk

theorem Qd2 (q : Nat) (x : Value) (w : World) (hb : Blk w q 26 #[x]) :
  CallsD Tryz.prog 226 #[.pointer (some ⟨q,0,none⟩)] (.panicking [{ v := .iface 26 (.int .i64 7),recovered := false }]) w fun e u' w' =>
   e = .returned (.tuple #[]) ∧ u' = .panicking [{ v := .iface 26 (.int .i64 7),recovered := true }] ∧ w' = w.setCell ⟨q,0,none⟩ (.int .i64 7) := by
 have hc := Qaa hb 0;have hz := Qac hb 0;simp at hc;have hta : ∀ w : World,(Instr.typeAssert (.iface 26 (.int .i64 7)) 20 26 false).run Tryz.prog w = .ok (.int .i64 7) w := fun w => by kernel_rfl
 have hne : ∀ w : World,(binOp .neq 20 (.iface 26 (.int .i64 7)) .nilIface).run Tryz.prog w = .ok (.bool true) w := fun w => by kernel_rfl
 refine callsD_of_wpS func226 rfl fun c₀ cs hu => ?_;apply wpS_seq;apply wpS_region;simp [wpOpsS,go_sem,recoverD,hu,ntmps226,Exit.thenS];apply wpS_seq;apply wpS_region;simp [wpOpsS,go_sem,Exit.thenS,Act.eval,Array.replicate,hne];refine wpS_cond (t := true) (by simp [Act.eval]) ?_;simp only [if_true];apply wpS_region;simp [wpOpsS,go_sem,Act.eval,hta,hc,hz,bodyPostS,results,Tryz.results226]
theorem Qlz (q : Nat) (w : World) :
  CallsD Tryz.prog 226 #[.pointer (some ⟨q,0,none⟩)] .returning w fun e u' w' => e = .returned (.tuple #[]) ∧ u' = .returning ∧ w' = w := by
 have hne : ∀ w : World,(binOp .neq 20 .nilIface .nilIface).run Tryz.prog w = .ok (.bool false) w := fun w => by kernel_rfl
 refine callsD_of_wpS func226 rfl fun c₀ cs hu => ?_;apply wpS_seq;apply wpS_region;simp [wpOpsS,go_sem,recoverD,hu,ntmps226,Exit.thenS];apply wpS_seq;apply wpS_region;simp [wpOpsS,go_sem,Exit.thenS,Act.eval,Array.replicate,hne];refine wpS_cond (t := false) (by simp [Act.eval]) ?_;simp only [Bool.false_eq_true,if_false];refine wpS_of_wp (wp_skip ?_);cases c₀
 simp_all [bodyPostS,results,Tryz.results226]

/-- what read answers of a text -/
def ReadI (g : Option Int) (w : World) (e : Ending) (w' : World) : Prop := Fr w w' (fun _ => False) ∧ match g with
 | none => e = .returned (.tuple #[.int .i64 0,.int .i64 7])
 | some n => e = .returned (.tuple #[.int .i64 n,.int .i64 0])
theorem Qpw (w : World) (l : Bs) (cs : Array Value) (t : TypeId) : Fr w ((w.alloc (.cells cs t)).alloc (.cells #[strV l,.int .i64 0] 262)) (fun _ => False) ∧
  Blk ((w.alloc (.cells cs t)).alloc (.cells #[strV l,.int .i64 0] 262)) w.heap.size t cs ∧
  RdAt ((w.alloc (.cells cs t)).alloc (.cells #[strV l,.int .i64 0] 262)) (w.heap.size + 1) ⟨l.toArray⟩ l := by
 have f1 := Fr.new w (.cells cs t) (fun _ => False);have f2 := Fr.new (w.alloc (.cells cs t)) (.cells #[strV l,.int .i64 0] 262) (fun _ => False);have b1 := Blk.made w t cs;have b2 := Blk.made (w.alloc (.cells cs t)) 262 #[strV l,.int .i64 0];have hsz : (w.alloc (.cells cs t)).heap.size = w.heap.size + 1 := by simp
 rw [hsz] at b2;exact ⟨f1.trans f2 (fun _ _ h => h) (fun _ _ h => h),f2.blk b1 (fun h => h),0,Nat.zero_le _,by simp,b2⟩
theorem QhL {α : Type} {z : α} {f : Bs → Option (α × Bs)} {l : Bs} (h0 : l ≠ [45]) (h : f l = none) : QdX z f l = none := by rw [QdX,if_neg h0,h]
theorem QhK {α : Type} {z : α} {f : Bs → Option (α × Bs)} {l : Bs} {v : α} (h0 : l ≠ [45]) (h : f l = some (v,[])) : QdX z f l = some v := by rw [QdX,if_neg h0,h]; simp
theorem QhM {α : Type} {z : α} {f : Bs → Option (α × Bs)} {l : Bs} {v : α} {r : Bs} (h0 : l ≠ [45]) (h : f l = some (v,r)) (hr : r ≠ []) : QdX z f l = none := by rw [QdX,if_neg h0,h]; simp [hr]
theorem Qpa (l : Bs) (w : World) (hz : l.length ≤ 1000000) :
  Calls Tryz.prog 194 #[strV l,.func (.func 195) #[] #[]] w (ReadI (amtD l) w) := by
 have hmf : ∀ (fn : Fn) (first cap : Array Value) (w : World),(Instr.makeFunc fn first cap).run Tryz.prog w = .ok (.func fn first cap) w := fun _ _ _ _ => rfl;by_cases h0 : l = [45]
 ·subst h0;have hb := Blk.made w 26 #[.int .i64 0];have hc := Qaa hb 0;have hz := Qac hb 0;simp at hc;have HB := Xi hb;clear hb
  go_enter_defers func194,ntmps194
  go_wp2_with fail;have hc := Qaa (HB.out.put 0 (.int .i64 0)) 0;simp at hc;simp [bodyPostD,Leaves,results,Tryz.results194,go_sem];exact ⟨Fr.new _ _ _,rfl⟩
 ·have e0 : (l == [45]) = false := by simpa using h0
  obtain ⟨hf,hk,hr⟩ := Qpw w l #[.int .i64 0] 26;have hzs : (⟨l.toArray⟩ : ByteArray).size ≤ 1000000 := by rw [Qal]; exact hz
  have HQ := Xi (QcI _ _ _ l hr hzs);have HF := Xi hf;have HK := Xi hk;clear hf hk hr;rcases hg : Qdg l with _ | ⟨n,r⟩
  ·rw [show amtD l = none from QhL h0 hg];rw [hg] at HQ;clear hg h0
   go_enter_defers func194,ntmps194
   go_wp2_with fail;refine HQ.out.mono ?_;rintro e w2 ⟨rfl,hf2⟩;have HF2 := Xi hf2;have HK2 := Xo hf2 HK;clear hf2;go_wp2_with fail;refine leaves_cons (f := 226) (args := #[.pointer (some ⟨w.heap.size,0,none⟩)]) (by simp) (by simp [go_sem]) ?_;refine (Qd2 w.heap.size _ _ HK2.out).mono ?_;rintro e u' w3 ⟨rfl,rfl,rfl⟩;have hc := Qaa (HK2.out.put 0 (.int .i64 7)) 0;simp at hc;simp [Leaves,settle,results,Tryz.results194,go_sem,hc];exact ⟨(HF.out.fresh HF2.out (fun i e => by omega)).fresh (Fr.set (S := (· = w.heap.size)) rfl) (fun i e => by omega),rfl⟩
  ·by_cases hr0 : r = []
   ·subst hr0;rw [show amtD l = some n from QhK h0 hg];rw [hg] at HQ;clear hg h0
    go_enter_defers func194,ntmps194
    go_wp2_with fail;refine HQ.out.mono ?_;rintro e w2 ⟨rfl,hr2,hf2⟩;have HF2 := Xi hf2;have HK2 := Xo hf2 HK;have HE := Xi (QmA w2 _ _ hr2 hzs);have f0 := Qac HK2.out 0;have c0 := Qaa HK2.out 0;simp at c0;clear hf2 hr2;go_wp2_with fail;refine HE.out.mono ?_;rintro e w3 ⟨rfl,m,rfl⟩;go_wp2_with fail;refine leaves_cons (f := 226) (args := #[.pointer (some ⟨w.heap.size,0,none⟩)]) (by simp) (by simp [go_sem]) ?_;refine (Qlz w.heap.size _).mono ?_;rintro e u' w3 ⟨rfl,rfl,rfl⟩;have hc := Qaa ((show Blk (w2.drewN m) _ _ _ from HK2.out).put 0 (.int .i64 0)) 0;simp at hc;simp [Leaves,settle,results,Tryz.results194,go_sem,hc];exact ⟨(fd (HF.out.fresh HF2.out (fun i e => by omega)) _).fresh (Fr.set (S := (· = w.heap.size)) rfl) (fun i e => by omega),rfl⟩
   ·rw [show amtD l = none from QhM h0 hg hr0];rw [hg] at HQ;clear hg h0
    go_enter_defers func194,ntmps194
    go_wp2_with fail;refine HQ.out.mono ?_;rintro e w2 ⟨rfl,hr2,hf2⟩;have HF2 := Xi hf2;have HK2 := Xo hf2 HK;have HE := Xi (Qmz w2 _ _ r hr0 hr2 hzs);clear hf2 hr2;go_wp2_with fail;refine HE.out.mono ?_;rintro e w3 ⟨rfl,m,rfl⟩;go_wp2_with fail;refine leaves_cons (f := 226) (args := #[.pointer (some ⟨w.heap.size,0,none⟩)]) (by simp) (by simp [go_sem]) ?_;refine (Qd2 w.heap.size _ _ (show Blk (w2.drewN m) _ _ _ from HK2.out)).mono ?_;rintro e u' w3 ⟨rfl,rfl,rfl⟩;have hc := Qaa ((show Blk (w2.drewN m) _ _ _ from HK2.out).put 0 (.int .i64 7)) 0;simp at hc;simp [Leaves,settle,results,Tryz.results194,go_sem,hc];exact ⟨(fd (HF.out.fresh HF2.out (fun i e => by omega)) _).fresh (Fr.set (S := (· = w.heap.size)) rfl) (fun i e => by omega),rfl⟩
theorem Qd3 (q : Nat) (x : Value) (w : World) (hb : Blk w q 26 #[x]) :
  CallsD Tryz.prog 222 #[.pointer (some ⟨q,0,none⟩)] (.panicking [{ v := .iface 26 (.int .i64 7),recovered := false }]) w fun e u' w' =>
   e = .returned (.tuple #[]) ∧ u' = .panicking [{ v := .iface 26 (.int .i64 7),recovered := true }] ∧ w' = w.setCell ⟨q,0,none⟩ (.int .i64 7) := by
 have hc := Qaa hb 0;have hz := Qac hb 0;simp at hc;have hta : ∀ w : World,(Instr.typeAssert (.iface 26 (.int .i64 7)) 20 26 false).run Tryz.prog w = .ok (.int .i64 7) w := fun w => by kernel_rfl
 have hne : ∀ w : World,(binOp .neq 20 (.iface 26 (.int .i64 7)) .nilIface).run Tryz.prog w = .ok (.bool true) w := fun w => by kernel_rfl
 refine callsD_of_wpS func222 rfl fun c₀ cs hu => ?_;apply wpS_seq;apply wpS_region;simp [wpOpsS,go_sem,recoverD,hu,ntmps222,Exit.thenS];apply wpS_seq;apply wpS_region;simp [wpOpsS,go_sem,Exit.thenS,Act.eval,Array.replicate,hne];refine wpS_cond (t := true) (by simp [Act.eval]) ?_;simp only [if_true];apply wpS_region;simp [wpOpsS,go_sem,Act.eval,hta,hc,hz,bodyPostS,results,Tryz.results222]
theorem QlA (q : Nat) (w : World) :
  CallsD Tryz.prog 222 #[.pointer (some ⟨q,0,none⟩)] .returning w fun e u' w' => e = .returned (.tuple #[]) ∧ u' = .returning ∧ w' = w := by
 have hne : ∀ w : World,(binOp .neq 20 .nilIface .nilIface).run Tryz.prog w = .ok (.bool false) w := fun w => by kernel_rfl
 refine callsD_of_wpS func222 rfl fun c₀ cs hu => ?_;apply wpS_seq;apply wpS_region;simp [wpOpsS,go_sem,recoverD,hu,ntmps222,Exit.thenS];apply wpS_seq;apply wpS_region;simp [wpOpsS,go_sem,Exit.thenS,Act.eval,Array.replicate,hne];refine wpS_cond (t := false) (by simp [Act.eval]) ?_;simp only [Bool.false_eq_true,if_false];refine wpS_of_wp (wp_skip ?_);cases c₀
 simp_all [bodyPostS,results,Tryz.results222]

/-- what read answers of a text,as a time -/
def Qob (g : Option (Int × Nat)) (w : World) (e : Ending) (w' : World) : Prop := Fr w w' (fun _ => False) ∧ match g with
 | none => e = .returned (.tuple #[atV (0,0),.int .i64 7])
 | some v => e = .returned (.tuple #[atV v,.int .i64 0])
theorem Qpx (w : World) (l : Bs) : Fr w (((w.alloc (.cells #[.int .i64 0,.int .i64 0] 63)).alloc (.cells #[.int .i64 0] 26)).alloc (.cells #[strV l,.int .i64 0] 262)) (fun _ => False) ∧
  Blk (((w.alloc (.cells #[.int .i64 0,.int .i64 0] 63)).alloc (.cells #[.int .i64 0] 26)).alloc (.cells #[strV l,.int .i64 0] 262)) w.heap.size 63 #[.int .i64 0,.int .i64 0] ∧
  Blk (((w.alloc (.cells #[.int .i64 0,.int .i64 0] 63)).alloc (.cells #[.int .i64 0] 26)).alloc (.cells #[strV l,.int .i64 0] 262)) (w.heap.size + 1) 26 #[.int .i64 0] ∧
  RdAt (((w.alloc (.cells #[.int .i64 0,.int .i64 0] 63)).alloc (.cells #[.int .i64 0] 26)).alloc (.cells #[strV l,.int .i64 0] 262)) (w.heap.size + 2) ⟨l.toArray⟩ l := by
 obtain ⟨h1,h2,h3⟩ := Qpw (w.alloc (.cells #[.int .i64 0,.int .i64 0] 63)) l #[.int .i64 0] 26;have f1 := Fr.new w (.cells #[.int .i64 0,.int .i64 0] 63) (fun _ => False);have b1 := Blk.made w 63 #[.int .i64 0,.int .i64 0];have hsz : (w.alloc (.cells #[.int .i64 0,.int .i64 0] 63)).heap.size = w.heap.size + 1 := by simp
 rw [hsz] at h2 h3;exact ⟨ff f1 h1,h1.blk b1 (fun h => h),h2,h3⟩
theorem QiG {w : World} {g : Nat} {x y : Value} (h : Blk w g 63 #[x,y]) : (loadVar 63 ⟨g,0,none⟩).run Tryz.prog w = .ok (.agg #[x,y]) w := run_loadVar_row w g 63 63 #[x,y] (0,0) _ h underlying63 rfl infoAt
theorem QdM (tmps : Array Value) (w : World) (q : Nat) (x y : Value) (k : Int) (h4 : tmps.getD 4 undef = .pointer (some ⟨q,0,none⟩)) (h5 : tmps.getD 5 undef = .pointer (some ⟨q + 1,0,none⟩))
  (hb : Blk w q 63 #[x,y]) (hk : Blk w (q + 1) 26 #[.int .i64 k]) : (results f192 tmps).run Tryz.prog w = .ok (.tuple #[.agg #[x,y],.int .i64 k]) w := by
 have h4' : tmps[4]?.getD undef = .pointer (some ⟨q,0,none⟩) := by simpa using h4
 have h5' : tmps[5]?.getD undef = .pointer (some ⟨q + 1,0,none⟩) := by simpa using h5
 have hL := QiG hb;have hk0 := Qaa hk 0;simp at hk0;have hK : (loadVar 26 ⟨q + 1,0,none⟩).run Tryz.prog w = .ok (.int .i64 k) w := by
  simp [go_sem,hk0]
 simp [results,Tryz.results192,h4',h5',asAddr,hL,hK]
theorem Qpb (l : Bs) (w : World) (hz : l.length ≤ 1000000) :
  Calls Tryz.prog 192 #[strV l,.func (.func 193) #[] #[]] w (Qob (QbG l) w) := by
 have hmf : ∀ (fn : Fn) (first cap : Array Value) (w : World),(Instr.makeFunc fn first cap).run Tryz.prog w = .ok (.func fn first cap) w := fun _ _ _ _ => rfl;by_cases h0 : l = [45]
 ·subst h0;rw [show QbG [45] = some (0,0) from rfl];have b1 := (Fr.new (w.alloc (.cells #[.int .i64 0,.int .i64 0] 63)) (.cells #[.int .i64 0] 26) (fun _ => False)).blk (Blk.made w 63 #[.int .i64 0,.int .i64 0]) (fun h => h);have b2 := Blk.made (w.alloc (.cells #[.int .i64 0,.int .i64 0] 63)) 26 #[.int .i64 0];rw [show (w.alloc (.cells #[.int .i64 0,.int .i64 0] 63)).heap.size = w.heap.size + 1 by simp] at b2;have c0 := Qaa b1 0;have c1 := Qaa b1 1;have c2 := Qaa b2 0;have f0 := Qac b1 0;have f1 := Qac b1 1;have f2 := Qac b2 0;simp at c0 c1 c2;have HB1 := Xi b1;have HB2 := Xi b2;clear b1 b2
  go_enter_defers func192,ntmps192
  go_wp2_with fail;have hL := QiG HB1.out;have hK := Qaa HB2.out 0;simp at hK;simp [bodyPostD,Leaves,results,Tryz.results192,go_sem];exact ⟨ff (Fr.new _ _ _) (Fr.new _ _ _),rfl⟩
 ·have e0 : (l == [45]) = false := by simpa using h0
  obtain ⟨hf,hv,hk,hr⟩ := Qpx w l;have hzs : (⟨l.toArray⟩ : ByteArray).size ≤ 1000000 := by rw [Qal]; exact hz
  have HQ := Xi (Qii _ _ _ l hr hzs);have HF := Xi hf;have HV := Xi hv;have HK := Xi hk;clear hf hv hk hr;rcases hg : QgC l with _ | ⟨n,r⟩
  ·rw [show QbG l = none from QhL h0 hg];rw [hg] at HQ;clear hg h0
   go_enter_defers func192,ntmps192
   go_wp2_with fail;refine HQ.out.mono ?_;rintro e w2 ⟨rfl,hf2⟩;have HF2 := Xi hf2;have HV2 := Xo hf2 HV;have HK2 := Xo hf2 HK;clear hf2;go_wp2_with fail;refine leaves_cons (f := 222) (args := #[.pointer (some ⟨w.heap.size + 1,0,none⟩)]) (by simp) (by simp [go_sem]) ?_;refine (Qd3 (w.heap.size + 1) _ _ HK2.out).mono ?_;rintro e u' w3 ⟨rfl,rfl,rfl⟩;have hb4 := (Fr.set (w := w2) (S := (· = w.heap.size + 1)) (v := .int .i64 7) (a := ⟨w.heap.size + 1,0,none⟩) rfl).blk HV2.out (by omega);have hk4 := HK2.out.put' (cs' := #[.int .i64 7]) 0 (.int .i64 7) (by simp);exact ⟨_,QdM _ _ w.heap.size _ _ 7 rfl rfl hb4 hk4,(HF.out.fresh HF2.out (fun i e => by omega)).fresh (Fr.set (S := (· = w.heap.size + 1)) rfl) (fun i e => by omega),rfl⟩
  ·by_cases hr0 : r = []
   ·subst hr0;rw [show QbG l = some n from QhK h0 hg];rw [hg] at HQ;clear hg h0
    go_enter_defers func192,ntmps192
    go_wp2_with fail;refine HQ.out.mono ?_;rintro e w2 ⟨rfl,hr2,hf2⟩;have HF2 := Xi hf2;have hf3 := Fr.new w2 (.cells #[.int .i64 n.1,.int .i64 (n.2 : Int)] 63) (fun _ => False);have HF3 := Xi hf3;have HV2 := Xi (hf3.blk (hf2.blk HV.out (by omega)) (fun h => h));have HK2 := Xi (hf3.blk (hf2.blk HK.out (by omega)) (fun h => h));have HT2 := Xi (Blk.made w2 63 #[.int .i64 n.1,.int .i64 (n.2 : Int)]);have HE := Xi (QmA _ _ _ (hr2.fr hf3 (fun h => h)) hzs);have hsz := hf2.size;simp at hsz;have c0 := Qaa HV2.out 0;have c1 := Qaa HV2.out 1;have f0 := Qac HV2.out 0;have f1 := Qac HV2.out 1;have k0 := Qaa HK2.out 0;have g0 := Qac HK2.out 0;have t0 := Qaa HT2.out 0;have t1 := Qaa HT2.out 1;simp at c0 c1 k0;have HR0 := Xi t0;have HR1 := Xi t1;clear hf2 hr2 hf3 t0 t1;go_wp2_with fail;refine HE.out.mono ?_;rintro e w3 ⟨rfl,m,rfl⟩;go_wp2_with fail;refine leaves_cons (f := 222) (args := #[.pointer (some ⟨w.heap.size + 1,0,none⟩)]) (by simp) (by simp [go_sem]) ?_;refine (QlA (w.heap.size + 1) _).mono ?_;rintro e u' w3 ⟨rfl,rfl,rfl⟩;have hb3 := (show Blk ((w2.alloc (.cells #[.int .i64 n.1,.int .i64 (n.2 : Int)] 63)).drewN m) w.heap.size 63 #[.int .i64 0,.int .i64 0] from HV2.out);have hb4 := (hb3.put' (cs' := #[.int .i64 n.1,.int .i64 0]) 0 (.int .i64 n.1) (by simp)).put' (cs' := #[.int .i64 n.1,.int .i64 (n.2 : Int)]) 1 (.int .i64 (n.2 : Int)) (by simp);have hb5 := (Fr.set (S := (· = w.heap.size + 1)) (v := .int .i64 0) (a := ⟨w.heap.size + 1,0,none⟩) rfl).blk hb4 (by omega);have hk3 := (show Blk ((w2.alloc (.cells #[.int .i64 n.1,.int .i64 (n.2 : Int)] 63)).drewN m) (w.heap.size + 1) 26 #[.int .i64 0] from HK2.out);have hk4 := (Fr.set (S := (· = w.heap.size)) (v := .int .i64 n.1) (a := ⟨w.heap.size,0,none⟩) rfl).blk hk3 (by omega);have hk5 := (Fr.set (S := (· = w.heap.size)) (v := .int .i64 (n.2 : Int)) (a := ⟨w.heap.size,1,none⟩) rfl).blk hk4 (by omega);have hk6 := hk5.put' (cs' := #[.int .i64 0]) 0 (.int .i64 0) (by simp);have hfr := fd (ff (HF.out.fresh HF2.out (fun i e => by omega)) HF3.out) m;have hfr1 := hfr.fresh (Fr.set (S := (· = w.heap.size)) (a := ⟨w.heap.size,0,none⟩) (v := .int .i64 n.1) rfl) (fun i e => by omega);have hfr2 := hfr1.fresh (Fr.set (S := (· = w.heap.size)) (a := ⟨w.heap.size,1,none⟩) (v := .int .i64 (n.2 : Int)) rfl) (fun i e => by omega);exact ⟨_,QdM _ _ w.heap.size _ _ 0 rfl rfl hb5 hk6,hfr2.fresh (Fr.set (S := (· = w.heap.size + 1)) rfl) (fun i e => by omega),rfl⟩
   ·rw [show QbG l = none from QhM h0 hg hr0];rw [hg] at HQ;clear hg h0
    go_enter_defers func192,ntmps192
    go_wp2_with fail;refine HQ.out.mono ?_;rintro e w2 ⟨rfl,hr2,hf2⟩;have HF2 := Xi hf2;have hf3 := Fr.new w2 (.cells #[.int .i64 n.1,.int .i64 (n.2 : Int)] 63) (fun _ => False);have HF3 := Xi hf3;have HV2 := Xi (hf3.blk (hf2.blk HV.out (by omega)) (fun h => h));have HK2 := Xi (hf3.blk (hf2.blk HK.out (by omega)) (fun h => h));have HE := Xi (Qmz _ _ _ r hr0 (hr2.fr hf3 (fun h => h)) hzs);have hsz := hf2.size;simp at hsz;clear hf2 hr2 hf3;go_wp2_with fail;refine HE.out.mono ?_;rintro e w3 ⟨rfl,m,rfl⟩;go_wp2_with fail;refine leaves_cons (f := 222) (args := #[.pointer (some ⟨w.heap.size + 1,0,none⟩)]) (by simp) (by simp [go_sem]) ?_;have hk3 := (show Blk ((w2.alloc (.cells #[.int .i64 n.1,.int .i64 (n.2 : Int)] 63)).drewN m) (w.heap.size + 1) 26 #[.int .i64 0] from HK2.out);refine (Qd3 (w.heap.size + 1) _ _ hk3).mono ?_;rintro e u' w3 ⟨rfl,rfl,rfl⟩;have hb3 := (show Blk ((w2.alloc (.cells #[.int .i64 n.1,.int .i64 (n.2 : Int)] 63)).drewN m) w.heap.size 63 #[.int .i64 0,.int .i64 0] from HV2.out);have hb4 := (Fr.set (S := (· = w.heap.size + 1)) (v := .int .i64 7) (a := ⟨w.heap.size + 1,0,none⟩) rfl).blk hb3 (by omega);have hk4 := hk3.put' (cs' := #[.int .i64 7]) 0 (.int .i64 7) (by simp);have hfr := fd (ff (HF.out.fresh HF2.out (fun i e => by omega)) HF3.out) m;exact ⟨_,QdM _ _ w.heap.size _ _ 7 rfl rfl hb4 hk4,hfr.fresh (Fr.set (S := (· = w.heap.size + 1)) rfl) (fun i e => by omega),rfl⟩
/-- what Parse answers -/
def numD (g : Option (Int × Nat)) : Value × Int := match g with
 | none => (atV (0,0),7)
 | some v => (atV v,0)
theorem Qoe (l : Bs) (w : World) (hz : l.length ≤ 1000000) : Calls Tryz.prog 170 #[strV l] w (ReadI (amtD l) w) := by
 have HQ := Xi (Qpa l w hz);obtain ⟨T,hT⟩ : ∃ T,amtD l = T := ⟨_,rfl⟩;rw [hT] at HQ ⊢;clear hT;cases T with
 | none =>
  go_enter func170,ntmps170;go_wp2_with fail;refine HQ.out.mono ?_;rintro e w2 ⟨hf2,rfl⟩;have HF2 := Xi hf2;clear hf2;go_wp2_with fail
  go_ret2
  exact ⟨HF2.out,rfl⟩
 | some v =>
  go_enter func170,ntmps170;go_wp2_with fail;refine HQ.out.mono ?_;rintro e w2 ⟨hf2,rfl⟩;have HF2 := Xi hf2;clear hf2;go_wp2_with fail
  go_ret2
  exact ⟨HF2.out,rfl⟩
theorem Qfn (tmps : Array Value) (w : World) (q : Nat) (x y : Value) (k : Int) (h2 : tmps.getD 2 undef = .pointer (some ⟨q,0,none⟩)) (h3 : tmps.getD 3 undef = .int .i64 k)
  (hb : Blk w q 63 #[x,y]) : (results f169 tmps).run Tryz.prog w = .ok (.tuple #[.agg #[x,y],.int .i64 k]) w := by
 have h2' : tmps[2]?.getD undef = .pointer (some ⟨q,0,none⟩) := by simpa using h2
 have h3' : tmps[3]?.getD undef = .int .i64 k := by simpa using h3
 have hL := QiG hb;simp [results,Tryz.results169,h2',h3',asAddr,hL]
theorem QfC (l : Bs) (w : World) (hz : l.length ≤ 1000000) : Calls Tryz.prog 169 #[strV l] w (Qob (QbG l) w) := by
 have hf0 := Fr.new w (.cells #[.int .i64 0,.int .i64 0] 63) (fun _ => False);have HQ := Xi (Qpb l (w.alloc (.cells #[.int .i64 0,.int .i64 0] 63)) hz);have HB := Xi (Blk.made w 63 #[.int .i64 0,.int .i64 0]);have HF := Xi hf0;obtain ⟨T,hT⟩ : ∃ T,QbG l = T := ⟨_,rfl⟩;rw [hT] at HQ ⊢;clear hT hf0;cases T with
 | none =>
  go_enter func169,ntmps169;go_wp2_with fail;refine HQ.out.mono ?_;rintro e w2 ⟨hf2,rfl⟩;have HF2 := Xi hf2;have hb2 := hf2.blk HB.out (fun h => h);have c0 := Qaa hb2 0;have c1 := Qaa hb2 1;have f0 := Qac hb2 0;have f1 := Qac hb2 1;simp at c0 c1;have HB2 := Xi hb2;clear hf2 hb2;go_wp2_with fail;(try simp only [Exit.inBlock,Exit.then]);have hb4 := (HB2.out.put' (cs' := #[.int .i64 0,.int .i64 0]) 0 (.int .i64 0) (by simp)).put' (cs' := #[.int .i64 0,.int .i64 0]) 1 (.int .i64 ((0 : Nat) : Int)) (by simp);have hfr := ff HF.out HF2.out;have hfr1 := hfr.fresh (Fr.set (S := (· = w.heap.size)) (a := ⟨w.heap.size,0,none⟩) (v := .int .i64 0) rfl) (fun i e => by omega);exact bodyPost_ret (Qfn _ _ w.heap.size _ _ 7 rfl rfl hb4) rfl ⟨hfr1.fresh (Fr.set (S := (· = w.heap.size)) rfl) (fun i e => by omega),rfl⟩
 | some v =>
  go_enter func169,ntmps169;go_wp2_with fail;refine HQ.out.mono ?_;rintro e w2 ⟨hf2,rfl⟩;have HF2 := Xi hf2;have hb2 := hf2.blk HB.out (fun h => h);have c0 := Qaa hb2 0;have c1 := Qaa hb2 1;have f0 := Qac hb2 0;have f1 := Qac hb2 1;simp at c0 c1;have HB2 := Xi hb2;clear hf2 hb2;go_wp2_with fail;(try simp only [Exit.inBlock,Exit.then]);have hb4 := (HB2.out.put' (cs' := #[.int .i64 v.1,.int .i64 0]) 0 (.int .i64 v.1) (by simp)).put' (cs' := #[.int .i64 v.1,.int .i64 (v.2 : Int)]) 1 (.int .i64 (v.2 : Int)) (by simp);have hfr := ff HF.out HF2.out;have hfr1 := hfr.fresh (Fr.set (S := (· = w.heap.size)) (a := ⟨w.heap.size,0,none⟩) (v := .int .i64 v.1) rfl) (fun i e => by omega);exact bodyPost_ret (Qfn _ _ w.heap.size _ _ 0 rfl rfl hb4) rfl ⟨hfr1.fresh (Fr.set (S := (· = w.heap.size)) rfl) (fun i e => by omega),rfl⟩
theorem QaA (tmps : Array Value) (w : World) (q : Nat) (x y : Value) (k : Int) (h2 : tmps.getD 2 undef = .pointer (some ⟨q,0,none⟩)) (h3 : tmps.getD 3 undef = .int .i64 k)
  (hb : Blk w q 63 #[x,y]) : (results f81 tmps).run Tryz.prog w = .ok (.tuple #[.agg #[x,y],.int .i64 k]) w := by
 have h2' : tmps[2]?.getD undef = .pointer (some ⟨q,0,none⟩) := by simpa using h2
 have h3' : tmps[3]?.getD undef = .int .i64 k := by simpa using h3
 have hL := QiG hb;simp [results,Tryz.results81,h2',h3',asAddr,hL]
theorem Qi8 {c k : UInt8} {m : Int} (h : c ≠ k) (hk : (k.toNat : Int) = m) : ((c.toNat : Int) == m) = false := by
 rw [beq_eq_false_iff_ne];intro e;exact h (UInt8.toNat_inj.1 (by omega))
theorem Qcv {w w2 : World} (hf : Fr w w2 (fun _ => False)) {q : Nat} (hq : w.heap.size ≤ q) (x y : Value) : Fr w ((w2.setCell ⟨q,0,none⟩ x).setCell ⟨q,1,none⟩ y) (fun _ => False) :=
 (hf.fresh (Fr.set (S := (· = q)) (a := ⟨q,0,none⟩) rfl) (fun i e => by omega)).fresh (Fr.set (S := (· = q)) (a := ⟨q,1,none⟩) rfl) (fun i e => by omega)
theorem Qcz {w : World} {q : Nat} {a b : Value} (h : Blk w q 63 #[a,b]) (x y : Value) : Blk ((w.setCell ⟨q,0,none⟩ x).setCell ⟨q,1,none⟩ y) q 63 #[x,y] :=
 (h.put' (cs' := #[x,b]) 0 x (by simp)).put' 1 y (by simp)
theorem Qc6 {n : Int} {k : Nat} {j : Int} (hj : j = (k : Int)) {w w' : World} (h : Fr w w' (fun _ => False)) : Qob (some (n,k)) w (.returned (.tuple #[.agg #[.int .i64 n,.int .i64 j],.int .i64 0])) w' := by
 subst hj;exact ⟨h,rfl⟩
theorem Qjt (l : Bs) (w : World) (hl : l.length ≤ 1) : Calls Tryz.prog 81 #[strV l] w (Qob (Qbf l) w) := by
 have hsz := Qal l;have hk : Qd6 l = none := by rw [Qd6,if_neg (by omega)]
 rw [Qbf,hk];have HT := Xi (fun W => Qbu l W (by omega));have hf0 := Fr.new w (.cells #[.int .i64 0,.int .i64 0] 63) (fun _ => False);have HB := Xi (Blk.made w 63 #[.int .i64 0,.int .i64 0]);have HF := Xi hf0;clear hf0;clear hk;simp only;generalize Qb7 l = T at HT ⊢;have t1 : ¬ (1 : Int) < (l.length : Int) := by omega
 cases T with
 | none =>
  go_enter func81,ntmps81;go_wp2_with fail;refine (HT.out _).mono ?_;rintro e w2 ⟨hf2,rfl⟩;have hb2 := hf2.blk HB.out (fun h => h);have c0 := Qaa hb2 0;have c1 := Qaa hb2 1;have f0 := Qac hb2 0;have f1 := Qac hb2 1;simp at c0 c1;have HF2 := Xf HF hf2;have HB2 := Xi hb2;clear hf2 hb2;go_wp2_with fail;(try simp only [Exit.inBlock,Exit.then]);exact bodyPost_ret (QaA _ _ w.heap.size _ _ 7 rfl rfl (Qcz HB2.out _ _)) rfl ⟨Qcv HF2.out (Nat.le_refl _) _ _,rfl⟩
 | some n =>
  go_enter func81,ntmps81;go_wp2_with fail;refine (HT.out _).mono ?_;rintro e w2 ⟨hf2,rfl⟩;have hb2 := hf2.blk HB.out (fun h => h);have c0 := Qaa hb2 0;have c1 := Qaa hb2 1;have f0 := Qac hb2 0;have f1 := Qac hb2 1;simp at c0 c1;have HF2 := Xf HF hf2;have HB2 := Xi hb2;clear hf2 hb2;go_wp2_with fail;(try simp only [Exit.inBlock,Exit.then]);exact bodyPost_ret (QaA _ _ w.heap.size _ _ 0 rfl rfl (Qcz HB2.out _ _)) rfl (Qc6 (k := 0) rfl (Qcv HF2.out (Nat.le_refl _) _ _))
theorem QpL (q : Bs) (c : UInt8) (hq : q ≠ []) : Qd6 (q ++ [c]) = sufK c := by
 have := List.length_pos_iff.2 hq;rw [Qd6,if_pos (by simp; omega)];simp
theorem QkM (q : Bs) (c : UInt8) (w : World) (hq0 : q ≠ []) (hl : q.length ≤ 900) : Calls Tryz.prog 81 #[strV (q ++ [c])] w (Qob (Qbf (q ++ [c])) w) := by
 obtain ⟨L,hL⟩ : ∃ L,L = q ++ [c] := ⟨_,rfl⟩;rw [← hL];have hq1 := List.length_pos_iff.2 hq0;have hlen : L.length = q.length + 1 := by rw [hL]; simp
 have hsz : (⟨L.toArray⟩ : ByteArray).size = q.length + 1 := by rw [Qal,hlen]
 have HLK : Hid (Qd6 L = sufK c) := Xi (by rw [hL]; exact QpL q c hq0);have HDL : Hid (L.dropLast = q) := Xi (by rw [hL]; simp);have e0 : (L == [45]) = false := by
  rw [beq_eq_false_iff_ne,hL];intro e;have := congrArg List.length e;simp at this;exact hq0 this
 have hp : q.length < (⟨L.toArray⟩ : ByteArray).size := by rw [hsz]; omega
 have hget : (⟨L.toArray⟩ : ByteArray)[q.length]'hp = c := by
  subst hL;show (q ++ [c])[q.length]'_ = c;simp
 have hcut : (⟨L.toArray⟩ : ByteArray).extract 0 q.length = ⟨q.toArray⟩ := by
  rw [QbT,hL];simp [cut]
 have t1 : (1 : Int) < (L.length : Int) := by omega
 have i0 : (0 : Int) ≤ (q.length : Int) := by omega
 have hLl : L.length ≤ 1000 := by omega
 have hf0 := Fr.new w (.cells #[.int .i64 0,.int .i64 0] 63) (fun _ => False);have HB := Xi (Blk.made w 63 #[.int .i64 0,.int .i64 0]);have HF := Xi hf0;clear hf0;clear hL hq0;by_cases h1 : c = 119
 ·subst h1;have g1 : ((((⟨L.toArray⟩ : ByteArray)[q.length]'hp).toNat : Int) == 119) = true := by rw [hget]; rfl
  clear hget;have hk : Qd6 L = some 0 := by rw [HLK.out]; exact rfl
  rw [Qbf,hk];simp only [HDL.out];clear hk HLK HDL;by_cases hq : q = [45]
  ·have eq0 : (q == [45]) = true := by simpa using hq
   rw [if_pos hq];clear hq;have c0 := Qaa HB.out 0;have c1 := Qaa HB.out 1;have f0 := Qac HB.out 0;have f1 := Qac HB.out 1;simp at c0 c1;go_enter func81,ntmps81;go_wp2_with fail;(try simp only [Exit.inBlock,Exit.then]);exact bodyPost_ret (QaA _ _ w.heap.size _ _ 7 rfl rfl HB.out) rfl ⟨HF.out,rfl⟩
  ·have eq0 : (q == [45]) = false := by simpa using hq
   rw [if_neg hq];have HT := Xi (fun W => Qbu q W (by omega));clear hq;generalize Qb7 q = T at HT ⊢;cases T with
   | none =>
    go_enter func81,ntmps81;go_wp2_with fail;refine (HT.out _).mono ?_;rintro e w2 ⟨hf2,rfl⟩;have hb2 := hf2.blk HB.out (fun h => h);have c0 := Qaa hb2 0;have c1 := Qaa hb2 1;have f0 := Qac hb2 0;have f1 := Qac hb2 1;simp at c0 c1;have HF2 := Xf HF hf2;have HB2 := Xi hb2;clear hf2 hb2;go_wp2_with fail;(try simp only [Exit.inBlock,Exit.then]);exact bodyPost_ret (QaA _ _ w.heap.size _ _ 7 rfl rfl (Qcz HB2.out _ _)) rfl ⟨Qcv HF2.out (Nat.le_refl _) _ _,rfl⟩
   | some n =>
    go_enter func81,ntmps81;go_wp2_with fail;refine (HT.out _).mono ?_;rintro e w2 ⟨hf2,rfl⟩;have hb2 := hf2.blk HB.out (fun h => h);have c0 := Qaa hb2 0;have c1 := Qaa hb2 1;have f0 := Qac hb2 0;have f1 := Qac hb2 1;simp at c0 c1;have HF2 := Xf HF hf2;have HB2 := Xi hb2;clear hf2 hb2;go_wp2_with fail;(try simp only [Exit.inBlock,Exit.then]);exact bodyPost_ret (QaA _ _ w.heap.size _ _ 0 rfl rfl (Qcz HB2.out _ _)) rfl (Qc6 (k := 0) rfl (Qcv HF2.out (Nat.le_refl _) _ _))
 ·by_cases h2 : c = 115
  ·subst h2;have g1 : ((((⟨L.toArray⟩ : ByteArray)[q.length]'hp).toNat : Int) == 119) = false := by rw [hget]; rfl
   have g2 : ((((⟨L.toArray⟩ : ByteArray)[q.length]'hp).toNat : Int) == 115) = true := by rw [hget]; rfl
   clear hget h1;have hk : Qd6 L = some 1 := by rw [HLK.out]; exact rfl
   rw [Qbf,hk];simp only [HDL.out];clear hk HLK HDL;by_cases hq : q = [45]
   ·have eq0 : (q == [45]) = true := by simpa using hq
    rw [if_pos hq];clear hq;have c0 := Qaa HB.out 0;have c1 := Qaa HB.out 1;have f0 := Qac HB.out 0;have f1 := Qac HB.out 1;simp at c0 c1;go_enter func81,ntmps81;go_wp2_with fail;(try simp only [Exit.inBlock,Exit.then]);exact bodyPost_ret (QaA _ _ w.heap.size _ _ 7 rfl rfl HB.out) rfl ⟨HF.out,rfl⟩
   ·have eq0 : (q == [45]) = false := by simpa using hq
    rw [if_neg hq];have HT := Xi (fun W => Qbu q W (by omega));clear hq;generalize Qb7 q = T at HT ⊢;cases T with
    | none =>
     go_enter func81,ntmps81;go_wp2_with fail;refine (HT.out _).mono ?_;rintro e w2 ⟨hf2,rfl⟩;have hb2 := hf2.blk HB.out (fun h => h);have c0 := Qaa hb2 0;have c1 := Qaa hb2 1;have f0 := Qac hb2 0;have f1 := Qac hb2 1;simp at c0 c1;have HF2 := Xf HF hf2;have HB2 := Xi hb2;clear hf2 hb2;go_wp2_with fail;(try simp only [Exit.inBlock,Exit.then]);exact bodyPost_ret (QaA _ _ w.heap.size _ _ 7 rfl rfl (Qcz HB2.out _ _)) rfl ⟨Qcv HF2.out (Nat.le_refl _) _ _,rfl⟩
    | some n =>
     go_enter func81,ntmps81;go_wp2_with fail;refine (HT.out _).mono ?_;rintro e w2 ⟨hf2,rfl⟩;have hb2 := hf2.blk HB.out (fun h => h);have c0 := Qaa hb2 0;have c1 := Qaa hb2 1;have f0 := Qac hb2 0;have f1 := Qac hb2 1;simp at c0 c1;have HF2 := Xf HF hf2;have HB2 := Xi hb2;clear hf2 hb2;go_wp2_with fail;(try simp only [Exit.inBlock,Exit.then]);exact bodyPost_ret (QaA _ _ w.heap.size _ _ 0 rfl rfl (Qcz HB2.out _ _)) rfl (Qc6 (k := 1) rfl (Qcv HF2.out (Nat.le_refl _) _ _))
  ·have g1 : ((((⟨L.toArray⟩ : ByteArray)[q.length]'hp).toNat : Int) == 119) = false := by rw [hget]; exact Qi8 h1 rfl
   have g2 : ((((⟨L.toArray⟩ : ByteArray)[q.length]'hp).toNat : Int) == 115) = false := by rw [hget]; exact Qi8 h2 rfl
   by_cases h3 : c = 117
   ·subst h3;have g3 : ((((⟨L.toArray⟩ : ByteArray)[q.length]'hp).toNat : Int) == 117) = true := by rw [hget]; rfl
    clear hget h1 h2;have hk : Qd6 L = some 2 := by rw [HLK.out]; exact rfl
    rw [Qbf,hk];simp only [HDL.out];clear hk HLK HDL;by_cases hq : q = [45]
    ·have eq0 : (q == [45]) = true := by simpa using hq
     rw [if_pos hq];clear hq;have c0 := Qaa HB.out 0;have c1 := Qaa HB.out 1;have f0 := Qac HB.out 0;have f1 := Qac HB.out 1;simp at c0 c1;go_enter func81,ntmps81;go_wp2_with fail;(try simp only [Exit.inBlock,Exit.then]);exact bodyPost_ret (QaA _ _ w.heap.size _ _ 7 rfl rfl HB.out) rfl ⟨HF.out,rfl⟩
    ·have eq0 : (q == [45]) = false := by simpa using hq
     rw [if_neg hq];have HT := Xi (fun W => Qbu q W (by omega));clear hq;generalize Qb7 q = T at HT ⊢;cases T with
     | none =>
      go_enter func81,ntmps81;go_wp2_with fail;refine (HT.out _).mono ?_;rintro e w2 ⟨hf2,rfl⟩;have hb2 := hf2.blk HB.out (fun h => h);have c0 := Qaa hb2 0;have c1 := Qaa hb2 1;have f0 := Qac hb2 0;have f1 := Qac hb2 1;simp at c0 c1;have HF2 := Xf HF hf2;have HB2 := Xi hb2;clear hf2 hb2;go_wp2_with fail;(try simp only [Exit.inBlock,Exit.then]);exact bodyPost_ret (QaA _ _ w.heap.size _ _ 7 rfl rfl (Qcz HB2.out _ _)) rfl ⟨Qcv HF2.out (Nat.le_refl _) _ _,rfl⟩
     | some n =>
      go_enter func81,ntmps81;go_wp2_with fail;refine (HT.out _).mono ?_;rintro e w2 ⟨hf2,rfl⟩;have hb2 := hf2.blk HB.out (fun h => h);have c0 := Qaa hb2 0;have c1 := Qaa hb2 1;have f0 := Qac hb2 0;have f1 := Qac hb2 1;simp at c0 c1;have HF2 := Xf HF hf2;have HB2 := Xi hb2;clear hf2 hb2;go_wp2_with fail;(try simp only [Exit.inBlock,Exit.then]);exact bodyPost_ret (QaA _ _ w.heap.size _ _ 0 rfl rfl (Qcz HB2.out _ _)) rfl (Qc6 (k := 2) rfl (Qcv HF2.out (Nat.le_refl _) _ _))
   ·have g3 : ((((⟨L.toArray⟩ : ByteArray)[q.length]'hp).toNat : Int) == 117) = false := by rw [hget]; exact Qi8 h3 rfl
    by_cases h4 : c = 103
    ·subst h4;have g4 : ((((⟨L.toArray⟩ : ByteArray)[q.length]'hp).toNat : Int) == 103) = true := by rw [hget]; rfl
     clear hget h1 h2 h3;have hk : Qd6 L = some 2 := by rw [HLK.out]; exact rfl
     rw [Qbf,hk];simp only [HDL.out];clear hk HLK HDL;by_cases hq : q = [45]
     ·have eq0 : (q == [45]) = true := by simpa using hq
      rw [if_pos hq];clear hq;have c0 := Qaa HB.out 0;have c1 := Qaa HB.out 1;have f0 := Qac HB.out 0;have f1 := Qac HB.out 1;simp at c0 c1;go_enter func81,ntmps81;go_wp2_with fail;(try simp only [Exit.inBlock,Exit.then]);exact bodyPost_ret (QaA _ _ w.heap.size _ _ 7 rfl rfl HB.out) rfl ⟨HF.out,rfl⟩
     ·have eq0 : (q == [45]) = false := by simpa using hq
      rw [if_neg hq];have HT := Xi (fun W => Qbu q W (by omega));clear hq;generalize Qb7 q = T at HT ⊢;cases T with
      | none =>
       go_enter func81,ntmps81;go_wp2_with fail;refine (HT.out _).mono ?_;rintro e w2 ⟨hf2,rfl⟩;have hb2 := hf2.blk HB.out (fun h => h);have c0 := Qaa hb2 0;have c1 := Qaa hb2 1;have f0 := Qac hb2 0;have f1 := Qac hb2 1;simp at c0 c1;have HF2 := Xf HF hf2;have HB2 := Xi hb2;clear hf2 hb2;go_wp2_with fail;(try simp only [Exit.inBlock,Exit.then]);exact bodyPost_ret (QaA _ _ w.heap.size _ _ 7 rfl rfl (Qcz HB2.out _ _)) rfl ⟨Qcv HF2.out (Nat.le_refl _) _ _,rfl⟩
      | some n =>
       go_enter func81,ntmps81;go_wp2_with fail;refine (HT.out _).mono ?_;rintro e w2 ⟨hf2,rfl⟩;have hb2 := hf2.blk HB.out (fun h => h);have c0 := Qaa hb2 0;have c1 := Qaa hb2 1;have f0 := Qac hb2 0;have f1 := Qac hb2 1;simp at c0 c1;have HF2 := Xf HF hf2;have HB2 := Xi hb2;clear hf2 hb2;go_wp2_with fail;(try simp only [Exit.inBlock,Exit.then]);exact bodyPost_ret (QaA _ _ w.heap.size _ _ 0 rfl rfl (Qcz HB2.out _ _)) rfl (Qc6 (k := 2) rfl (Qcv HF2.out (Nat.le_refl _) _ _))
    ·have g4 : ((((⟨L.toArray⟩ : ByteArray)[q.length]'hp).toNat : Int) == 103) = false := by rw [hget]; exact Qi8 h4 rfl
     by_cases h5 : c = 122
     ·subst h5;have g5 : ((((⟨L.toArray⟩ : ByteArray)[q.length]'hp).toNat : Int) == 122) = true := by rw [hget]; rfl
      clear hget h1 h2 h3 h4;have hk : Qd6 L = some 2 := by rw [HLK.out]; exact rfl
      rw [Qbf,hk];simp only [HDL.out];clear hk HLK HDL;by_cases hq : q = [45]
      ·have eq0 : (q == [45]) = true := by simpa using hq
       rw [if_pos hq];clear hq;have c0 := Qaa HB.out 0;have c1 := Qaa HB.out 1;have f0 := Qac HB.out 0;have f1 := Qac HB.out 1;simp at c0 c1;go_enter func81,ntmps81;go_wp2_with fail;(try simp only [Exit.inBlock,Exit.then]);exact bodyPost_ret (QaA _ _ w.heap.size _ _ 7 rfl rfl HB.out) rfl ⟨HF.out,rfl⟩
      ·have eq0 : (q == [45]) = false := by simpa using hq
       rw [if_neg hq];have HT := Xi (fun W => Qbu q W (by omega));clear hq;generalize Qb7 q = T at HT ⊢;cases T with
       | none =>
        go_enter func81,ntmps81;go_wp2_with fail;refine (HT.out _).mono ?_;rintro e w2 ⟨hf2,rfl⟩;have hb2 := hf2.blk HB.out (fun h => h);have c0 := Qaa hb2 0;have c1 := Qaa hb2 1;have f0 := Qac hb2 0;have f1 := Qac hb2 1;simp at c0 c1;have HF2 := Xf HF hf2;have HB2 := Xi hb2;clear hf2 hb2;go_wp2_with fail;(try simp only [Exit.inBlock,Exit.then]);exact bodyPost_ret (QaA _ _ w.heap.size _ _ 7 rfl rfl (Qcz HB2.out _ _)) rfl ⟨Qcv HF2.out (Nat.le_refl _) _ _,rfl⟩
       | some n =>
        go_enter func81,ntmps81;go_wp2_with fail;refine (HT.out _).mono ?_;rintro e w2 ⟨hf2,rfl⟩;have hb2 := hf2.blk HB.out (fun h => h);have c0 := Qaa hb2 0;have c1 := Qaa hb2 1;have f0 := Qac hb2 0;have f1 := Qac hb2 1;simp at c0 c1;have HF2 := Xf HF hf2;have HB2 := Xi hb2;clear hf2 hb2;go_wp2_with fail;(try simp only [Exit.inBlock,Exit.then]);exact bodyPost_ret (QaA _ _ w.heap.size _ _ 0 rfl rfl (Qcz HB2.out _ _)) rfl (Qc6 (k := 2) rfl (Qcv HF2.out (Nat.le_refl _) _ _))
     ·have g5 : ((((⟨L.toArray⟩ : ByteArray)[q.length]'hp).toNat : Int) == 122) = false := by rw [hget]; exact Qi8 h5 rfl
      have hk : Qd6 L = none := by
       rw [HLK.out,sufK,if_neg h1,if_neg h2,if_neg];rintro (h | h | h)
       ·exact h3 h
       ·exact h4 h
       ·exact h5 h
      rw [Qbf,hk];have HT := Xi (fun W => Qbu L W hLl);clear hk HLK HDL hget h1 h2 h3 h4 h5 hcut;simp only;generalize Qb7 L = T at HT ⊢;cases T with
      | none =>
       go_enter func81,ntmps81;go_wp2_with fail;refine (HT.out _).mono ?_;rintro e w2 ⟨hf2,rfl⟩;have hb2 := hf2.blk HB.out (fun h => h);have c0 := Qaa hb2 0;have c1 := Qaa hb2 1;have f0 := Qac hb2 0;have f1 := Qac hb2 1;simp at c0 c1;have HF2 := Xf HF hf2;have HB2 := Xi hb2;clear hf2 hb2;go_wp2_with fail;(try simp only [Exit.inBlock,Exit.then]);exact bodyPost_ret (QaA _ _ w.heap.size _ _ 7 rfl rfl (Qcz HB2.out _ _)) rfl ⟨Qcv HF2.out (Nat.le_refl _) _ _,rfl⟩
      | some n =>
       go_enter func81,ntmps81;go_wp2_with fail;refine (HT.out _).mono ?_;rintro e w2 ⟨hf2,rfl⟩;have hb2 := hf2.blk HB.out (fun h => h);have c0 := Qaa hb2 0;have c1 := Qaa hb2 1;have f0 := Qac hb2 0;have f1 := Qac hb2 1;simp at c0 c1;have HF2 := Xf HF hf2;have HB2 := Xi hb2;clear hf2 hb2;go_wp2_with fail;(try simp only [Exit.inBlock,Exit.then]);exact bodyPost_ret (QaA _ _ w.heap.size _ _ 0 rfl rfl (Qcz HB2.out _ _)) rfl (Qc6 (k := 0) rfl (Qcv HF2.out (Nat.le_refl _) _ _))
theorem QcY (l : Bs) (w : World) (hl : l.length ≤ 900) : Calls Tryz.prog 81 #[strV l] w (Qob (QbG l) w) := by
 rw [← Qfk];by_cases h1 : l.length ≤ 1
 ·exact Qjt l w h1
 ·have hne : l ≠ [] := fun e => by rw [e] at h1; simp at h1
  obtain ⟨q,c,rfl⟩ : ∃ q c,l = q ++ [c] := ⟨l.dropLast,l.getLast hne,(List.dropLast_concat_getLast hne).symm⟩;simp at h1 hl;exact QkM q c w h1 (by omega)
theorem QkN (l : Bs) (w : World) (hl : l.length ≤ 900) : Calls Tryz.prog 71 #[strV l] w (ReadI (amtD l) w) := by
 rw [← ramt_eq];have HT := Xi (Qbu l w (by omega));unfold ramtD;generalize Qb7 l = T at HT ⊢;cases T with
 | none =>
  go_enter func71,ntmps71;go_wp2_with fail;refine HT.out.mono ?_;rintro e w2 ⟨hf2,rfl⟩;have HF2 := Xi hf2;clear hf2;go_wp2_with fail
  go_ret2
  exact ⟨HF2.out,rfl⟩
 | some n =>
  by_cases h1 : 86400 < n
  ·simp only;rw [if_neg (by omega)];go_enter func71,ntmps71;go_wp2_with fail;refine HT.out.mono ?_;rintro e w2 ⟨hf2,rfl⟩;have HF2 := Xi hf2;clear hf2;go_wp2_with fail
   go_ret2
   exact ⟨HF2.out,rfl⟩
  ·by_cases h2 : n < -86400
   ·simp only;rw [if_neg (by omega)];go_enter func71,ntmps71;go_wp2_with fail;refine HT.out.mono ?_;rintro e w2 ⟨hf2,rfl⟩;have HF2 := Xi hf2;clear hf2;go_wp2_with fail
    go_ret2
    exact ⟨HF2.out,rfl⟩
   ·simp only;rw [if_pos (by omega)];go_enter func71,ntmps71;go_wp2_with fail;refine HT.out.mono ?_;rintro e w2 ⟨hf2,rfl⟩;have HF2 := Xi hf2;clear hf2;go_wp2_with fail
    go_ret2
    exact ⟨HF2.out,rfl⟩
end Go.Proofs.YtodcnbejnchmhaaGreatDoor.S5
