import Derived.Test.YtodcnbejnchmhaaGreatDoorYc46
set_option maxRecDepth 100000
set_option maxHeartbeats 12800000
namespace Go.Proofs.YtodcnbejnchmhaaGreatDoor
open _root_.Go.Proofs.Tryz
open Go.RowKit Go.Mem Go.Lin

theorem Qa0 (tmps : Array Value) (w : World) (q : Nat) (x : RuleL) (k i : Int) (h2 : tmps.getD 2 undef = .pointer (some ⟨q,0,none⟩)) (h3 : tmps.getD 3 undef = intV k) (h4 : tmps.getD 4 undef = intV i)
  (hb : Blk w q 65 (Qaq x)) : (results f48 tmps).run Tryz.prog w = .ok (.tuple #[.agg (Qaq x),intV k,intV i]) w := by
 have h2' : tmps[2]?.getD undef = .pointer (some ⟨q,0,none⟩) := by simpa using h2
 have h3' : tmps[3]?.getD undef = intV k := by simpa using h3
 have h4' : tmps[4]?.getD undef = intV i := by simpa using h4
 have hL := run_loadVar_row w q 65 65 (Qaq x) (0,0) _ hb underlying65 rfl (Qcg x);simp [results,Tryz.results48,h2',h3',h4',asAddr,hL]
theorem bad_rule (f : List Bs) (h : 9 < f.length) : Bad (QeK f) f.length := by
 unfold QeK;refine Qbl (Qhx _ _ _ _ (by decide) (by omega)) fun _ => ?_;refine Qbl (QcG _ _ _ _ (by decide) (by omega)) fun y => ?_;refine Qbl (QcG _ _ _ _ (by decide) (by omega)) fun z => ?_;refine Qbl (Qhx _ _ _ _ (by decide) (by omega)) fun _ => ?_;refine Qbl (QcG _ _ _ _ (by decide) (by omega)) fun m => ?_;refine Qbl (QcG _ _ _ _ (by decide) (by omega)) fun d => ?_;refine Qbl (Qhx _ _ _ _ (by decide) (by omega)) fun _ => ?_;refine Qbl (QcG _ _ _ _ (by decide) (by omega)) fun t => ?_;refine Qbl (QcG _ _ _ _ (by decide) (by omega)) fun s => ?_;exact Qbl (QcG _ _ _ _ (by decide) (by omega)) fun l => Qf8 _ _
theorem QoQ (fs : List Qat) (hz : ∀ k,(gt (fs.map (·.1)) k).length ≤ 900) (h1 : fs.length = 10) (b off c : Nat) (w : World) (hfd : S7.FdAt w (some ⟨b,off,none⟩) fs) : Calls Tryz.prog 48 #[.slice (some ⟨b,off,none⟩) fs.length c] w (LnR Qaq 9 (QeK (fs.map (·.1))) w) := by
 obtain ⟨R,hR⟩ : ∃ R,QeK (fs.map (·.1)) = R := ⟨_,rfl⟩;rw [hR];unfold QeK at hR;obtain ⟨x1,hx1⟩ : ∃ x,gt (fs.map (·.1)) 1 = x := ⟨_,rfl⟩;have hg1 := hz 1;rw [hx1] at hg1;simp only [hx1] at hR;have Q1 := Xi hx1;clear hx1;obtain ⟨x2,hx2⟩ : ∃ x,gt (fs.map (·.1)) 2 = x := ⟨_,rfl⟩;have hg2 := hz 2;rw [hx2] at hg2;simp only [hx2] at hR;have Q2 := Xi hx2;clear hx2;obtain ⟨x3,hx3⟩ : ∃ x,gt (fs.map (·.1)) 3 = x := ⟨_,rfl⟩;have hg3 := hz 3;rw [hx3] at hg3;simp only [hx3] at hR;have Q3 := Xi hx3;clear hx3;obtain ⟨x4,hx4⟩ : ∃ x,gt (fs.map (·.1)) 4 = x := ⟨_,rfl⟩;have hg4 := hz 4;rw [hx4] at hg4;simp only [hx4] at hR;have Q4 := Xi hx4;clear hx4;obtain ⟨x5,hx5⟩ : ∃ x,gt (fs.map (·.1)) 5 = x := ⟨_,rfl⟩;have hg5 := hz 5;rw [hx5] at hg5;simp only [hx5] at hR;have Q5 := Xi hx5;clear hx5;obtain ⟨x6,hx6⟩ : ∃ x,gt (fs.map (·.1)) 6 = x := ⟨_,rfl⟩;have hg6 := hz 6;rw [hx6] at hg6;simp only [hx6] at hR;have Q6 := Xi hx6;clear hx6;obtain ⟨x7,hx7⟩ : ∃ x,gt (fs.map (·.1)) 7 = x := ⟨_,rfl⟩;have hg7 := hz 7;rw [hx7] at hg7;simp only [hx7] at hR;have Q7 := Xi hx7;clear hx7;obtain ⟨x8,hx8⟩ : ∃ x,gt (fs.map (·.1)) 8 = x := ⟨_,rfl⟩;have hg8 := hz 8;rw [hx8] at hg8;simp only [hx8] at hR;have Q8 := Xi hx8;clear hx8;obtain ⟨x9,hx9⟩ : ∃ x,gt (fs.map (·.1)) 9 = x := ⟨_,rfl⟩;have hg9 := hz 9;rw [hx9] at hg9;simp only [hx9] at hR;have Q9 := Xi hx9;clear hx9;have HR := Xi hR;have HD := Xi hfd;have hf1 := Fr.new w (.cells Z04 65) (fun _ => False);have ck1 := (Qai (hfd.fr hf1) (k := 1) (by omega)).1;simp only [Nat.reduceMul] at ck1;rw [Q1.out] at ck1;have s1 : (w.alloc (.cells Z04 65)).heap.size = w.heap.size + 1 := by simp
 have hf2 := Fr.new (w.alloc (.cells Z04 65)) (.cells Z04 65) (fun _ => False);have hm := Blk.made (w.alloc (.cells Z04 65)) 65 Z04;rw [s1] at hm;have HM := Xi (show Blk _ (w.heap.size + 1) 65 (Qaq QdJ) from hm);have HZa := Xi (show Blk _ w.heap.size 65 (Qaq QdJ) from hf2.blk (Blk.made w 65 Z04) (fun h => h));have HFa := Xi (ff hf1 hf2);have n1 : (1 : Int) < (fs.length : Int) := by omega
 have n2 : (2 : Int) < (fs.length : Int) := by omega
 have n3 : (3 : Int) < (fs.length : Int) := by omega
 have n4 : (4 : Int) < (fs.length : Int) := by omega
 have n5 : (5 : Int) < (fs.length : Int) := by omega
 have n6 : (6 : Int) < (fs.length : Int) := by omega
 have n7 : (7 : Int) < (fs.length : Int) := by omega
 have n8 : (8 : Int) < (fs.length : Int) := by omega
 have n9 : (9 : Int) < (fs.length : Int) := by omega
 clear hf1 s1 hf2 hm hR hz hfd;go_enter func48,ntmps48;go_wp2_with (first
  | ((with_reducible refine Qab 65 ?_);refine Xs 65 (w.heap.size + 1) 0 65 (Qaq QdJ) (Qaq ⟨x1,0,0,0,dayZ,atZ,0,[]⟩) (Qaq ⟨x1,0,0,0,dayZ,atZ,0,[]⟩) HM.out (Qcg _) (Qbo _) (Qdv _ _) ?_;intro w0 hf0 hb0;have HX0 := Xi hb0;have HZ0 := Xo hf0 HZa;have HF0 := Xn HFa hf0;have ck2 := (Qai (HD.out.fr HF0.out) (k := 2) (by omega)).1;simp only [Nat.reduceMul] at ck2;rw [Q2.out] at ck2;have cn := blkc hb0 0 (strV x1) rfl;clear hf0 hb0 HZa HFa HM))
 clear ck1 cn;cases hq : Go.Kwd.Qc4 x1
 ·have hR := HR.out;rw [hq] at hR;simp only [Qa5,Qap] at hR;subst hR;refine (Qfj x1 hg1 _ _ hq).mono ?_;rintro e w0 ⟨rfl,rfl⟩;go_wp2_with (first
   | ((with_reducible refine Qam 65 ?_);refine Xl 65 (w.heap.size + 1) 0 65 (Qaq ⟨x1,0,0,0,dayZ,atZ,0,[]⟩) (Qaq ⟨x1,0,0,0,dayZ,atZ,0,[]⟩) HX0.out underlying65 (Qcg _) (Qaf _) ?_)
   | ((with_reducible refine Qab 65 ?_);refine Xs 65 w.heap.size 0 65 (Qaq QdJ) (Qaq ⟨x1,0,0,0,dayZ,atZ,0,[]⟩) (Qaq ⟨x1,0,0,0,dayZ,atZ,0,[]⟩) HZ0.out (Qcg _) (Qbo _) (Qdv _ _) ?_;intro w9 hf9 hb9;have HE9 := Xi hb9;have HF9 := Xn HF0 hf9;clear hf9 hb9))
  (try simp only [Exit.inBlock,Exit.then]);exact bodyPost_ret (Qa0 _ _ _ _ 5 1 rfl rfl rfl HE9.out) rfl ⟨HF9.out,⟨⟨x1,0,0,0,dayZ,atZ,0,[]⟩,rfl⟩⟩
 have hR := HR.out;rw [hq] at hR;simp only [Qbr,Qan] at hR;have HR := Xi hR;clear hR;refine (Qfj x1 hg1 _ _ hq).mono ?_;rintro e w0 ⟨rfl,rfl⟩;clear hq;go_wp2_with fail;clear ck2;rcases (QdA x2).symm with ⟨hv,hp⟩ | ⟨y,hv,hp⟩
 ·have hR := HR.out;rw [hp] at hR;simp only [QaH,Qap] at hR;subst hR;refine (Qdu x2 hg2 _ _ _ hv).mono ?_;rintro e w1 ⟨rfl,hf⟩;have HX1 := Xb hf HX0;have HZ1 := Xb hf HZ0;have HF1 := Xf HF0 hf;clear hf HX0 HZ0 HF0;go_wp2_with (first
   | ((with_reducible refine Qam 65 ?_);refine Xl 65 (w.heap.size + 1) 0 65 (Qaq ⟨x1,0,0,0,dayZ,atZ,0,[]⟩) (Qaq ⟨x1,0,0,0,dayZ,atZ,0,[]⟩) HX1.out underlying65 (Qcg _) (Qaf _) ?_)
   | ((with_reducible refine Qab 65 ?_);refine Xs 65 w.heap.size 0 65 (Qaq QdJ) (Qaq ⟨x1,0,0,0,dayZ,atZ,0,[]⟩) (Qaq ⟨x1,0,0,0,dayZ,atZ,0,[]⟩) HZ1.out (Qcg _) (Qbo _) (Qdv _ _) ?_;intro w9 hf9 hb9;have HE9 := Xi hb9;have HF9 := Xn HF1 hf9;clear hf9 hb9))
  (try simp only [Exit.inBlock,Exit.then]);exact bodyPost_ret (Qa0 _ _ _ _ 8 2 rfl rfl rfl HE9.out) rfl ⟨HF9.out,⟨⟨x1,0,0,0,dayZ,atZ,0,[]⟩,rfl⟩⟩
 have hR := HR.out;rw [hp] at hR;simp only [QaD,Qan] at hR;have HR := Xi hR;clear hR;refine (Qdu x2 hg2 _ _ _ hv).mono ?_;rintro e w1 ⟨rfl,hf⟩;have HX1 := Xb hf HX0;have HZ1 := Xb hf HZ0;have HF1 := Xf HF0 hf;clear hf HX0 HZ0 HF0;clear hv hp;go_wp2_with (first
  | ((with_reducible refine Qab 3 ?_);refine Xc 3 (w.heap.size + 1) 1 65 (Qaq ⟨x1,0,0,0,dayZ,atZ,0,[]⟩) (Qaq ⟨x1,y,0,0,dayZ,atZ,0,[]⟩) (intV y) HX1.out QaE (put_r1 _ _) ?_;intro w2 hf hb;have HX2 := Xi hb;have HZ2 := Xo hf HZ1;have HF2 := Xn HF1 hf;have ck3 := (Qai (HD.out.fr HF2.out) (k := 3) (by omega)).1;simp only [Nat.reduceMul] at ck3;rw [Q3.out] at ck3;have cf := blkc hb 1 (intV y) rfl;clear hf hb HX1 HZ1 HF1))
 rcases (QlU x3 y).symm with ⟨hv,hp⟩ | ⟨z,hv,hp⟩
 ·have hR := HR.out;rw [hp] at hR;simp only [QaH,Qap] at hR;subst hR;refine wp_region_held_drew (S := fun w' => Fr w2 w' (fun _ => False)) (by kernel_rfl) (Fr.drew w2 _) (fun hHeld => ?_);refine Xt 0 (v := ?_) (fun w' hSw => ?_) ?_;rotate_left
  ·skip;go_simp
   try with_reducible rfl
  try simp only [Act.put,Xa]
  refine Xt 1 (v := ?_) (fun w' hSw => ?_) ?_;rotate_left
  ·skip;go_simp
   try with_reducible rfl
  try simp only [Act.put,Xa]
  refine Xt 2 (v := ?_) (fun w' hSw => ?_) ?_;rotate_left
  ·skip;go_simp
   try with_reducible rfl
  try simp only [Act.put,Xa]
  refine Xt 3 (v := ?_) (fun w' hSw => ?_) ?_;rotate_left
  ·have k3 := Qdk hSw ck3 (fun h => h); go_simp; try with_reducible rfl
  try simp only [Act.put,Xa]
  refine Xt 4 (v := ?_) (fun w' hSw => ?_) ?_;rotate_left
  ·skip;go_simp
   try with_reducible rfl
  try simp only [Act.put,Xa]
  refine Xt 5 (v := ?_) (fun w' hSw => ?_) ?_;rotate_left
  ·have k1 := Qdk hSw cf (fun h => h); go_simp; try with_reducible rfl
  try simp only [Act.put,Xa]
  refine wpAnyH_ready (rs := [6]) (by kernel_rfl) (by simp) ?_;refine AllReadyH.cons rfl (fun K hK => ?_) AllReadyH.nil;go_simp;refine (QoO x3 y hg3 _ _ _ hv).mono ?_;rintro e w3 ⟨rfl,hf⟩;have hf := ff (Fr.drew w2 _) hf;have HX3 := Xb hf HX2;have HZ3 := Xb hf HZ2;have HF3 := Xf HF2 hf;refine hK.out _ _ hf (fun hHeld2 => ?_);clear hK K hHeld HX2 HZ2 HF2
  try simp only [Act.put,Xa]
  refine Xt 7 (v := ?_) (fun w' hSw => ?_) ?_;rotate_left
  ·skip;go_simp
   try with_reducible rfl
  try simp only [Act.put,Xa]
  refine Xt 8 (v := ?_) (fun w' hSw => ?_) ?_;rotate_left
  ·skip;go_simp
   try with_reducible rfl
  try simp only [Act.put,Xa]
  refine Xt 9 (v := ?_) (fun w' hSw => ?_) ?_;rotate_left
  ·skip;go_simp
   try with_reducible rfl
  try simp only [Act.put,Xa]
  refine Xt 10 (v := ?_) (fun w' hSw => ?_) ?_;rotate_left
  ·skip;go_simp
   try with_reducible rfl
  try simp only [Act.put,Xa]
  refine Xt 11 (v := ?_) (fun w' hSw => ?_) ?_;rotate_left
  ·skip;go_simp
   try with_reducible rfl
  try simp only [Act.put,Xa]
  refine wpAnyH_done (by kernel_rfl) ?_ _;clear hHeld2 hf ck3 cf;go_wp2_with (first
   | ((with_reducible refine Qam 65 ?_);refine Xl 65 (w.heap.size + 1) 0 65 (Qaq ⟨x1,y,0,0,dayZ,atZ,0,[]⟩) (Qaq ⟨x1,y,0,0,dayZ,atZ,0,[]⟩) HX3.out underlying65 (Qcg _) (Qaf _) ?_)
   | ((with_reducible refine Qab 65 ?_);refine Xs 65 w.heap.size 0 65 (Qaq QdJ) (Qaq ⟨x1,y,0,0,dayZ,atZ,0,[]⟩) (Qaq ⟨x1,y,0,0,dayZ,atZ,0,[]⟩) HZ3.out (Qcg _) (Qbo _) (Qdv _ _) ?_;intro w9 hf9 hb9;have HE9 := Xi hb9;have HF9 := Xn HF3 hf9;clear hf9 hb9))
  (try simp only [Exit.inBlock,Exit.then]);exact bodyPost_ret (Qa0 _ _ _ _ 8 3 rfl rfl rfl HE9.out) rfl ⟨HF9.out,⟨⟨x1,y,0,0,dayZ,atZ,0,[]⟩,rfl⟩⟩
 have hR := HR.out;rw [hp] at hR;simp only [QaD,Qan] at hR;have HR := Xi hR;clear hR;refine wp_region_held_drew (S := fun w' => Fr w2 w' (fun _ => False)) (by kernel_rfl) (Fr.drew w2 _) (fun hHeld => ?_);refine Xt 0 (v := ?_) (fun w' hSw => ?_) ?_;rotate_left
 ·skip;go_simp
  try with_reducible rfl
 try simp only [Act.put,Xa]
 refine Xt 1 (v := ?_) (fun w' hSw => ?_) ?_;rotate_left
 ·skip;go_simp
  try with_reducible rfl
 try simp only [Act.put,Xa]
 refine Xt 2 (v := ?_) (fun w' hSw => ?_) ?_;rotate_left
 ·skip;go_simp
  try with_reducible rfl
 try simp only [Act.put,Xa]
 refine Xt 3 (v := ?_) (fun w' hSw => ?_) ?_;rotate_left
 ·have k3 := Qdk hSw ck3 (fun h => h); go_simp; try with_reducible rfl
 try simp only [Act.put,Xa]
 refine Xt 4 (v := ?_) (fun w' hSw => ?_) ?_;rotate_left
 ·skip;go_simp
  try with_reducible rfl
 try simp only [Act.put,Xa]
 refine Xt 5 (v := ?_) (fun w' hSw => ?_) ?_;rotate_left
 ·have k1 := Qdk hSw cf (fun h => h); go_simp; try with_reducible rfl
 try simp only [Act.put,Xa]
 refine wpAnyH_ready (rs := [6]) (by kernel_rfl) (by simp) ?_;refine AllReadyH.cons rfl (fun K hK => ?_) AllReadyH.nil;go_simp;refine (QoO x3 y hg3 _ _ _ hv).mono ?_;rintro e w3 ⟨rfl,hf⟩;have hf := ff (Fr.drew w2 _) hf;have HX3 := Xb hf HX2;have HZ3 := Xb hf HZ2;have HF3 := Xf HF2 hf;refine hK.out _ _ hf (fun hHeld2 => ?_);clear hK K hHeld HX2 HZ2 HF2
 try simp only [Act.put,Xa]
 refine Xt 7 (v := ?_) (fun w' hSw => ?_) ?_;rotate_left
 ·skip;go_simp
  try with_reducible rfl
 try simp only [Act.put,Xa]
 refine Xt 8 (v := ?_) (fun w' hSw => ?_) ?_;rotate_left
 ·skip;go_simp
  try with_reducible rfl
 try simp only [Act.put,Xa]
 refine Xt 9 (v := ?_) (fun w' hSw => ?_) ?_;rotate_left
 ·skip;go_simp
  try with_reducible rfl
 try simp only [Act.put,Xa]
 refine Xt 10 (v := ?_) (fun w' hSw => ?_) ?_;rotate_left
 ·skip;go_simp
  try with_reducible rfl
 try simp only [Act.put,Xa]
 refine Xt 11 (v := ?_) (fun w' hSw => ?_) ?_;rotate_left
 ·skip;go_simp
  try with_reducible rfl
 try simp only [Act.put,Xa]
 refine wpAnyH_done (by kernel_rfl) ?_ _;clear hHeld2 hf ck3 cf;clear hv hp;by_cases hd : x4 = [45]
 rotate_left
 ·have hR := HR.out;rw [decide_eq_false hd] at hR;simp only [Qa5,Qap] at hR;subst hR;have e1 : (x4 == [45]) = false := by simpa using hd
  have e2 : (x4 != [45]) = true := by simpa using hd
  go_wp2_with (first
   | ((with_reducible refine Qab 3 ?_);refine Xc 3 (w.heap.size + 1) 2 65 (Qaq ⟨x1,y,0,0,dayZ,atZ,0,[]⟩) (Qaq ⟨x1,y,z,0,dayZ,atZ,0,[]⟩) (intV z) HX3.out QaE (Qpl _ _) ?_;intro w4 hf hb;have HX4 := Xi hb;have HZ4 := Xo hf HZ3;have HF4 := Xn HF3 hf;have ck4 := (Qai (HD.out.fr HF4.out) (k := 4) (by omega)).1;simp only [Nat.reduceMul] at ck4;rw [Q4.out] at ck4;clear hf hb HX3 HZ3 HF3)
   | ((with_reducible refine Qam 65 ?_);refine Xl 65 (w.heap.size + 1) 0 65 (Qaq ⟨x1,y,z,0,dayZ,atZ,0,[]⟩) (Qaq ⟨x1,y,z,0,dayZ,atZ,0,[]⟩) HX4.out underlying65 (Qcg _) (Qaf _) ?_)
   | ((with_reducible refine Qab 65 ?_);refine Xs 65 w.heap.size 0 65 (Qaq QdJ) (Qaq ⟨x1,y,z,0,dayZ,atZ,0,[]⟩) (Qaq ⟨x1,y,z,0,dayZ,atZ,0,[]⟩) HZ4.out (Qcg _) (Qbo _) (Qdv _ _) ?_;intro w9 hf9 hb9;have HE9 := Xi hb9;have HF9 := Xn HF4 hf9;clear hf9 hb9))
  (try simp only [Exit.inBlock,Exit.then]);exact bodyPost_ret (Qa0 _ _ _ _ 3 4 rfl rfl rfl HE9.out) rfl ⟨HF9.out,⟨⟨x1,y,z,0,dayZ,atZ,0,[]⟩,rfl⟩⟩
 have hR := HR.out;rw [decide_eq_true hd] at hR;simp only [Qbr,Qan] at hR;have HR := Xi hR;clear hR;have e1 : (x4 == [45]) = true := by simpa using hd
 have e2 : (x4 != [45]) = false := by simpa using hd
 go_wp2_with (first
  | ((with_reducible refine Qab 3 ?_);refine Xc 3 (w.heap.size + 1) 2 65 (Qaq ⟨x1,y,0,0,dayZ,atZ,0,[]⟩) (Qaq ⟨x1,y,z,0,dayZ,atZ,0,[]⟩) (intV z) HX3.out QaE (Qpl _ _) ?_;intro w4 hf hb;have HX4 := Xi hb;have HZ4 := Xo hf HZ3;have HF4 := Xn HF3 hf;have ck4 := (Qai (HD.out.fr HF4.out) (k := 4) (by omega)).1;simp only [Nat.reduceMul] at ck4;rw [Q4.out] at ck4;have ck5 := (Qai (HD.out.fr HF4.out) (k := 5) (by omega)).1;simp only [Nat.reduceMul] at ck5;rw [Q5.out] at ck5;clear hf hb HX3 HZ3 HF3))
 clear ck4 ck5 e1 e2 hd;obtain ⟨n,hm⟩ : ∃ n : Nat,Go.Kwd.Qcw x5 = n := ⟨_,rfl⟩;by_cases hn0 : n = 0
 ·subst hn0;have hp : Qb2 x5 = none := by unfold Qb2; rw [hm]; rfl
  have hR := HR.out;rw [hp] at hR;simp only [QaH,Qap] at hR;subst hR;refine (QcX x5 hg5 _ 0 hm).mono ?_;rintro e w5 ⟨rfl,hf⟩;have HX5 := Xb hf HX4;have HZ5 := Xb hf HZ4;have HF5 := Xf HF4 hf;clear hf HX4 HZ4 HF4;go_wp2_with (first
   | ((with_reducible refine Qab 3 ?_);refine Xc 3 (w.heap.size + 1) 3 65 (Qaq ⟨x1,y,z,0,dayZ,atZ,0,[]⟩) (Qaq ⟨x1,y,z,0,dayZ,atZ,0,[]⟩) (intV 0) HX5.out QaE (Qpk _ _) ?_;intro w6 hf hb;have HX6 := Xi hb;have HZ6 := Xo hf HZ5;have HF6 := Xn HF5 hf;have cm := blkc hb 3 (intV 0) rfl;clear hf hb HX5 HZ5 HF5)
   | ((with_reducible refine Qam 65 ?_);refine Xl 65 (w.heap.size + 1) 0 65 (Qaq ⟨x1,y,z,0,dayZ,atZ,0,[]⟩) (Qaq ⟨x1,y,z,0,dayZ,atZ,0,[]⟩) HX6.out underlying65 (Qcg _) (Qaf _) ?_)
   | ((with_reducible refine Qab 65 ?_);refine Xs 65 w.heap.size 0 65 (Qaq QdJ) (Qaq ⟨x1,y,z,0,dayZ,atZ,0,[]⟩) (Qaq ⟨x1,y,z,0,dayZ,atZ,0,[]⟩) HZ6.out (Qcg _) (Qbo _) (Qdv _ _) ?_;intro w9 hf9 hb9;have HE9 := Xi hb9;have HF9 := Xn HF6 hf9;clear hf9 hb9))
  (try simp only [Exit.inBlock,Exit.then]);exact bodyPost_ret (Qa0 _ _ _ _ 6 5 rfl rfl rfl HE9.out) rfl ⟨HF9.out,⟨⟨x1,y,z,0,dayZ,atZ,0,[]⟩,rfl⟩⟩
 have hp : Qb2 x5 = some (n : Int) := by unfold Qb2; rw [hm,if_neg hn0]
 have hR := HR.out;rw [hp] at hR;simp only [QaD,Qan] at hR;have HR := Xi hR;clear hR;refine (QcX x5 hg5 _ n hm).mono ?_;rintro e w5 ⟨rfl,hf⟩;have HX5 := Xb hf HX4;have HZ5 := Xb hf HZ4;have HF5 := Xf HF4 hf;clear hf HX4 HZ4 HF4;have hn00 : ((n : Int) == 0) = false := by rw [beq_eq_false_iff_ne]; omega
 clear hm hp hn0;go_wp2_with (first
  | ((with_reducible refine Qab 3 ?_);refine Xc 3 (w.heap.size + 1) 3 65 (Qaq ⟨x1,y,z,0,dayZ,atZ,0,[]⟩) (Qaq ⟨x1,y,z,(n : Int),dayZ,atZ,0,[]⟩) (intV (n : Int)) HX5.out QaE (Qpk _ _) ?_;intro w6 hf hb;have HX6 := Xi hb;have HZ6 := Xo hf HZ5;have HF6 := Xn HF5 hf;have ck6 := (Qai (HD.out.fr HF6.out) (k := 6) (by omega)).1;simp only [Nat.reduceMul] at ck6;rw [Q6.out] at ck6;have cm := blkc hb 3 (intV (n : Int)) rfl;clear hf hb HX5 HZ5 HF5))
 clear ck6 cm hn00;obtain ⟨d,hv⟩ : ∃ d,dayW x6 = d := ⟨_,rfl⟩;obtain ⟨d,k⟩ := d;have hdc : (k = 0 ∧ dayP x6 = some d) ∨ (k = 6 ∧ dayP x6 = none) := by
  unfold dayW at hv;cases hp : dayP x6 with
  | none => rw [hp] at hv; obtain ⟨rfl,rfl⟩ := Prod.mk.inj hv; exact .inr ⟨rfl,rfl⟩
  | some x => rw [hp] at hv; obtain ⟨rfl,rfl⟩ := Prod.mk.inj hv; exact .inl ⟨rfl,rfl⟩
 rcases hdc.symm with ⟨rfl,hp⟩ | ⟨rfl,hp⟩
 ·have hR := HR.out;rw [hp] at hR;simp only [QaH,Qap] at hR;subst hR;refine (Qex x6 hg6 _ d _ hv).mono ?_;rintro e w7 ⟨rfl,hf⟩;have HX7 := Xb hf HX6;have HZ7 := Xb hf HZ6;have HF7 := Xf HF6 hf;clear hf HX6 HZ6 HF6;go_wp2_with (first
   | ((with_reducible refine Qab 61 ?_);refine Xs 61 w7.heap.size 0 61 (dayC dayZ) (dayC d) (dayC d) (Blk.made w7 61 #[intV 0,intV 0,intV 0]) (Qcb _) (Qbq _) (QaG rfl) ?_;intro w8 hf hb;have hf' := (Fr.new w7 (.cells #[intV 0,intV 0,intV 0] 61) (fun _ => False)).fresh hf (fun i e => by omega);have HX8 := Xi (hf'.blk HX7.out (fun h => h));have HZ8 := Xi (hf'.blk HZ7.out (fun h => h));have HF8 := Xi (ff HF7.out hf');have HV8 := Xi hb;clear hf hb hf' HX7 HZ7 HF7)
   | ((with_reducible refine Qam 65 ?_);refine Xl 65 (w.heap.size + 1) 0 65 (Qaq ⟨x1,y,z,(n : Int),dayZ,atZ,0,[]⟩) (Qaq ⟨x1,y,z,(n : Int),dayZ,atZ,0,[]⟩) HX8.out underlying65 (Qcg _) (Qaf _) ?_)
   | ((with_reducible refine Qab 65 ?_);refine Xs 65 w.heap.size 0 65 (Qaq QdJ) (Qaq ⟨x1,y,z,(n : Int),dayZ,atZ,0,[]⟩) (Qaq ⟨x1,y,z,(n : Int),dayZ,atZ,0,[]⟩) HZ8.out (Qcg _) (Qbo _) (Qdv _ _) ?_;intro w9 hf9 hb9;have HE9 := Xi hb9;have HF9 := Xn HF8 hf9;clear hf9 hb9))
  (try simp only [Exit.inBlock,Exit.then]);exact bodyPost_ret (Qa0 _ _ _ _ 6 6 rfl rfl rfl HE9.out) rfl ⟨HF9.out,⟨⟨x1,y,z,(n : Int),dayZ,atZ,0,[]⟩,rfl⟩⟩
 have hdk := QdD hp;have hR := HR.out;rw [hp] at hR;simp only [QaD,Qan] at hR;have HR := Xi hR;clear hR;refine (Qex x6 hg6 _ d _ hv).mono ?_;rintro e w7 ⟨rfl,hf⟩;have HX7 := Xb hf HX6;have HZ7 := Xb hf HZ6;have HF7 := Xf HF6 hf;clear hf HX6 HZ6 HF6;clear hv hp hdc;go_wp2_with (first
  | ((with_reducible refine Qab 61 ?_);refine Xs 61 w7.heap.size 0 61 (dayC dayZ) (dayC d) (dayC d) (Blk.made w7 61 #[intV 0,intV 0,intV 0]) (Qcb _) (Qbq _) (QaG rfl) ?_;intro w8 hf hb;have hf' := (Fr.new w7 (.cells #[intV 0,intV 0,intV 0] 61) (fun _ => False)).fresh hf (fun i e => by omega);have HX8 := Xi (hf'.blk HX7.out (fun h => h));have HZ8 := Xi (hf'.blk HZ7.out (fun h => h));have HF8 := Xi (ff HF7.out hf');have HV8 := Xi hb;have cm := blkc HX8.out 3 (intV (n : Int)) rfl;clear hf hb hf' HX7 HZ7 HF7)
  | ((with_reducible refine Qam 61 ?_);refine Xl 61 w7.heap.size 0 61 (dayC d) (dayC d) HV8.out underlying61 (Qcb _) (Qaf _) ?_))
 clear cm;obtain ⟨q,hq⟩ : ∃ q,canB d 2000 (n : Int) = q := ⟨_,rfl⟩;have HO := Xi (fun W => QkF d hdk 2000 (n : Int) W);rw [hq] at HO;have hR := HR.out;rw [hq] at hR;clear hq HR;cases q with
 | false =>
  simp only [Qa5,Qap] at hR;subst hR;refine (HO.out _).mono ?_;rintro e w9 ⟨n9,rfl,hf⟩;have HX9 := Xb hf HX8;have HZ9 := Xb hf HZ8;have HF9 := Xf HF8 hf;clear hf HX8 HZ8 HF8;go_wp2_with (first
   | ((with_reducible refine Qam 65 ?_);refine Xl 65 (w.heap.size + 1) 0 65 (Qaq ⟨x1,y,z,(n : Int),dayZ,atZ,0,[]⟩) (Qaq ⟨x1,y,z,(n : Int),dayZ,atZ,0,[]⟩) HX9.out underlying65 (Qcg _) (Qaf _) ?_)
   | ((with_reducible refine Qab 65 ?_);refine Xs 65 w.heap.size 0 65 (Qaq QdJ) (Qaq ⟨x1,y,z,(n : Int),dayZ,atZ,0,[]⟩) (Qaq ⟨x1,y,z,(n : Int),dayZ,atZ,0,[]⟩) HZ9.out (Qcg _) (Qbo _) (Qdv _ _) ?_;intro w9 hf9 hb9;have HE9 := Xi hb9;have HF9 := Xn HF9 hf9;clear hf9 hb9))
  (try simp only [Exit.inBlock,Exit.then]);exact bodyPost_ret (Qa0 _ _ _ _ 6 6 rfl rfl rfl HE9.out) rfl ⟨HF9.out,⟨⟨x1,y,z,(n : Int),dayZ,atZ,0,[]⟩,rfl⟩⟩
 | true =>
  simp only [Qbr,Qan] at hR;have HR := Xi hR;clear hR;refine (HO.out _).mono ?_;rintro e w9 ⟨n9,rfl,hf⟩;have HX9 := Xb hf HX8;have HZ9 := Xb hf HZ8;have HF9 := Xf HF8 hf;have HV9 := Xb hf HV8;clear hf HX8 HZ8 HF8;go_wp2_with (first
   | ((with_reducible refine Qam 61 ?_);refine Xl 61 w7.heap.size 0 61 (dayC d) (dayC d) HV9.out underlying61 (Qcb _) (Qaf _) ?_)
   | ((with_reducible refine Qab 61 ?_);refine Xs 61 (w.heap.size + 1) 4 65 (Qaq ⟨x1,y,z,(n : Int),dayZ,atZ,0,[]⟩) (dayC d) (Qaq ⟨x1,y,z,(n : Int),d,atZ,0,[]⟩) HX9.out (Qcb _) (Qbq _) (put_r4 _ _) ?_;intro w10 hf hb;have HX10 := Xi hb;have HZ10 := Xo hf HZ9;have HF10 := Xn HF9 hf;have ck7 := (Qai (HD.out.fr HF10.out) (k := 7) (by omega)).1;simp only [Nat.reduceMul] at ck7;rw [Q7.out] at ck7;clear hf hb HX9 HZ9 HF9))
  clear ck7;rcases (Qdr x7).symm with ⟨hv,hp⟩ | ⟨t,hv,hp⟩
  ·have hR := HR.out;rw [hp] at hR;simp only [QaH,Qap] at hR;subst hR;refine (Qbu x7 hg7 _ _ _ hv).mono ?_;rintro e w11 ⟨rfl,hf⟩;have HX11 := Xb hf HX10;have HZ11 := Xb hf HZ10;have HF11 := Xf HF10 hf;clear hf HX10 HZ10 HF10;go_wp2_with (first
    | ((with_reducible refine Qab 63 ?_);refine Xs 63 (w.heap.size + 1) 7 65 (Qaq ⟨x1,y,z,(n : Int),d,atZ,0,[]⟩) (atC atZ) (Qaq ⟨x1,y,z,(n : Int),d,atZ,0,[]⟩) HX11.out (Qeg _) (QcH _) (Qpj _ _) ?_;intro w12 hf hb;have HX12 := Xi hb;have HZ12 := Xo hf HZ11;have HF12 := Xn HF11 hf;clear hf hb HX11 HZ11 HF11)
    | ((with_reducible refine Qam 65 ?_);refine Xl 65 (w.heap.size + 1) 0 65 (Qaq ⟨x1,y,z,(n : Int),d,atZ,0,[]⟩) (Qaq ⟨x1,y,z,(n : Int),d,atZ,0,[]⟩) HX12.out underlying65 (Qcg _) (Qaf _) ?_)
    | ((with_reducible refine Qab 65 ?_);refine Xs 65 w.heap.size 0 65 (Qaq QdJ) (Qaq ⟨x1,y,z,(n : Int),d,atZ,0,[]⟩) (Qaq ⟨x1,y,z,(n : Int),d,atZ,0,[]⟩) HZ12.out (Qcg _) (Qbo _) (Qdv _ _) ?_;intro w9 hf9 hb9;have HE9 := Xi hb9;have HF9 := Xn HF12 hf9;clear hf9 hb9))
   (try simp only [Exit.inBlock,Exit.then]);exact bodyPost_ret (Qa0 _ _ _ _ 7 7 rfl rfl rfl HE9.out) rfl ⟨HF9.out,⟨⟨x1,y,z,(n : Int),d,atZ,0,[]⟩,rfl⟩⟩
  have hR := HR.out;rw [hp] at hR;simp only [QaD,Qan] at hR;have HR := Xi hR;clear hR;refine (Qbu x7 hg7 _ _ _ hv).mono ?_;rintro e w11 ⟨rfl,hf⟩;have HX11 := Xb hf HX10;have HZ11 := Xb hf HZ10;have HF11 := Xf HF10 hf;clear hf HX10 HZ10 HF10;clear hv hp;go_wp2_with (first
   | ((with_reducible refine Qab 63 ?_);refine Xs 63 (w.heap.size + 1) 7 65 (Qaq ⟨x1,y,z,(n : Int),d,atZ,0,[]⟩) (atC t) (Qaq ⟨x1,y,z,(n : Int),d,t,0,[]⟩) HX11.out (Qeg _) (QcH _) (Qpj _ _) ?_;intro w12 hf hb;have HX12 := Xi hb;have HZ12 := Xo hf HZ11;have HF12 := Xn HF11 hf;have ck8 := (Qai (HD.out.fr HF12.out) (k := 8) (by omega)).1;simp only [Nat.reduceMul] at ck8;rw [Q8.out] at ck8;clear hf hb HX11 HZ11 HF11))
  clear ck8;rcases (Qdf x8).symm with ⟨hv,hp⟩ | ⟨s,hv,hp⟩
  ·have hR := HR.out;rw [hp] at hR;simp only [QaH,Qap] at hR;subst hR;refine (QbI x8 hg8 _ _ _ hv).mono ?_;rintro e w13 ⟨rfl,hf⟩;have HX13 := Xb hf HX12;have HZ13 := Xb hf HZ12;have HF13 := Xf HF12 hf;clear hf HX12 HZ12 HF12;go_wp2_with (first
    | ((with_reducible refine Qab 3 ?_);refine Xc 3 (w.heap.size + 1) 9 65 (Qaq ⟨x1,y,z,(n : Int),d,t,0,[]⟩) (Qaq ⟨x1,y,z,(n : Int),d,t,0,[]⟩) (intV 0) HX13.out QaE (Qpi _ _) ?_;intro w14 hf hb;have HX14 := Xi hb;have HZ14 := Xo hf HZ13;have HF14 := Xn HF13 hf;clear hf hb HX13 HZ13 HF13)
    | ((with_reducible refine Qam 65 ?_);refine Xl 65 (w.heap.size + 1) 0 65 (Qaq ⟨x1,y,z,(n : Int),d,t,0,[]⟩) (Qaq ⟨x1,y,z,(n : Int),d,t,0,[]⟩) HX14.out underlying65 (Qcg _) (Qaf _) ?_)
    | ((with_reducible refine Qab 65 ?_);refine Xs 65 w.heap.size 0 65 (Qaq QdJ) (Qaq ⟨x1,y,z,(n : Int),d,t,0,[]⟩) (Qaq ⟨x1,y,z,(n : Int),d,t,0,[]⟩) HZ14.out (Qcg _) (Qbo _) (Qdv _ _) ?_;intro w9 hf9 hb9;have HE9 := Xi hb9;have HF9 := Xn HF14 hf9;clear hf9 hb9))
   (try simp only [Exit.inBlock,Exit.then]);exact bodyPost_ret (Qa0 _ _ _ _ 7 8 rfl rfl rfl HE9.out) rfl ⟨HF9.out,⟨⟨x1,y,z,(n : Int),d,t,0,[]⟩,rfl⟩⟩
  have hR := HR.out;rw [hp] at hR;simp only [QaD,Qan] at hR;have HR := Xi hR;clear hR;refine (QbI x8 hg8 _ _ _ hv).mono ?_;rintro e w13 ⟨rfl,hf⟩;have HX13 := Xb hf HX12;have HZ13 := Xb hf HZ12;have HF13 := Xf HF12 hf;clear hf HX12 HZ12 HF12;clear hv hp;go_wp2_with (first
   | ((with_reducible refine Qab 3 ?_);refine Xc 3 (w.heap.size + 1) 9 65 (Qaq ⟨x1,y,z,(n : Int),d,t,0,[]⟩) (Qaq ⟨x1,y,z,(n : Int),d,t,s,[]⟩) (intV s) HX13.out QaE (Qpi _ _) ?_;intro w14 hf hb;have HX14 := Xi hb;have HZ14 := Xo hf HZ13;have HF14 := Xn HF13 hf;have ck9 := (Qai (HD.out.fr HF14.out) (k := 9) (by omega)).1;simp only [Nat.reduceMul] at ck9;rw [Q9.out] at ck9;clear hf hb HX13 HZ13 HF13))
  clear ck9;rcases (QiI x9).symm with ⟨hv,hp⟩ | ⟨l,hv,hp⟩
  ·have hR := HR.out;rw [hp] at hR;simp only [QaH,Qap] at hR;subst hR;refine (Qf2 x9 _ hg9 _ _ hv).mono ?_;rintro e w15 ⟨rfl,hf⟩;have HX15 := Xb hf HX14;have HZ15 := Xb hf HZ14;have HF15 := Xf HF14 hf;clear hf HX14 HZ14 HF14;go_wp2_with (first
    | ((with_reducible refine Qab 9 ?_);refine Xc 9 (w.heap.size + 1) 10 65 (Qaq ⟨x1,y,z,(n : Int),d,t,s,[]⟩) (Qaq ⟨x1,y,z,(n : Int),d,t,s,[]⟩) (strV []) HX15.out QaN (QkS _ _) ?_;intro w16 hf hb;have HX16 := Xi hb;have HZ16 := Xo hf HZ15;have HF16 := Xn HF15 hf;clear hf hb HX15 HZ15 HF15)
    | ((with_reducible refine Qam 65 ?_);refine Xl 65 (w.heap.size + 1) 0 65 (Qaq ⟨x1,y,z,(n : Int),d,t,s,[]⟩) (Qaq ⟨x1,y,z,(n : Int),d,t,s,[]⟩) HX16.out underlying65 (Qcg _) (Qaf _) ?_)
    | ((with_reducible refine Qab 65 ?_);refine Xs 65 w.heap.size 0 65 (Qaq QdJ) (Qaq ⟨x1,y,z,(n : Int),d,t,s,[]⟩) (Qaq ⟨x1,y,z,(n : Int),d,t,s,[]⟩) HZ16.out (Qcg _) (Qbo _) (Qdv _ _) ?_;intro w9 hf9 hb9;have HE9 := Xi hb9;have HF9 := Xn HF16 hf9;clear hf9 hb9))
   (try simp only [Exit.inBlock,Exit.then]);exact bodyPost_ret (Qa0 _ _ _ _ 15 9 rfl rfl rfl HE9.out) rfl ⟨HF9.out,⟨⟨x1,y,z,(n : Int),d,t,s,[]⟩,rfl⟩⟩
  have hR := HR.out;rw [hp] at hR;simp only [QaD,Qan] at hR;subst hR;refine (Qf2 x9 _ hg9 _ _ hv).mono ?_;rintro e w15 ⟨rfl,hf⟩;have HX15 := Xb hf HX14;have HZ15 := Xb hf HZ14;have HF15 := Xf HF14 hf;clear hf HX14 HZ14 HF14;go_wp2_with (first
   | ((with_reducible refine Qab 9 ?_);refine Xc 9 (w.heap.size + 1) 10 65 (Qaq ⟨x1,y,z,(n : Int),d,t,s,[]⟩) (Qaq ⟨x1,y,z,(n : Int),d,t,s,l⟩) (strV l) HX15.out QaN (QkS _ _) ?_;intro w16 hf hb;have HX16 := Xi hb;have HZ16 := Xo hf HZ15;have HF16 := Xn HF15 hf;clear hf hb HX15 HZ15 HF15)
   | ((with_reducible refine Qam 65 ?_);refine Xl 65 (w.heap.size + 1) 0 65 (Qaq ⟨x1,y,z,(n : Int),d,t,s,l⟩) (Qaq ⟨x1,y,z,(n : Int),d,t,s,l⟩) HX16.out underlying65 (Qcg _) (Qaf _) ?_)
   | ((with_reducible refine Qab 65 ?_);refine Xs 65 w.heap.size 0 65 (Qaq QdJ) (Qaq ⟨x1,y,z,(n : Int),d,t,s,l⟩) (Qaq ⟨x1,y,z,(n : Int),d,t,s,l⟩) HZ16.out (Qcg _) (Qbo _) (Qdv _ _) ?_;intro w9 hf9 hb9;have HE9 := Xi hb9;have HF9 := Xn HF16 hf9;clear hf9 hb9))
  (try simp only [Exit.inBlock,Exit.then]);exact bodyPost_ret (Qa0 _ _ _ _ 0 9 rfl rfl rfl HE9.out) rfl ⟨HF9.out,rfl⟩
end Go.Proofs.YtodcnbejnchmhaaGreatDoor
