import Derived.Test.YtodcnbejnchmhaaGreatDoorYc48
import Derived.Test.YtodcnbejnchmhaaGreatDoorYc49
import Derived.Test.YtodcnbejnchmhaaGreatDoorYc42
import Derived.Test.YtodcnbejnchmhaaGreatDoorYc41
import Derived.Test.YtodcnbejnchmhaaGreatDoorYc32
import Derived.Test.YtodcnbejnchmhaaGreatDoorYc33
set_option maxRecDepth 100000
set_option maxHeartbeats 25600000
namespace Go.Proofs.YtodcnbejnchmhaaGreatDoor
open _root_.Go.Proofs.Tryz
open Go.RowKit Go.Mem Go.Lin
theorem QkD (l : Bs) (fs : List Qat) (hO : S7.Qbi l = (fs,0,0)) (hz : ∀ k,(gt (fs.map (·.1)) k).length ≤ 900) (hne : fs ≠ []) (hc : QeM (gt (fs.map (·.1)) 0) = false) (hh : Go.Kwd.headD (gt (fs.map (·.1)) 0) = 3) (hl : l.length ≤ 100000) (w : World) (X : LineL) (hX : Qdi fs = X) : Calls Tryz.prog 29 #[strV l] w fun e w' => e = .returned (QeL X) ∧ Fr w w' (fun _ => False) := by
 have hpos : 0 < fs.length := List.length_pos_iff.2 hne;have hf1 := Fr.new w (.cells Z02 71) (fun _ => False);have HZ0 := Xi (show Blk _ w.heap.size 71 (Qad Qae) from Blk.made w 71 Z02);have HF0 := Xi hf1;have s1 : (w.alloc (.cells Z02 71)).heap.size = w.heap.size + 1 := by simp
 have HP := Xi (Qb1 l (w.alloc (.cells Z02 71)) (by omega));rw [hO] at HP;unfold Qdi at hX;rw [if_neg hne] at hX;obtain ⟨x0,hx0⟩ : ∃ x,gt (fs.map (·.1)) 0 = x := ⟨_,rfl⟩;have hg0 := hz 0;rw [hx0] at hg0;simp only [hx0] at hX hc hh;have Q0 := Xi hx0;clear hx0;obtain ⟨x1,hx1⟩ : ∃ x,gt (fs.map (·.1)) 1 = x := ⟨_,rfl⟩;have hg1 := hz 1;rw [hx1] at hg1;simp only [hx1] at hX;have Q1 := Xi hx1;clear hx1;obtain ⟨x2,hx2⟩ : ∃ x,gt (fs.map (·.1)) 2 = x := ⟨_,rfl⟩;have hg2 := hz 2;rw [hx2] at hg2;simp only [hx2] at hX;have Q2 := Xi hx2;clear hx2;obtain ⟨c0,hc0⟩ : ∃ x,QbW fs 0 = x := ⟨_,rfl⟩
 try simp only [hc0] at hX
 have C0 := Xi hc0;clear hc0;obtain ⟨c1,hc1⟩ : ∃ x,QbW fs 1 = x := ⟨_,rfl⟩
 try simp only [hc1] at hX
 have C1 := Xi hc1;clear hc1;obtain ⟨c2,hc2⟩ : ∃ x,QbW fs 2 = x := ⟨_,rfl⟩
 try simp only [hc2] at hX
 have C2 := Xi hc2;clear hc2;rw [if_neg (by rw [hc]; decide),if_neg (by rw [hh]; decide),if_neg (by rw [hh]; decide),if_pos hh] at hX;have HL := Xi hX;clear hX;obtain ⟨z,hzz⟩ : ∃ z,Go.Kwd.headD x0 = z := ⟨_,rfl⟩;have HH := Xi (fun W => Qfl x0 hg0 W z hzz);rw [hzz] at hh;have z1 : ((z : Int) == 1) = false := by rw [hh]; rfl
 have z2 : ((z : Int) == 2) = false := by rw [hh]; rfl
 have z3 : ((z : Int) == 3) = true := by rw [hh]; rfl
 clear hzz hh;obtain ⟨s,hs⟩ : ∃ s : ByteArray,strV x0 = Value.string s := ⟨_,rfl⟩;have hsx : s.data.toList = x0 := by
  injection hs with hs;rw [← hs]
 rw [← hsx] at hc;have S0 := Xi hs;rw [hs] at HH;clear hsx hs hz hne hO hl hf1;have hch := QiW hc;clear hc;have hch : ((s.size : Int) ≤ 0 ∨ ∃ (hs : 0 < s.size) (_ : (0 : Int) < (s.size : Int)),((s[0].toNat : Int) == 45) = false ∧ (s[0].toNat : Int) < 48) ∨ ∃ (hs : 0 < s.size) (_ : (0 : Int) < (s.size : Int)),((s[0].toNat : Int) == 45) = false ∧ (48 : Int) ≤ (s[0].toNat : Int) ∧ (57 : Int) < (s[0].toNat : Int) := by
  rcases hch with h | ⟨h,h1,h2 | h2⟩
  ·exact .inl (.inl (by omega))
  ·exact .inl (.inr ⟨h,by omega,h1,h2⟩)
  ·exact .inr ⟨h,by omega,h1,h2⟩
 rcases hch with (i0 | ⟨hs0,i0,f1,f2⟩) | ⟨hs0,i0,f1,f2,f3⟩
 all_goals
  by_cases hn : fs.length = 3
  ·have hX := HL.out;rw [if_neg (by simpa using hn)] at hX;have e1 : ((fs.length : Int) == 3) = true := by rw [hn]; rfl
   have e2 : ((fs.length : Int) != 3) = false := by rw [hn]; rfl
   have n1 : (1 : Int) < (fs.length : Int) := by omega
   have n2 : (2 : Int) < (fs.length : Int) := by omega
   have h2 : 2 < fs.length := by omega
   unfold QpE at hX
   try simp only [Q1.out,Q2.out] at hX
   have HL := Xi hX;clear hX hn;cases hz1 : Go.Kwd.Qcd x1
   ·have hX := HL.out;rw [hz1] at hX;have hX : QaC 5 (QbW fs 1) = X := hX;rw [C1.out] at hX;subst hX;go_enter func29,ntmps29;go_wp2_with fail;refine HP.out.mono ?_;rintro e w1 ⟨A,cap,rfl,hfd,hcap,hf⟩;obtain ⟨b,off,rfl,-⟩ := hfd.2 hpos;have hbl : b < w1.heap.size := Rd.lt hfd hpos (by decide);have hs1 : w.heap.size + 1 ≤ w1.heap.size := by have := hf.size; omega
    have HZ1 := Xb hf HZ0;have HF1 := Xf HF0 hf;have HD1 := Xi hfd;have cx := Qai HD1.out (k := 0) (by omega);simp only [Nat.reduceMul,Nat.add_zero] at cx;have ck0 := cx.1;rw [Q0.out,S0.out] at ck0;have cc0 := cx.2
    try simp only [Nat.add_assoc,Nat.reduceAdd,Nat.zero_add] at cc0
    rw [C0.out] at cc0;clear cx;clear hf hfd hcap;go_wp2_with (first
     | ((with_reducible refine Qab 71 ?_);refine Xs 71 w1.heap.size 0 71 (Qad Qae) (Qad Qae) (Qad Qae) (Blk.made w1 71 (Qad Qae)) (Qa7 _) (Qar _) (Qaw _ _) ?_;intro w2 hf hb;have hf := (Fr.new w1 (.cells (Qad Qae) 71) (fun _ => False)).fresh hf (fun i e => by omega);have HX2 := Xi hb;have HZ2 := Xb hf HZ1;have HD2 := Xi (HD1.out.fr hf);have HF2 := Xf HF1 hf;clear hf HZ1 HD1 HF1;have cx := Qai HD2.out (k := 0) (by omega);simp only [Nat.reduceMul,Nat.add_zero] at cx;have ck0 := cx.1;rw [Q0.out,S0.out] at ck0;clear cx;clear hb))
    clear ck0;refine (HH.out _).mono ?_;rintro e w3 ⟨rfl,hf⟩;have HZ3 := Xb hf HZ2;have HD3 := Xi (HD2.out.fr hf);have HF3 := Xf HF2 hf;have HX3 := Xb hf HX2;clear hf HZ2 HD2 HF2 HX2;have cx := Qai HD3.out (k := 0) (by omega);simp only [Nat.reduceMul,Nat.add_zero] at cx;have ck0 := cx.1;rw [Q0.out,S0.out] at ck0;clear cx;go_wp2_with fail;clear ck0;refine (HH.out _).mono ?_;rintro e w4 ⟨rfl,hf⟩;have HZ4 := Xb hf HZ3;have HD4 := Xi (HD3.out.fr hf);have HF4 := Xf HF3 hf;have HX4 := Xb hf HX3;clear hf HZ3 HD3 HF3 HX3;have cx := Qai HD4.out (k := 0) (by omega);simp only [Nat.reduceMul,Nat.add_zero] at cx;have ck0 := cx.1;rw [Q0.out,S0.out] at ck0;clear cx;go_wp2_with fail;clear ck0;refine (HH.out _).mono ?_;rintro e w5 ⟨rfl,hf⟩;have HZ5 := Xb hf HZ4;have HD5 := Xi (HD4.out.fr hf);have HF5 := Xf HF4 hf;have HX5 := Xb hf HX4;clear hf HZ4 HD4 HF4 HX4;have cx := Qai HD5.out (k := 1) (by omega);simp only [Nat.reduceMul] at cx;have ck1 := cx.1;rw [Q1.out] at ck1;clear cx;have cx := Qai HD5.out (k := 2) (by omega);simp only [Nat.reduceMul] at cx;have ck2 := cx.1;rw [Q2.out] at ck2;clear cx;go_wp2_with (first
     | ((with_reducible refine Qab 3 ?_);refine Xc 3 w1.heap.size 0 71 (Qad Qae) (Qad { Qae with kind := 4 }) (intV 4) HX5.out QaE (Qh0 _ _) ?_;intro w6 hf hb;have HX6 := Xi hb;have HZ6 := Xo hf HZ5;have HD6 := Xi (Qcx HD5.out hf hbl);have HF6 := Xn HF5 hf;have cx := Qai HD6.out (k := 1) (by omega);simp only [Nat.reduceMul] at cx;have ck1 := cx.1;rw [Q1.out] at ck1;clear cx;have cx := Qai HD6.out (k := 2) (by omega);simp only [Nat.reduceMul] at cx;have ck2 := cx.1;rw [Q2.out] at ck2;clear cx;clear hf hb HX5 HZ5 HD5 HF5)
     | ((with_reducible refine Qab 9 ?_)
        first
         | (refine Xc 9 w1.heap.size 13 71 (Qad { Qae with kind := 4 }) (Qad { Qae with kind := 4,target := x1 }) (strV x1) HX6.out QaN (Qma _ _) ?_;intro w7 hf hb;have HX7 := Xi hb;have HZ7 := Xo hf HZ6;have HD7 := Xi (Qcx HD6.out hf hbl);have HF7 := Xn HF6 hf;have cx := Qai HD7.out (k := 1) (by omega);simp only [Nat.reduceMul] at cx;have ck1 := cx.1;rw [Q1.out] at ck1;clear cx;have cx := Qai HD7.out (k := 2) (by omega);simp only [Nat.reduceMul] at cx;have ck2 := cx.1;rw [Q2.out] at ck2;clear cx;clear hf hb HX6 HZ6 HD6 HF6)
         | (refine Xc 9 w1.heap.size 12 71 (Qad { Qae with kind := 4,target := x1 }) (Qad { Qae with kind := 4,target := x1,name := x2 }) (strV x2) HX7.out QaN (QhZ _ _) ?_;intro w8 hf hb;have HX8 := Xi hb;have HZ8 := Xo hf HZ7;have HD8 := Xi (Qcx HD7.out hf hbl);have HF8 := Xn HF7 hf;have cx := Qai HD8.out (k := 1) (by omega);simp only [Nat.reduceMul] at cx;have ck1 := cx.1;rw [Q1.out] at ck1;have cc1 := cx.2;try simp only [Nat.add_assoc,Nat.reduceAdd] at cc1;rw [C1.out] at cc1;clear cx;have cx := Qai HD8.out (k := 2) (by omega);simp only [Nat.reduceMul] at cx;have ck2 := cx.1;rw [Q2.out] at ck2;have cc2 := cx.2;try simp only [Nat.add_assoc,Nat.reduceAdd] at cc2;rw [C2.out] at cc2;clear cx;clear hf hb HX7 HZ7 HD7 HF7)))
    refine wp_loop_rounds 4 ?_;rw [rounds_succ];go_wp2_with fail;refine (Qc0 x1 hg1 _ _ hz1).mono ?_;rintro e w8 ⟨rfl,rfl⟩;go_wp2_with fail;rw [rounds_succ];go_wp2_with fail;refine (QbD 5 c1 _).mono ?_;rintro e w9 ⟨rfl,hf⟩;have HZ9 := Xb hf HZ8;have HD9 := Xi (HD8.out.fr hf);have HF9 := Xf HF8 hf;have HX9 := Xb hf HX8;clear hf HZ8 HD8 HF8 HX8;go_wp2_with (first
     | ((with_reducible refine Qab 71 ?_);refine Xs 71 w.heap.size 0 71 (Qad Qae) (Qad (QaC 5 c1)) (Qad (QaC 5 c1)) HZ9.out (Qa7 _) (Qar _) (Qaw _ _) ?_;intro w9 hf9 hb9;have HE9 := Xi hb9;have HF9 := Xn HF9 hf9;clear hf9 hb9))
    (try simp only [Exit.inBlock,Exit.then]);exact bodyPost_ret (QaQ HE9.out _ rfl) rfl ⟨rfl,HF9.out⟩
   ·cases hz2 : Go.Kwd.Qcd x2
    ·have hX := HL.out;rw [hz1,hz2] at hX;have hX : QaC 5 (QbW fs 2) = X := hX;rw [C2.out] at hX;subst hX;go_enter func29,ntmps29;go_wp2_with fail;refine HP.out.mono ?_;rintro e w1 ⟨A,cap,rfl,hfd,hcap,hf⟩;obtain ⟨b,off,rfl,-⟩ := hfd.2 hpos;have hbl : b < w1.heap.size := Rd.lt hfd hpos (by decide);have hs1 : w.heap.size + 1 ≤ w1.heap.size := by have := hf.size; omega
     have HZ1 := Xb hf HZ0;have HF1 := Xf HF0 hf;have HD1 := Xi hfd;have cx := Qai HD1.out (k := 0) (by omega);simp only [Nat.reduceMul,Nat.add_zero] at cx;have ck0 := cx.1;rw [Q0.out,S0.out] at ck0;have cc0 := cx.2
     try simp only [Nat.add_assoc,Nat.reduceAdd,Nat.zero_add] at cc0
     rw [C0.out] at cc0;clear cx;clear hf hfd hcap;go_wp2_with (first
      | ((with_reducible refine Qab 71 ?_);refine Xs 71 w1.heap.size 0 71 (Qad Qae) (Qad Qae) (Qad Qae) (Blk.made w1 71 (Qad Qae)) (Qa7 _) (Qar _) (Qaw _ _) ?_;intro w2 hf hb;have hf := (Fr.new w1 (.cells (Qad Qae) 71) (fun _ => False)).fresh hf (fun i e => by omega);have HX2 := Xi hb;have HZ2 := Xb hf HZ1;have HD2 := Xi (HD1.out.fr hf);have HF2 := Xf HF1 hf;clear hf HZ1 HD1 HF1;have cx := Qai HD2.out (k := 0) (by omega);simp only [Nat.reduceMul,Nat.add_zero] at cx;have ck0 := cx.1;rw [Q0.out,S0.out] at ck0;clear cx;clear hb))
     clear ck0;refine (HH.out _).mono ?_;rintro e w3 ⟨rfl,hf⟩;have HZ3 := Xb hf HZ2;have HD3 := Xi (HD2.out.fr hf);have HF3 := Xf HF2 hf;have HX3 := Xb hf HX2;clear hf HZ2 HD2 HF2 HX2;have cx := Qai HD3.out (k := 0) (by omega);simp only [Nat.reduceMul,Nat.add_zero] at cx;have ck0 := cx.1;rw [Q0.out,S0.out] at ck0;clear cx;go_wp2_with fail;clear ck0;refine (HH.out _).mono ?_;rintro e w4 ⟨rfl,hf⟩;have HZ4 := Xb hf HZ3;have HD4 := Xi (HD3.out.fr hf);have HF4 := Xf HF3 hf;have HX4 := Xb hf HX3;clear hf HZ3 HD3 HF3 HX3;have cx := Qai HD4.out (k := 0) (by omega);simp only [Nat.reduceMul,Nat.add_zero] at cx;have ck0 := cx.1;rw [Q0.out,S0.out] at ck0;clear cx;go_wp2_with fail;clear ck0;refine (HH.out _).mono ?_;rintro e w5 ⟨rfl,hf⟩;have HZ5 := Xb hf HZ4;have HD5 := Xi (HD4.out.fr hf);have HF5 := Xf HF4 hf;have HX5 := Xb hf HX4;clear hf HZ4 HD4 HF4 HX4;have cx := Qai HD5.out (k := 1) (by omega);simp only [Nat.reduceMul] at cx;have ck1 := cx.1;rw [Q1.out] at ck1;clear cx;have cx := Qai HD5.out (k := 2) (by omega);simp only [Nat.reduceMul] at cx;have ck2 := cx.1;rw [Q2.out] at ck2;clear cx;go_wp2_with (first
      | ((with_reducible refine Qab 3 ?_);refine Xc 3 w1.heap.size 0 71 (Qad Qae) (Qad { Qae with kind := 4 }) (intV 4) HX5.out QaE (Qh0 _ _) ?_;intro w6 hf hb;have HX6 := Xi hb;have HZ6 := Xo hf HZ5;have HD6 := Xi (Qcx HD5.out hf hbl);have HF6 := Xn HF5 hf;have cx := Qai HD6.out (k := 1) (by omega);simp only [Nat.reduceMul] at cx;have ck1 := cx.1;rw [Q1.out] at ck1;clear cx;have cx := Qai HD6.out (k := 2) (by omega);simp only [Nat.reduceMul] at cx;have ck2 := cx.1;rw [Q2.out] at ck2;clear cx;clear hf hb HX5 HZ5 HD5 HF5)
      | ((with_reducible refine Qab 9 ?_)
         first
          | (refine Xc 9 w1.heap.size 13 71 (Qad { Qae with kind := 4 }) (Qad { Qae with kind := 4,target := x1 }) (strV x1) HX6.out QaN (Qma _ _) ?_;intro w7 hf hb;have HX7 := Xi hb;have HZ7 := Xo hf HZ6;have HD7 := Xi (Qcx HD6.out hf hbl);have HF7 := Xn HF6 hf;have cx := Qai HD7.out (k := 1) (by omega);simp only [Nat.reduceMul] at cx;have ck1 := cx.1;rw [Q1.out] at ck1;clear cx;have cx := Qai HD7.out (k := 2) (by omega);simp only [Nat.reduceMul] at cx;have ck2 := cx.1;rw [Q2.out] at ck2;clear cx;clear hf hb HX6 HZ6 HD6 HF6)
          | (refine Xc 9 w1.heap.size 12 71 (Qad { Qae with kind := 4,target := x1 }) (Qad { Qae with kind := 4,target := x1,name := x2 }) (strV x2) HX7.out QaN (QhZ _ _) ?_;intro w8 hf hb;have HX8 := Xi hb;have HZ8 := Xo hf HZ7;have HD8 := Xi (Qcx HD7.out hf hbl);have HF8 := Xn HF7 hf;have cx := Qai HD8.out (k := 1) (by omega);simp only [Nat.reduceMul] at cx;have ck1 := cx.1;rw [Q1.out] at ck1;have cc1 := cx.2;try simp only [Nat.add_assoc,Nat.reduceAdd] at cc1;rw [C1.out] at cc1;clear cx;have cx := Qai HD8.out (k := 2) (by omega);simp only [Nat.reduceMul] at cx;have ck2 := cx.1;rw [Q2.out] at ck2;have cc2 := cx.2;try simp only [Nat.add_assoc,Nat.reduceAdd] at cc2;rw [C2.out] at cc2;clear cx;clear hf hb HX7 HZ7 HD7 HF7)))
     refine wp_loop_rounds 4 ?_;rw [rounds_succ];go_wp2_with fail;refine (Qc0 x1 hg1 _ _ hz1).mono ?_;rintro e w8 ⟨rfl,rfl⟩;go_wp2_with fail;rw [rounds_succ];go_wp2_with fail;refine (Qc0 x2 hg2 _ _ hz2).mono ?_;rintro e w8 ⟨rfl,rfl⟩;go_wp2_with fail;rw [rounds_succ];go_wp2_with fail;refine (QbD 5 c2 _).mono ?_;rintro e w9 ⟨rfl,hf⟩;have HZ9 := Xb hf HZ8;have HD9 := Xi (HD8.out.fr hf);have HF9 := Xf HF8 hf;have HX9 := Xb hf HX8;clear hf HZ8 HD8 HF8 HX8;go_wp2_with (first
      | ((with_reducible refine Qab 71 ?_);refine Xs 71 w.heap.size 0 71 (Qad Qae) (Qad (QaC 5 c2)) (Qad (QaC 5 c2)) HZ9.out (Qa7 _) (Qar _) (Qaw _ _) ?_;intro w9 hf9 hb9;have HE9 := Xi hb9;have HF9 := Xn HF9 hf9;clear hf9 hb9))
     (try simp only [Exit.inBlock,Exit.then]);exact bodyPost_ret (QaQ HE9.out _ rfl) rfl ⟨rfl,HF9.out⟩
    ·have hX := HL.out;rw [hz1,hz2] at hX;have hX : ({ Qae with kind := 4,target := x1,name := x2 } : LineL) = X := hX;subst hX;go_enter func29,ntmps29;go_wp2_with fail;refine HP.out.mono ?_;rintro e w1 ⟨A,cap,rfl,hfd,hcap,hf⟩;obtain ⟨b,off,rfl,-⟩ := hfd.2 hpos;have hbl : b < w1.heap.size := Rd.lt hfd hpos (by decide);have hs1 : w.heap.size + 1 ≤ w1.heap.size := by have := hf.size; omega
     have HZ1 := Xb hf HZ0;have HF1 := Xf HF0 hf;have HD1 := Xi hfd;have cx := Qai HD1.out (k := 0) (by omega);simp only [Nat.reduceMul,Nat.add_zero] at cx;have ck0 := cx.1;rw [Q0.out,S0.out] at ck0;have cc0 := cx.2
     try simp only [Nat.add_assoc,Nat.reduceAdd,Nat.zero_add] at cc0
     rw [C0.out] at cc0;clear cx;clear hf hfd hcap;go_wp2_with (first
      | ((with_reducible refine Qab 71 ?_);refine Xs 71 w1.heap.size 0 71 (Qad Qae) (Qad Qae) (Qad Qae) (Blk.made w1 71 (Qad Qae)) (Qa7 _) (Qar _) (Qaw _ _) ?_;intro w2 hf hb;have hf := (Fr.new w1 (.cells (Qad Qae) 71) (fun _ => False)).fresh hf (fun i e => by omega);have HX2 := Xi hb;have HZ2 := Xb hf HZ1;have HD2 := Xi (HD1.out.fr hf);have HF2 := Xf HF1 hf;clear hf HZ1 HD1 HF1;have cx := Qai HD2.out (k := 0) (by omega);simp only [Nat.reduceMul,Nat.add_zero] at cx;have ck0 := cx.1;rw [Q0.out,S0.out] at ck0;clear cx;clear hb))
     clear ck0;refine (HH.out _).mono ?_;rintro e w3 ⟨rfl,hf⟩;have HZ3 := Xb hf HZ2;have HD3 := Xi (HD2.out.fr hf);have HF3 := Xf HF2 hf;have HX3 := Xb hf HX2;clear hf HZ2 HD2 HF2 HX2;have cx := Qai HD3.out (k := 0) (by omega);simp only [Nat.reduceMul,Nat.add_zero] at cx;have ck0 := cx.1;rw [Q0.out,S0.out] at ck0;clear cx;go_wp2_with fail;clear ck0;refine (HH.out _).mono ?_;rintro e w4 ⟨rfl,hf⟩;have HZ4 := Xb hf HZ3;have HD4 := Xi (HD3.out.fr hf);have HF4 := Xf HF3 hf;have HX4 := Xb hf HX3;clear hf HZ3 HD3 HF3 HX3;have cx := Qai HD4.out (k := 0) (by omega);simp only [Nat.reduceMul,Nat.add_zero] at cx;have ck0 := cx.1;rw [Q0.out,S0.out] at ck0;clear cx;go_wp2_with fail;clear ck0;refine (HH.out _).mono ?_;rintro e w5 ⟨rfl,hf⟩;have HZ5 := Xb hf HZ4;have HD5 := Xi (HD4.out.fr hf);have HF5 := Xf HF4 hf;have HX5 := Xb hf HX4;clear hf HZ4 HD4 HF4 HX4;have cx := Qai HD5.out (k := 1) (by omega);simp only [Nat.reduceMul] at cx;have ck1 := cx.1;rw [Q1.out] at ck1;clear cx;have cx := Qai HD5.out (k := 2) (by omega);simp only [Nat.reduceMul] at cx;have ck2 := cx.1;rw [Q2.out] at ck2;clear cx;go_wp2_with (first
      | ((with_reducible refine Qab 3 ?_);refine Xc 3 w1.heap.size 0 71 (Qad Qae) (Qad { Qae with kind := 4 }) (intV 4) HX5.out QaE (Qh0 _ _) ?_;intro w6 hf hb;have HX6 := Xi hb;have HZ6 := Xo hf HZ5;have HD6 := Xi (Qcx HD5.out hf hbl);have HF6 := Xn HF5 hf;have cx := Qai HD6.out (k := 1) (by omega);simp only [Nat.reduceMul] at cx;have ck1 := cx.1;rw [Q1.out] at ck1;clear cx;have cx := Qai HD6.out (k := 2) (by omega);simp only [Nat.reduceMul] at cx;have ck2 := cx.1;rw [Q2.out] at ck2;clear cx;clear hf hb HX5 HZ5 HD5 HF5)
      | ((with_reducible refine Qab 9 ?_)
         first
          | (refine Xc 9 w1.heap.size 13 71 (Qad { Qae with kind := 4 }) (Qad { Qae with kind := 4,target := x1 }) (strV x1) HX6.out QaN (Qma _ _) ?_;intro w7 hf hb;have HX7 := Xi hb;have HZ7 := Xo hf HZ6;have HD7 := Xi (Qcx HD6.out hf hbl);have HF7 := Xn HF6 hf;have cx := Qai HD7.out (k := 1) (by omega);simp only [Nat.reduceMul] at cx;have ck1 := cx.1;rw [Q1.out] at ck1;clear cx;have cx := Qai HD7.out (k := 2) (by omega);simp only [Nat.reduceMul] at cx;have ck2 := cx.1;rw [Q2.out] at ck2;clear cx;clear hf hb HX6 HZ6 HD6 HF6)
          | (refine Xc 9 w1.heap.size 12 71 (Qad { Qae with kind := 4,target := x1 }) (Qad { Qae with kind := 4,target := x1,name := x2 }) (strV x2) HX7.out QaN (QhZ _ _) ?_;intro w8 hf hb;have HX8 := Xi hb;have HZ8 := Xo hf HZ7;have HD8 := Xi (Qcx HD7.out hf hbl);have HF8 := Xn HF7 hf;have cx := Qai HD8.out (k := 1) (by omega);simp only [Nat.reduceMul] at cx;have ck1 := cx.1;rw [Q1.out] at ck1;have cc1 := cx.2;try simp only [Nat.add_assoc,Nat.reduceAdd] at cc1;rw [C1.out] at cc1;clear cx;have cx := Qai HD8.out (k := 2) (by omega);simp only [Nat.reduceMul] at cx;have ck2 := cx.1;rw [Q2.out] at ck2;have cc2 := cx.2;try simp only [Nat.add_assoc,Nat.reduceAdd] at cc2;rw [C2.out] at cc2;clear cx;clear hf hb HX7 HZ7 HD7 HF7)))
     refine wp_loop_rounds 4 ?_;rw [rounds_succ];go_wp2_with fail;refine (Qc0 x1 hg1 _ _ hz1).mono ?_;rintro e w8 ⟨rfl,rfl⟩;go_wp2_with fail;rw [rounds_succ];go_wp2_with fail;refine (Qc0 x2 hg2 _ _ hz2).mono ?_;rintro e w8 ⟨rfl,rfl⟩;go_wp2_with fail;rw [rounds_succ];go_wp2_with (first
      | ((with_reducible refine Qam 71 ?_);refine Xl 71 w1.heap.size 0 71 (Qad { Qae with kind := 4,target := x1,name := x2 }) (Qad { Qae with kind := 4,target := x1,name := x2 }) HX8.out underlying71 (Qa7 _) (Qfp _) ?_)
      | ((with_reducible refine Qab 71 ?_);refine Xs 71 w.heap.size 0 71 (Qad Qae) (Qad { Qae with kind := 4,target := x1,name := x2 }) (Qad { Qae with kind := 4,target := x1,name := x2 }) HZ8.out (Qa7 _) (Qar _) (Qaw _ _) ?_;intro w9 hf9 hb9;have HE9 := Xi hb9;have HF9 := Xn HF8 hf9;clear hf9 hb9))
     (try simp only [Exit.inBlock,Exit.then]);exact bodyPost_ret (QaQ HE9.out _ rfl) rfl ⟨rfl,HF9.out⟩
  ·have hX := HL.out;rw [if_pos (by simpa using hn)] at hX;subst hX;have e1 : ((fs.length : Int) == 3) = false := by rw [beq_eq_false_iff_ne]; omega
   have e2 : ((fs.length : Int) != 3) = true := by unfold bne; rw [e1]; rfl
   go_enter func29,ntmps29;go_wp2_with fail;refine HP.out.mono ?_;rintro e w1 ⟨A,cap,rfl,hfd,hcap,hf⟩;obtain ⟨b,off,rfl,-⟩ := hfd.2 hpos;have hbl : b < w1.heap.size := Rd.lt hfd hpos (by decide);have hs1 : w.heap.size + 1 ≤ w1.heap.size := by have := hf.size; omega
   have HZ1 := Xb hf HZ0;have HF1 := Xf HF0 hf;have HD1 := Xi hfd;have cx := Qai HD1.out (k := 0) (by omega);simp only [Nat.reduceMul,Nat.add_zero] at cx;have ck0 := cx.1;rw [Q0.out,S0.out] at ck0;have cc0 := cx.2
   try simp only [Nat.add_assoc,Nat.reduceAdd,Nat.zero_add] at cc0
   rw [C0.out] at cc0;clear cx;clear hf hfd hcap;go_wp2_with (first
    | ((with_reducible refine Qab 71 ?_);refine Xs 71 w1.heap.size 0 71 (Qad Qae) (Qad Qae) (Qad Qae) (Blk.made w1 71 (Qad Qae)) (Qa7 _) (Qar _) (Qaw _ _) ?_;intro w2 hf hb;have hf := (Fr.new w1 (.cells (Qad Qae) 71) (fun _ => False)).fresh hf (fun i e => by omega);have HX2 := Xi hb;have HZ2 := Xb hf HZ1;have HD2 := Xi (HD1.out.fr hf);have HF2 := Xf HF1 hf;clear hf HZ1 HD1 HF1;have cx := Qai HD2.out (k := 0) (by omega);simp only [Nat.reduceMul,Nat.add_zero] at cx;have ck0 := cx.1;rw [Q0.out,S0.out] at ck0;clear cx;clear hb))
   clear ck0;refine (HH.out _).mono ?_;rintro e w3 ⟨rfl,hf⟩;have HZ3 := Xb hf HZ2;have HD3 := Xi (HD2.out.fr hf);have HF3 := Xf HF2 hf;have HX3 := Xb hf HX2;clear hf HZ2 HD2 HF2 HX2;have cx := Qai HD3.out (k := 0) (by omega);simp only [Nat.reduceMul,Nat.add_zero] at cx;have ck0 := cx.1;rw [Q0.out,S0.out] at ck0;clear cx;go_wp2_with fail;clear ck0;refine (HH.out _).mono ?_;rintro e w4 ⟨rfl,hf⟩;have HZ4 := Xb hf HZ3;have HD4 := Xi (HD3.out.fr hf);have HF4 := Xf HF3 hf;have HX4 := Xb hf HX3;clear hf HZ3 HD3 HF3 HX3;have cx := Qai HD4.out (k := 0) (by omega);simp only [Nat.reduceMul,Nat.add_zero] at cx;have ck0 := cx.1;rw [Q0.out,S0.out] at ck0;clear cx;go_wp2_with fail;clear ck0;refine (HH.out _).mono ?_;rintro e w5 ⟨rfl,hf⟩;have HZ5 := Xb hf HZ4;have HD5 := Xi (HD4.out.fr hf);have HF5 := Xf HF4 hf;have HX5 := Xb hf HX4;clear hf HZ4 HD4 HF4 HX4;go_wp2_with fail;refine (QbD 4 c0 _).mono ?_;rintro e w6 ⟨rfl,hf⟩;have HZ6 := Xb hf HZ5;have HD6 := Xi (HD5.out.fr hf);have HF6 := Xf HF5 hf;have HX6 := Xb hf HX5;clear hf HZ5 HD5 HF5 HX5;go_wp2_with (first
    | ((with_reducible refine Qab 71 ?_);refine Xs 71 w.heap.size 0 71 (Qad Qae) (Qad (QaC 4 c0)) (Qad (QaC 4 c0)) HZ6.out (Qa7 _) (Qar _) (Qaw _ _) ?_;intro w9 hf9 hb9;have HE9 := Xi hb9;have HF9 := Xn HF6 hf9;clear hf9 hb9))
   (try simp only [Exit.inBlock,Exit.then]);exact bodyPost_ret (QaQ HE9.out _ rfl) rfl ⟨rfl,HF9.out⟩
theorem QiN (l : Bs) : (∃ fs,S7.Qbi l = (fs,0,0) ∧ ∀ x ∈ fs,x.1.length ≤ 200) ∨ ∃ fs c k,S7.Qbi l = (fs,c,k) ∧ k ≠ 0 := by
 have ht := Qf6 l;unfold S7.Qbi at *;by_cases h : 200 < l.length
 ·rw [if_pos h];exact .inr ⟨_,_,_,rfl,by decide⟩
 ·rw [if_neg h] at ht ⊢;cases hf : Go.Lxr.QaU 0 l with
  | error k => exact .inr ⟨_,_,_,rfl,by simp⟩
  | ok fs =>
   rw [hf] at ht;exact .inl ⟨fs,rfl,fun x hx => ht x hx⟩
theorem gt_short {fs : List Qat} (hz : ∀ x ∈ fs,x.1.length ≤ 200) (k : Nat) : (gt (fs.map (·.1)) k).length ≤ 900 := by
 unfold gt;rw [List.getD_eq_getElem?_getD,List.getElem?_map];cases h : fs[k]? with
 | none => simp
 | some x => have := hz x (List.mem_of_getElem? h); simp; omega
theorem Qnl (l : Bs) (fs : List Qat) (c k : Int) (hO : S7.Qbi l = (fs,c,k)) (hk : k ≠ 0) (hl : l.length ≤ 100000) (w : World) : Calls Tryz.prog 29 #[strV l] w fun e w' => e = .returned (QeL (QaC k c)) ∧ Fr w w' (fun _ => False) := by
 have hf1 := Fr.new w (.cells Z02 71) (fun _ => False);have HZ := Xi (show Blk _ w.heap.size 71 (Qad Qae) from Blk.made w 71 Z02);have HF := Xi hf1;have HP := Xi (Qb1 l (w.alloc (.cells Z02 71)) (by omega));rw [hO] at HP;have k0 : (k == 0) = false := by simpa using hk
 have k1 : (k != 0) = true := by simpa using hk
 have HQ := Xi (fun W => QbD k c W);obtain ⟨X,hX⟩ : ∃ X,QaC k c = X := ⟨_,rfl⟩;rw [hX] at HQ ⊢;clear hf1 hO hk hX;go_enter func29,ntmps29;go_wp2_with fail;refine HP.out.mono ?_;rintro e w2 ⟨A,cap,rfl,-,-,hf2⟩;have HF2 := Xf HF hf2;have HZ2 := Xb hf2 HZ;clear hf2;go_wp2_with fail;refine (HQ.out _).mono ?_;rintro e w3 ⟨rfl,hf3⟩;have HF3 := Xf HF2 hf3;have HZ3 := Xb hf3 HZ2;clear hf3;go_wp2_with (
  refine Xs 71 w.heap.size 0 71 (Qad Qae) (Qad X) (Qad X) HZ3.out (Qa7 _) (Qar _) (Qaw _ _) ?_;intro w9 hf9 hb9;have HE := Xi hb9;have HFe := Xn HF3 hf9;clear hf9 hb9)
 (try simp only [Exit.inBlock,Exit.then]);exact bodyPost_ret (QaQ HE.out _ rfl) rfl ⟨rfl,HFe.out⟩
theorem Qnk (l : Bs) (hO : S7.Qbi l = ([],0,0)) (hl : l.length ≤ 100000) (w : World) : Calls Tryz.prog 29 #[strV l] w fun e w' => e = .returned (QeL Qae) ∧ Fr w w' (fun _ => False) := by
 have hf1 := Fr.new w (.cells Z02 71) (fun _ => False);have HZ := Xi (show Blk _ w.heap.size 71 (Qad Qae) from Blk.made w 71 Z02);have HF := Xi hf1;have HP := Xi (Qb1 l (w.alloc (.cells Z02 71)) (by omega));rw [hO] at HP;clear hf1 hO;go_enter func29,ntmps29;go_wp2_with fail;refine HP.out.mono ?_;rintro e w2 ⟨A,cap,rfl,-,-,hf2⟩;have HF2 := Xf HF hf2;have HZ2 := Xb hf2 HZ;clear hf2;go_wp2_with (
  refine Xs 71 w.heap.size 0 71 (Qad Qae) (Qad Qae) (Qad Qae) HZ2.out (Qa7 _) (Qar _) (Qaw _ _) ?_;intro w9 hf9 hb9;have HE := Xi hb9;have HFe := Xn HF2 hf9;clear hf9 hb9)
 (try simp only [Exit.inBlock,Exit.then]);exact bodyPost_ret (QaQ HE.out _ rfl) rfl ⟨rfl,HFe.out⟩
theorem QkO (l : Bs) (x : LineL) (hx : Qb8 l = x) (w : World) (hl : l.length ≤ 100000) : Calls Tryz.prog 29 #[strV l] w fun e w' => e = .returned (QeL x) ∧ Fr w w' (fun _ => False) := by
 unfold Qb8 at hx;rcases QiN l with ⟨fs,hO,hz⟩ | ⟨fs,c,k,hO,hk⟩
 ·rw [hO] at hx;have hx : Qdi fs = x := by rw [← hx,if_neg (by simp)]
  by_cases hne : fs = []
  ·subst hne;have hx : Qae = x := hx;subst hx;exact Qnk l hO hl w
  ·have hg := gt_short hz;cases hc : QeM (gt (fs.map (·.1)) 0) with
   | true => exact QkE l fs hO hg hne hc hl w x hx
   | false =>
    by_cases h1 : Go.Kwd.headD (gt (fs.map (·.1)) 0) = 1
    ·exact QkB l fs hO hg hne hc h1 hl w x hx
    ·by_cases h2 : Go.Kwd.headD (gt (fs.map (·.1)) 0) = 2
     ·exact Qkz l fs hO hg hne hc h2 hl w x hx
     ·by_cases h3 : Go.Kwd.headD (gt (fs.map (·.1)) 0) = 3
      ·exact QkD l fs hO hg hne hc h3 hl w x hx
      ·exact QkC l fs hO hg hne hc ⟨h1,h2,h3⟩ hl w x hx
 ·rw [hO] at hx;have hx : QaC k c = x := by rw [← hx,if_pos hk]
  subst hx;exact Qnl l fs c k hO hk hl w
end Go.Proofs.YtodcnbejnchmhaaGreatDoor
namespace Go.Proofs.YtodcnbejnchmhaaGreatDoor
open _root_.Go.Proofs.Tryz
open Go.Rope hiding Bs
open Go.RowKit Go.Mem Go.Lin Go.Dcm

theorem QmR {X Y : Type} (g : X → Y) (l : List X) (i : Nat) (h : i < l.length) : (l.take (i + 1)).map g = (l.take i).map g ++ [g l[i]] := by
 rw [List.take_succ_eq_append_getElem h,List.map_append];rfl
/-- while the reference parses lines: the first i of them lie in the row v -/
def PI5 (w : World) (L : List Bs) (H c : Nat) (k : Nat) (v4 v5 : Value) (wr : World) : Prop := ∃ (i : Nat) (A : Option Addr) (cap : Nat),i + k = L.length ∧ v5 = intV (i : Int) ∧ v4 = .slice A i cap ∧ Own wr w.heap.size 71 29 Qa1 (.slice A i cap) ((L.take i).map Qb8) ∧
 Own wr w.heap.size 9 1 strL (.slice (some ⟨H,0,none⟩) L.length c) L ∧ Fr w wr (fun _ => False)
theorem Qec (l : Bs) (w : World) (hl : l.length ≤ 20000) : Calls Tryz.prog 15 #[strV l] w (QmL w (Qdh l)) := by
 have HL := Xi (Qju l w (by omega));have hle := QpG l;unfold Qdh;obtain ⟨L,hL⟩ : ∃ L,QdY l = L := ⟨_,rfl⟩;rw [hL] at HL hle ⊢;unfold TPost at HL;have HX := Xi (show ∀ x ∈ L,x.length ≤ 100000 from fun x hx => Nat.le_trans (hle.2 x hx) (by omega));have hn : L.length ≤ 20001 := by omega
 clear hL hle hl;go_enter func15,ntmps15;go_wp2_with fail;refine HL.out.mono ?_;rintro e w2 ⟨H,c,rfl,hHb,ho,hf⟩;have HI := Xi (show PI5 w L H c L.length (.slice none 0 0) (intV 0) w2 from ⟨0,none,0,by simp,rfl,rfl,own_none _ _ _ _ _,ho,hf⟩);clear ho hf;go_wp2_with fail
 go_loopg [4,5] L.length (fun k v4 v5 wr => PI5 w L H c k v4 v5 wr)
 case atStart => exact HI.out
 case round =>
  obtain ⟨i,Aw,cap,hik,rfl,rfl,hown,ho,hf⟩ := hrel;by_cases hlt : i < L.length
  ·have c1 := (Ql2 ho rfl (List.getElem?_eq_getElem hlt)).1;have hxl := HX.out L[i] (List.getElem_mem hlt);have hi1 : (i : Int) < (L.length : Int) := by omega
   have hi0 : (0 : Int) ≤ (i : Int) := by omega
   have hT := QmR Qb8 L i hlt;obtain ⟨x,hx⟩ : ∃ x,L[i] = x := ⟨_,rfl⟩;rw [hx] at c1 hxl hT;obtain ⟨y,hy⟩ : ∃ y,Qb8 x = y := ⟨_,rfl⟩;have HP := Xi (QkO x y hy wr hxl);rw [hy] at hT;have hli : ((L.take i).map Qb8).length = i := by rw [List.length_map,List.length_take]; omega
   have HO := Xi ho;have HOW := Xi hown;have HF := Xi hf;have HT := Xi hT;have HLI := Xi hli;clear ho hown hf hx hy hxl hT hli;go_wp2_with fail;refine HP.out.mono ?_;rintro e w3 ⟨rfl,hf3⟩;have HO3 := Xi (HO.out.kept hf3);have HOW3 := Xi (HOW.out.kept hf3);have HF3 := Xi (ff0 HF.out hf3);clear hf3;have i4 : i ≤ 100000 := by omega
   go_wp2_with (first
    | ((with_reducible refine at_slice (y := .tmp 19) 31 ?_);refine Qkc (t := 31) (e := 71) (y := .tmp 19) (v := .agg (Qad y)) (Qad y) (by rfl) rfl rfl (fun _ => by kernel_rfl) ?_;intro Wm hfm hsm hbm hrm;have HO4 := Xi (HO3.out.kept hfm);have HOW4 := Xi (HOW3.out.kept hfm);have HF4 := Xi (ff0 HF3.out hfm);have HX4 := Xi hrm;have HB4 := Xi (show w.heap.size ≤ Wm.heap.size from HF4.out.size);clear hfm hsm hbm hrm)
    | ((with_reducible refine Qqo (.tmp 14) (.tmp 20) ?_);refine QhA (f := Qa1) (l := (L.take i).map Qb8) (.tmp 14) (.tmp 20) 31 rfl rfl w.heap.size 71 _ 29 280 underlying31 Qgq rfl (by decide) _ rfl HOW4.out _ 1 y (Qad y).toList rfl HX4.out rfl (Qmf (Qar y)) (by rw [HLI.out]; exact i4) (by decide) HB4.out ?_;intro A5 c5 W5 ho5 hf5;have hf5 := tb_own HOW4.out hf5;have HOW5 := Xi ho5;have HO5 := Xi (far_tb HO4.out hf5 (by decide));have HF5 := Xi (HF4.out.fresh hf5 (fun i h => by have := h.1; omega));clear ho5 hf5))
   go_roundg (gk - 1)
   case measure => omega
   case rel =>
    refine ⟨i + 1,A5,c5,by omega,by go_num,by rw [show min i L.length = i by omega],?_,HO5.out,HF5.out⟩;have := HOW5.out;rw [HLI.out] at this;rw [HT.out];exact this
  ·obtain rfl : i = L.length := by omega
   rw [List.take_length] at hown;have hpl : (L.map Qb8).length = L.length := List.length_map _;have hla : LinesAt wr Aw (L.map Qb8) := by
    obtain ⟨A',c',e',-,-,hr⟩ := hown.rd;injection e' with e1;subst e1;exact hr
   have hi1 : (L.length : Int) ≤ (L.length : Int) := Int.le_refl _;have HLA := Xi hla;have HF := Xi hf;have HPL := Xi hpl;clear hown ho hf hpl hla;go_wp2_with fail;go_ret;exact ⟨Aw,cap,by rw [HPL.out]; rfl,HLA.out,HF.out⟩
theorem Qlb {w w' : World} {b off k : Nat} {cs : Array Value} (hf : Fr w w' (fun _ => False)) (h : ∀ j,j < cs.size → w.cell? ⟨b,off + k + j,none⟩ = cs[j]?) : ∀ j,j < cs.size → w'.cell? ⟨b,off + k + j,none⟩ = cs[j]? := Qhs hf h (Nat.le_refl _) (fun h => h)
theorem Qpq (s : Bs) (l : List EdL) (A : Option Addr) (c : Nat) (w : World) (hr : EdsAt w A l) (hm : l.length ≤ maxLen) (he : ∀ e ∈ l,EdR e) (hw : LOk w) (hs : s.length ≤ maxLen) : Calls Tryz.prog 3 #[strV s,.slice A l.length c] w (TrueT w) := by
 have HW := Xi (fun (W : World) (f : Fr w W (fun _ => False)) => QlK W (hw.fr f));have HL := Xi (fun (x : Bool) (h : x = true ↔ Qj8 s l 2000) => Qqx s A c l 2000 w hr hs hm (fun e h => (he e h).s) (by decide) x h);by_cases hx : Qj8 s l 2000
 ·have HLt := Xi (HL.out true (by simp [hx]));have HN := Xi (fun (W : World) (f : Fr w W (fun _ => False)) (t : Bs) (h : t.length ≤ 20100) => QlX t W (hw.fr f) h);have HE := Xi (fun (W : World) (g : Nat) (l : Bs) (n : Int) (f : Fr w W (fun _ => False)) (h : TabAt W g l n) (e : EdL) (he : e.s.length ≤ 20100) => QgG h (hw.fr f) e he);have hx1 := hx.1;have hx2 := hx.2.1;have HX := Xi hx.2.2;have HR := Xi hr;have HFi := Xi (fun (W : World) => Qi0 s W);clear hw hs he HL hr hx hm;go_enter func3,ntmps3;go_wp2_with fail;refine HLt.out.mono ?_;rintro e w2 ⟨rfl,hf2⟩;have HF2 := Xi hf2;have HN2 := Xi (HN.out w2 hf2 s (by omega));clear hf2 HLt;go_wp2_with fail;refine HN2.out.mono ?_;rintro e w3 hn3;by_cases hfit : Fits s
  ·obtain ⟨g,rfl,hg,ht,hf3⟩ := Qmi hn3 hfit;have hne := fun w => Qco w g;have HG := Xi (Nat.le_trans HF2.out.size hg);have hn1 : (l.length : Int) ≤ 30 := by omega
   obtain ⟨L,hL⟩ : ∃ L,Qdh s = L := ⟨_,rfl⟩;obtain ⟨N,hN⟩ : ∃ N,L.length = N := ⟨_,rfl⟩;have hlN : N = Qah s + 1 := by rw [← hN,← hL,Qev]
   have hN9 : N ≤ 2001 := by have := QbM s; omega
   rw [show (Qah s : Int) + 1 = (N : Int) by omega] at ht;have HT3 := Xi ht;have HF3 := Xi (ff0 HF2.out hf3);have HFi3 := Xi (HFi.out w3 true (by simp [hfit]));have HRL := Xi (fun (W : World) => Qec s W (by omega));rw [hL] at HRL;have HNN := Xi hN;have hLb : L.length ≤ 1000000 := by omega
   clear hn3 ht hf3 hg hfit HF2 HN2 HN HFi hlN hN;go_wp2_with fail;refine HFi3.out.mono ?_;rintro e w4 ⟨rfl,hf4⟩;have HT4 := Xi (HT3.out.kept hf4);have HF4 := Xi (ff0 HF3.out hf4);have HL4 := Xi (Qes (HT3.out.kept hf4));rw [hL] at HL4;clear hf4 HT3 HF3 HFi3;go_wp2_with fail;refine HL4.out.mono ?_;rintro e w5 ⟨A5,k5,rfl,hl5,hf5⟩;have HA5 := Xi hl5;have HT5 := Xi (HT4.out.kept hf5);have HF5 := Xi (ff0 HF4.out hf5);clear hl5 hf5 HT4 HF4 HL4;go_wp2_with fail;refine (HRL.out w5).mono ?_;rintro e w6 ⟨A6,k6,rfl,hl6,hf6⟩;have HS6 := Xi (Qis L A5 A6 k5 k6 w6 (HA5.out.kept hf6) hl6 hLb);have HT6 := Xi (HT5.out.kept hf6);have HF6 := Xi (ff0 HF5.out hf6);clear hl6 hf6 HT5 HF5 HA5;go_wp2_with fail;refine HS6.out.mono ?_;rintro e w7 ⟨rfl,hf7⟩;have HT7 := Xi (HT6.out.kept hf7);have HF7 := Xi (ff0 HF6.out hf7);clear hf7 HT6 HF6 HS6;go_wp2_with fail;refine (HRL.out w7).mono ?_;rintro e w8 ⟨A8,k8,rfl,hl8,hf8⟩;rw [HNN.out];have HT8 := Xi (HT7.out.kept hf8);have HF8 := Xi (ff0 HF7.out hf8);clear hl8 hf8 HT7 HF7 HRL;go_wp2_with fail
   go_loopg [0,7,8,9,10,11] l.length (fun k v0 v7 v8 _ _ _ wr => ∃ (m : Nat) (t : Bs) (n : Int),m + k = l.length ∧ v8 = intV (m : Int) ∧ v0 = strV t ∧ v7 = intV n ∧ TabAt wr g t n ∧ Fr w wr (fun _ => False))
   case atStart => exact ⟨0,s,_,by simp,rfl,rfl,rfl,HT8.out,HF8.out⟩
   case round =>
    obtain ⟨m,t,n,hmk,rfl,rfl,rfl,ht,hf⟩ := hrel;have HT := Xi ht;have HF := Xi hf;by_cases hlt : m < l.length
    ·obtain ⟨b,off,rfl,hc⟩ := (HR.out.kept hf).at_ hlt;have hel := HX.out _ (List.getElem_mem hlt);obtain ⟨e,hee⟩ : ∃ e,l[m] = e := ⟨_,rfl⟩;rw [hee] at hc hel;have HC := Xi hc;have hi1 : (m : Int) < (l.length : Int) := by omega
     have htl := ht.fits.1;have HD := Xi (Do_any t e wr htl (by omega));obtain ⟨⟨t2,k⟩,hd⟩ : ∃ p,Qcc t e = p := ⟨_,rfl⟩;have HFt := Xi (Qp3 ht.fits e);have hdo := Qlt hd;have hrd : Qb0 t e n = if k = 0 then (Qah e.s : Int) + 1 else n := by unfold Qb0; rw [hd]
     have hst := Qid (l := t) (e := e);rw [hd] at HFt hst;have hst : k ≠ 0 → t2 = t := hst;unfold DoR at HD;rw [hd,hdo] at HD;obtain ⟨dn,hdn⟩ : ∃ d,(if k = 0 then (Qah e.s : Int) + 1 else 0) = d := ⟨_,rfl⟩;obtain ⟨rn,hrn⟩ : ∃ d,(if k = 0 then (Qah e.s : Int) + 1 else n) = d := ⟨_,rfl⟩;rw [hdn] at HD;have HE4 := Xi (fun (W : World) (f : Fr w W (fun _ => False)) (h : TabAt W g t n) => HE.out W g t n f h e (by omega));unfold Qkb at HE4;rw [hd,hrd,hrn] at HE4;have HDN := Xi hdn;have HRN := Xi hrn;have HST := Xi hst;clear hc hee ht hf hd hdo hrd hdn hrn hst;go_wp2_with (refine QeN 37 _ b (off + m * 5) (edC e) _ (by rfl) rfl rfl HC.out underlying37 rfl QpS ?_);refine HD.out.mono ?_;rintro e4 w4 ⟨rfl,hf4⟩;have HC4 := Xi (Qlb hf4 HC.out);have HT4 := Xi (HT.out.kept hf4);have HF4 := Xi (ff0 HF.out hf4);have HOw := Xi (Own_any e w4);clear hf4;go_wp2_with (refine QeN 37 _ b (off + m * 5) (edC e) _ (by rfl) rfl rfl HC4.out underlying37 rfl QpS ?_);refine HOw.out.mono ?_;rintro e5 w5 ⟨rfl,hf5⟩;have HE5 := Xi (HE4.out w5 (ff0 HF4.out hf5) (HT4.out.kept hf5));have HF5 := Xi (ff0 HF4.out hf5);clear hf5;go_wp2_with fail;refine HE5.out.mono ?_;rintro e6 w6 ⟨rfl,ht6,hf6⟩;have HF6 := Xi (fr_tab HF5.out hf6 HG.out);clear hf6;have hfit2 := HFt.out;have hsl2 : (Qdh t2).length ≤ 1000000 := by rw [Qev]; have := hfit2.2; omega
     have htl2 := hfit2.1;by_cases hk : k = 0
     ·subst hk;obtain rfl : dn = rn := by rw [← HDN.out,← HRN.out,if_pos rfl,if_pos rfl]
      have HT6 := Xi ht6;have HX6 := Xi (QgF ht6);have HL6 := Xi (fun (W : World) (h : TabAt W g t2 dn) => Qes h);have HRL := Xi (fun (W : World) => Qec t2 W htl2);obtain ⟨M,hM⟩ : ∃ M,Qdh t2 = M := ⟨_,rfl⟩;rw [hM] at HL6 HRL hsl2;clear ht6 hM;go_wp2_with fail;refine HX6.out.mono ?_;rintro e7 w7 ⟨rfl,hf7⟩;have HT7 := Xi (HT6.out.kept hf7);have HF7 := Xi (ff0 HF6.out hf7);have HR7 := Xi (Qfe (HT6.out.kept hf7));clear hf7;go_wp2_with fail;refine HR7.out.mono ?_;rintro e8 w8 ⟨rfl,rfl⟩;have HL8 := Xi (HL6.out w8 HT7.out);go_wp2_with fail;refine HL8.out.mono ?_;rintro e9 w9 ⟨A9,k9,rfl,hl9,hf9⟩;have HA9 := Xi hl9;have HT9 := Xi (HT7.out.kept hf9);have HF9 := Xi (ff0 HF7.out hf9);clear hl9 hf9;go_wp2_with fail;refine (HRL.out w9).mono ?_;rintro e10 w10 ⟨A10,k10,rfl,hl10,hf10⟩;have HS10 := Xi (Qis M A9 A10 k9 k10 w10 (HA9.out.kept hf10) hl10 hsl2);have HT10 := Xi (HT9.out.kept hf10);have HF10 := Xi (ff0 HF9.out hf10);clear hl10 hf10;go_wp2_with fail;refine HS10.out.mono ?_;rintro e11 w11 ⟨rfl,hf11⟩;have HT11 := Xi (HT10.out.kept hf11);have HF11 := Xi (ff0 HF10.out hf11);clear hf11;go_wp2_with fail
      go_roundg (l.length - (m + 1))
      case measure => omega
      case rel => exact ⟨m + 1,t2,dn,by omega,by go_num,rfl,rfl,HT11.out,HF11.out⟩
     ·have hk0 : (k == 0) = false := by simpa using hk
      obtain rfl : rn = n := by rw [← HRN.out,if_neg hk]
      obtain rfl : t2 = t := HST.out hk;clear hk;have HT6 := Xi ht6;have HX6 := Xi (QgF ht6);have HL6 := Xi (fun (W : World) (h : TabAt W g t2 rn) => Qes h);have HRL := Xi (fun (W : World) => Qec t2 W htl2);obtain ⟨M,hM⟩ : ∃ M,Qdh t2 = M := ⟨_,rfl⟩;rw [hM] at HL6 HRL hsl2;clear ht6 hM;go_wp2_with fail;refine HX6.out.mono ?_;rintro e7 w7 ⟨rfl,hf7⟩;have HT7 := Xi (HT6.out.kept hf7);have HF7 := Xi (ff0 HF6.out hf7);have HR7 := Xi (Qfe (HT6.out.kept hf7));clear hf7;go_wp2_with fail;refine HR7.out.mono ?_;rintro e8 w8 ⟨rfl,rfl⟩;have HL8 := Xi (HL6.out w8 HT7.out);go_wp2_with fail;refine HL8.out.mono ?_;rintro e9 w9 ⟨A9,k9,rfl,hl9,hf9⟩;have HA9 := Xi hl9;have HT9 := Xi (HT7.out.kept hf9);have HF9 := Xi (ff0 HF7.out hf9);clear hl9 hf9;go_wp2_with fail;refine (HRL.out w9).mono ?_;rintro e10 w10 ⟨A10,k10,rfl,hl10,hf10⟩;have HS10 := Xi (Qis M A9 A10 k9 k10 w10 (HA9.out.kept hf10) hl10 hsl2);have HT10 := Xi (HT9.out.kept hf10);have HF10 := Xi (ff0 HF9.out hf10);clear hl10 hf10;go_wp2_with fail;refine HS10.out.mono ?_;rintro e11 w11 ⟨rfl,hf11⟩;have HT11 := Xi (HT10.out.kept hf11);have HF11 := Xi (ff0 HF10.out hf11);clear hf11;go_wp2_with fail
      go_roundg (l.length - (m + 1))
      case measure => omega
      case rel => exact ⟨m + 1,t2,rn,by omega,by go_num,rfl,rfl,HT11.out,HF11.out⟩
    ·obtain rfl : m = l.length := by omega
     have hi1 : (l.length : Int) ≤ (l.length : Int) := Int.le_refl _;clear ht hf;go_wp2_with fail;have HA := Xi (HW.out _ HF.out);refine HA.out.mono ?_;rintro e wz ⟨rfl,hfz⟩;have HFZ := Xi (ff0 HF.out hfz);clear hfz;go_wp2_with fail;go_ret;exact ⟨rfl,HFZ.out⟩
  ·obtain ⟨rfl,hf3⟩ := Qpy hn3 hfit;have HF3 := Xi (ff0 HF2.out hf3);have HFi3 := Xi (HFi.out w3 false (by simp [hfit]));clear hn3 hf3 hfit;go_wp2_with fail;refine HFi3.out.mono ?_;rintro e w4 ⟨rfl,hf4⟩;have HF4 := Xi (ff0 HF3.out hf4);clear hf4;go_wp2_with fail;have HA := Xi (HW.out _ HF4.out);refine HA.out.mono ?_;rintro e wz ⟨rfl,hfz⟩;have HFZ := Xi (ff0 HF4.out hfz);clear hfz;go_wp2_with fail;go_ret;exact ⟨rfl,HFZ.out⟩
 ·have HLt := Xi (HL.out false (by simp [hx]));clear hw hs he HL hx hr;go_enter func3,ntmps3;go_wp2_with fail;refine HLt.out.mono ?_;rintro e w2 ⟨rfl,hf2⟩;have HF2 := Xi hf2;clear hf2;go_wp2_with fail;have HA := Xi (HW.out _ HF2.out);refine HA.out.mono ?_;rintro e wz ⟨rfl,hfz⟩;have HFZ := Xi (ff0 HF2.out hfz);clear hfz;go_wp2_with fail;go_ret;exact ⟨rfl,HFZ.out⟩
end Go.Proofs.YtodcnbejnchmhaaGreatDoor
