import Derived.Test.YtlfjknndkjgciaaGreatDoorYd43
import Derived.Test.YtlfjknndkjgciaaGreatDoorYd44
set_option maxRecDepth 100000
set_option maxHeartbeats 25600000
namespace Go.Proofs.YtlfjknndkjgciaaGreatDoor
open _root_.Go.Proofs.Tryz
open Go.RowKit Go.Mem Go.Lin
theorem QkD (l : Bs) (fs : List Qat) (hO : S7.Qbp l = (fs,0,0)) (hz : ∀ k,(gt (fs.map (·.1)) k).length ≤ 900) (hne : fs ≠ []) (hc : QeI (gt (fs.map (·.1)) 0) = false) (hh : Go.Kwd.headD (gt (fs.map (·.1)) 0) = 3) (hl : l.length ≤ 100000) (w : World) (X : LineL) (hX : Qdh fs = X) : Calls Tryz.prog 31 #[strV l] w fun e w' => e = .returned (QdQ X) ∧ Fr w w' (fun _ => False) := by
 have hpos : 0 < fs.length := List.length_pos_iff.2 hne;have hf1 := Fr.new w (.cells Z02 58) (fun _ => False);have HZ0 := Xi (show Blk _ w.heap.size 58 (Qad Qae) from Blk.made w 58 Z02);have HF0 := Xi hf1;have s1 : (w.alloc (.cells Z02 58)).heap.size = w.heap.size + 1 := by simp
 have HP := Xi (Qck l (w.alloc (.cells Z02 58)) (by omega));rw [hO] at HP;unfold Qdh at hX;rw [if_neg hne] at hX;obtain ⟨x0,hx0⟩ : ∃ x,gt (fs.map (·.1)) 0 = x := ⟨_,rfl⟩;have hg0 := hz 0;rw [hx0] at hg0;simp only [hx0] at hX hc hh;have Q0 := Xi hx0;clear hx0;obtain ⟨x1,hx1⟩ : ∃ x,gt (fs.map (·.1)) 1 = x := ⟨_,rfl⟩;have hg1 := hz 1;rw [hx1] at hg1;simp only [hx1] at hX;have Q1 := Xi hx1;clear hx1;obtain ⟨x2,hx2⟩ : ∃ x,gt (fs.map (·.1)) 2 = x := ⟨_,rfl⟩;have hg2 := hz 2;rw [hx2] at hg2;simp only [hx2] at hX;have Q2 := Xi hx2;clear hx2;obtain ⟨c0,hc0⟩ : ∃ x,Qcd fs 0 = x := ⟨_,rfl⟩
 try simp only [hc0] at hX
 have C0 := Xi hc0;clear hc0;obtain ⟨c1,hc1⟩ : ∃ x,Qcd fs 1 = x := ⟨_,rfl⟩
 try simp only [hc1] at hX
 have C1 := Xi hc1;clear hc1;obtain ⟨c2,hc2⟩ : ∃ x,Qcd fs 2 = x := ⟨_,rfl⟩
 try simp only [hc2] at hX
 have C2 := Xi hc2;clear hc2;rw [if_neg (by rw [hc]; decide),if_neg (by rw [hh]; decide),if_neg (by rw [hh]; decide),if_pos hh] at hX;have HL := Xi hX;clear hX;obtain ⟨z,hzz⟩ : ∃ z,Go.Kwd.headD x0 = z := ⟨_,rfl⟩;have HH := Xi (fun W => QfT x0 hg0 W z hzz);rw [hzz] at hh;have z1 : ((z : Int) == 1) = false := by rw [hh]; rfl
 have z2 : ((z : Int) == 2) = false := by rw [hh]; rfl
 have z3 : ((z : Int) == 3) = true := by rw [hh]; rfl
 clear hzz hh;obtain ⟨s,hs⟩ : ∃ s : ByteArray,strV x0 = Value.string s := ⟨_,rfl⟩;have hsx : s.data.toList = x0 := by
  injection hs with hs;rw [← hs]
 rw [← hsx] at hc;have S0 := Xi hs;rw [hs] at HH;clear hsx hs hz hne hO hl hf1;have hch := Qjh hc;clear hc;have hch : ((s.size : Int) ≤ 0 ∨ ∃ (hs : 0 < s.size) (_ : (0 : Int) < (s.size : Int)),((s[0].toNat : Int) == 45) = false ∧ (s[0].toNat : Int) < 48) ∨ ∃ (hs : 0 < s.size) (_ : (0 : Int) < (s.size : Int)),((s[0].toNat : Int) == 45) = false ∧ (48 : Int) ≤ (s[0].toNat : Int) ∧ (57 : Int) < (s[0].toNat : Int) := by
  rcases hch with h | ⟨h,h1,h2 | h2⟩
  ·exact .inl (.inl (by omega))
  ·exact .inl (.inr ⟨h,by omega,h1,h2⟩)
  ·exact .inr ⟨h,by omega,h1,h2⟩
 rcases hch with (i0 | ⟨hs0,i0,f1,f2⟩) | ⟨hs0,i0,f1,f2,f3⟩
 all_goals
  by_cases hn : fs.length = 3
  ·have hX := HL.out;rw [if_neg (by simpa using hn)] at hX;have e1 : ((fs.length : Int) == 3) = true := by rw [hn]; rfl
   have e2 : ((fs.length : Int) != 3) = false := by rw [hn]; rfl
   have n1 : (1 : Int) < (fs.length : Int) := by omega
   have n2 : (2 : Int) < (fs.length : Int) := by omega
   have h2 : 2 < fs.length := by omega
   unfold Qpb at hX
   try simp only [Q1.out,Q2.out] at hX
   have HL := Xi hX;clear hX hn;cases hz1 : Go.Kwd.QbR x1
   ·have hX := HL.out;rw [hz1] at hX;have hX : QaE 5 (Qcd fs 1) = X := hX;rw [C1.out] at hX;subst hX;go_enter func31,ntmps31;go_wp2_with fail;refine HP.out.mono ?_;rintro e w1 ⟨A,cap,rfl,hfd,hcap,hf⟩;obtain ⟨b,off,rfl,-⟩ := hfd.2 hpos;have hbl : b < w1.heap.size := Rd.lt hfd hpos (by decide);have hs1 : w.heap.size + 1 ≤ w1.heap.size := by have := hf.size; omega
    have HZ1 := Xb hf HZ0;have HF1 := Xf HF0 hf;have HD1 := Xi hfd;have cx := Qai HD1.out (k := 0) (by omega);simp only [Nat.reduceMul,Nat.add_zero] at cx;have ck0 := cx.1;rw [Q0.out,S0.out] at ck0;have cc0 := cx.2
    try simp only [Nat.add_assoc,Nat.reduceAdd,Nat.zero_add] at cc0
    rw [C0.out] at cc0;clear cx;clear hf hfd hcap;go_wp2_with (first
     | ((with_reducible refine Qab 58 ?_);refine Xs 58 w1.heap.size 0 58 (Qad Qae) (Qad Qae) (Qad Qae) (Blk.made w1 58 (Qad Qae)) (QaL _) (Qaj _) (Qao _ _) ?_;intro w2 hf hb;have hf := (Fr.new w1 (.cells (Qad Qae) 58) (fun _ => False)).fresh hf (fun i e => by omega);have HX2 := Xi hb;have HZ2 := Xb hf HZ1;have HD2 := Xi (HD1.out.fr hf);have HF2 := Xf HF1 hf;clear hf HZ1 HD1 HF1;have cx := Qai HD2.out (k := 0) (by omega);simp only [Nat.reduceMul,Nat.add_zero] at cx;have ck0 := cx.1;rw [Q0.out,S0.out] at ck0;clear cx;clear hb))
    clear ck0;refine (HH.out _).mono ?_;rintro e w3 ⟨rfl,hf⟩;have HZ3 := Xb hf HZ2;have HD3 := Xi (HD2.out.fr hf);have HF3 := Xf HF2 hf;have HX3 := Xb hf HX2;clear hf HZ2 HD2 HF2 HX2;have cx := Qai HD3.out (k := 0) (by omega);simp only [Nat.reduceMul,Nat.add_zero] at cx;have ck0 := cx.1;rw [Q0.out,S0.out] at ck0;clear cx;go_wp2_with fail;clear ck0;refine (HH.out _).mono ?_;rintro e w4 ⟨rfl,hf⟩;have HZ4 := Xb hf HZ3;have HD4 := Xi (HD3.out.fr hf);have HF4 := Xf HF3 hf;have HX4 := Xb hf HX3;clear hf HZ3 HD3 HF3 HX3;have cx := Qai HD4.out (k := 0) (by omega);simp only [Nat.reduceMul,Nat.add_zero] at cx;have ck0 := cx.1;rw [Q0.out,S0.out] at ck0;clear cx;go_wp2_with fail;clear ck0;refine (HH.out _).mono ?_;rintro e w5 ⟨rfl,hf⟩;have HZ5 := Xb hf HZ4;have HD5 := Xi (HD4.out.fr hf);have HF5 := Xf HF4 hf;have HX5 := Xb hf HX4;clear hf HZ4 HD4 HF4 HX4;have cx := Qai HD5.out (k := 1) (by omega);simp only [Nat.reduceMul] at cx;have ck1 := cx.1;rw [Q1.out] at ck1;clear cx;have cx := Qai HD5.out (k := 2) (by omega);simp only [Nat.reduceMul] at cx;have ck2 := cx.1;rw [Q2.out] at ck2;clear cx;go_wp2_with (first
     | ((with_reducible refine Qab 3 ?_);refine Xc 3 w1.heap.size 0 58 (Qad Qae) (Qad { Qae with kind := 4 }) (intV 4) HX5.out QaG (Qik _ _) ?_;intro w6 hf hb;have HX6 := Xi hb;have HZ6 := Xo hf HZ5;have HD6 := Xi (QcJ HD5.out hf hbl);have HF6 := Xn HF5 hf;have cx := Qai HD6.out (k := 1) (by omega);simp only [Nat.reduceMul] at cx;have ck1 := cx.1;rw [Q1.out] at ck1;clear cx;have cx := Qai HD6.out (k := 2) (by omega);simp only [Nat.reduceMul] at cx;have ck2 := cx.1;rw [Q2.out] at ck2;clear cx;clear hf hb HX5 HZ5 HD5 HF5)
     | ((with_reducible refine Qab 9 ?_)
        first
         | (refine Xc 9 w1.heap.size 13 58 (Qad { Qae with kind := 4 }) (Qad { Qae with kind := 4,target := x1 }) (strV x1) HX6.out QaX (Ql2 _ _) ?_;intro w7 hf hb;have HX7 := Xi hb;have HZ7 := Xo hf HZ6;have HD7 := Xi (QcJ HD6.out hf hbl);have HF7 := Xn HF6 hf;have cx := Qai HD7.out (k := 1) (by omega);simp only [Nat.reduceMul] at cx;have ck1 := cx.1;rw [Q1.out] at ck1;clear cx;have cx := Qai HD7.out (k := 2) (by omega);simp only [Nat.reduceMul] at cx;have ck2 := cx.1;rw [Q2.out] at ck2;clear cx;clear hf hb HX6 HZ6 HD6 HF6)
         | (refine Xc 9 w1.heap.size 12 58 (Qad { Qae with kind := 4,target := x1 }) (Qad { Qae with kind := 4,target := x1,name := x2 }) (strV x2) HX7.out QaX (Qij _ _) ?_;intro w8 hf hb;have HX8 := Xi hb;have HZ8 := Xo hf HZ7;have HD8 := Xi (QcJ HD7.out hf hbl);have HF8 := Xn HF7 hf;have cx := Qai HD8.out (k := 1) (by omega);simp only [Nat.reduceMul] at cx;have ck1 := cx.1;rw [Q1.out] at ck1;have cc1 := cx.2;try simp only [Nat.add_assoc,Nat.reduceAdd] at cc1;rw [C1.out] at cc1;clear cx;have cx := Qai HD8.out (k := 2) (by omega);simp only [Nat.reduceMul] at cx;have ck2 := cx.1;rw [Q2.out] at ck2;have cc2 := cx.2;try simp only [Nat.add_assoc,Nat.reduceAdd] at cc2;rw [C2.out] at cc2;clear cx;clear hf hb HX7 HZ7 HD7 HF7)))
    refine wp_loop_rounds 4 ?_;rw [rounds_succ];go_wp2_with fail;refine (Qdq x1 hg1 _ _ hz1).mono ?_;rintro e w8 ⟨rfl,rfl⟩;go_wp2_with fail;rw [rounds_succ];go_wp2_with fail;refine (QbW 5 c1 _).mono ?_;rintro e w9 ⟨rfl,hf⟩;have HZ9 := Xb hf HZ8;have HD9 := Xi (HD8.out.fr hf);have HF9 := Xf HF8 hf;have HX9 := Xb hf HX8;clear hf HZ8 HD8 HF8 HX8;go_wp2_with (first
     | ((with_reducible refine Qab 58 ?_);refine Xs 58 w.heap.size 0 58 (Qad Qae) (Qad (QaE 5 c1)) (Qad (QaE 5 c1)) HZ9.out (QaL _) (Qaj _) (Qao _ _) ?_;intro w9 hf9 hb9;have HE9 := Xi hb9;have HF9 := Xn HF9 hf9;clear hf9 hb9))
    (try simp only [Exit.inBlock,Exit.then]);exact bodyPost_ret (Qa2 HE9.out _ rfl) rfl ⟨rfl,HF9.out⟩
   ·cases hz2 : Go.Kwd.QbR x2
    ·have hX := HL.out;rw [hz1,hz2] at hX;have hX : QaE 5 (Qcd fs 2) = X := hX;rw [C2.out] at hX;subst hX;go_enter func31,ntmps31;go_wp2_with fail;refine HP.out.mono ?_;rintro e w1 ⟨A,cap,rfl,hfd,hcap,hf⟩;obtain ⟨b,off,rfl,-⟩ := hfd.2 hpos;have hbl : b < w1.heap.size := Rd.lt hfd hpos (by decide);have hs1 : w.heap.size + 1 ≤ w1.heap.size := by have := hf.size; omega
     have HZ1 := Xb hf HZ0;have HF1 := Xf HF0 hf;have HD1 := Xi hfd;have cx := Qai HD1.out (k := 0) (by omega);simp only [Nat.reduceMul,Nat.add_zero] at cx;have ck0 := cx.1;rw [Q0.out,S0.out] at ck0;have cc0 := cx.2
     try simp only [Nat.add_assoc,Nat.reduceAdd,Nat.zero_add] at cc0
     rw [C0.out] at cc0;clear cx;clear hf hfd hcap;go_wp2_with (first
      | ((with_reducible refine Qab 58 ?_);refine Xs 58 w1.heap.size 0 58 (Qad Qae) (Qad Qae) (Qad Qae) (Blk.made w1 58 (Qad Qae)) (QaL _) (Qaj _) (Qao _ _) ?_;intro w2 hf hb;have hf := (Fr.new w1 (.cells (Qad Qae) 58) (fun _ => False)).fresh hf (fun i e => by omega);have HX2 := Xi hb;have HZ2 := Xb hf HZ1;have HD2 := Xi (HD1.out.fr hf);have HF2 := Xf HF1 hf;clear hf HZ1 HD1 HF1;have cx := Qai HD2.out (k := 0) (by omega);simp only [Nat.reduceMul,Nat.add_zero] at cx;have ck0 := cx.1;rw [Q0.out,S0.out] at ck0;clear cx;clear hb))
     clear ck0;refine (HH.out _).mono ?_;rintro e w3 ⟨rfl,hf⟩;have HZ3 := Xb hf HZ2;have HD3 := Xi (HD2.out.fr hf);have HF3 := Xf HF2 hf;have HX3 := Xb hf HX2;clear hf HZ2 HD2 HF2 HX2;have cx := Qai HD3.out (k := 0) (by omega);simp only [Nat.reduceMul,Nat.add_zero] at cx;have ck0 := cx.1;rw [Q0.out,S0.out] at ck0;clear cx;go_wp2_with fail;clear ck0;refine (HH.out _).mono ?_;rintro e w4 ⟨rfl,hf⟩;have HZ4 := Xb hf HZ3;have HD4 := Xi (HD3.out.fr hf);have HF4 := Xf HF3 hf;have HX4 := Xb hf HX3;clear hf HZ3 HD3 HF3 HX3;have cx := Qai HD4.out (k := 0) (by omega);simp only [Nat.reduceMul,Nat.add_zero] at cx;have ck0 := cx.1;rw [Q0.out,S0.out] at ck0;clear cx;go_wp2_with fail;clear ck0;refine (HH.out _).mono ?_;rintro e w5 ⟨rfl,hf⟩;have HZ5 := Xb hf HZ4;have HD5 := Xi (HD4.out.fr hf);have HF5 := Xf HF4 hf;have HX5 := Xb hf HX4;clear hf HZ4 HD4 HF4 HX4;have cx := Qai HD5.out (k := 1) (by omega);simp only [Nat.reduceMul] at cx;have ck1 := cx.1;rw [Q1.out] at ck1;clear cx;have cx := Qai HD5.out (k := 2) (by omega);simp only [Nat.reduceMul] at cx;have ck2 := cx.1;rw [Q2.out] at ck2;clear cx;go_wp2_with (first
      | ((with_reducible refine Qab 3 ?_);refine Xc 3 w1.heap.size 0 58 (Qad Qae) (Qad { Qae with kind := 4 }) (intV 4) HX5.out QaG (Qik _ _) ?_;intro w6 hf hb;have HX6 := Xi hb;have HZ6 := Xo hf HZ5;have HD6 := Xi (QcJ HD5.out hf hbl);have HF6 := Xn HF5 hf;have cx := Qai HD6.out (k := 1) (by omega);simp only [Nat.reduceMul] at cx;have ck1 := cx.1;rw [Q1.out] at ck1;clear cx;have cx := Qai HD6.out (k := 2) (by omega);simp only [Nat.reduceMul] at cx;have ck2 := cx.1;rw [Q2.out] at ck2;clear cx;clear hf hb HX5 HZ5 HD5 HF5)
      | ((with_reducible refine Qab 9 ?_)
         first
          | (refine Xc 9 w1.heap.size 13 58 (Qad { Qae with kind := 4 }) (Qad { Qae with kind := 4,target := x1 }) (strV x1) HX6.out QaX (Ql2 _ _) ?_;intro w7 hf hb;have HX7 := Xi hb;have HZ7 := Xo hf HZ6;have HD7 := Xi (QcJ HD6.out hf hbl);have HF7 := Xn HF6 hf;have cx := Qai HD7.out (k := 1) (by omega);simp only [Nat.reduceMul] at cx;have ck1 := cx.1;rw [Q1.out] at ck1;clear cx;have cx := Qai HD7.out (k := 2) (by omega);simp only [Nat.reduceMul] at cx;have ck2 := cx.1;rw [Q2.out] at ck2;clear cx;clear hf hb HX6 HZ6 HD6 HF6)
          | (refine Xc 9 w1.heap.size 12 58 (Qad { Qae with kind := 4,target := x1 }) (Qad { Qae with kind := 4,target := x1,name := x2 }) (strV x2) HX7.out QaX (Qij _ _) ?_;intro w8 hf hb;have HX8 := Xi hb;have HZ8 := Xo hf HZ7;have HD8 := Xi (QcJ HD7.out hf hbl);have HF8 := Xn HF7 hf;have cx := Qai HD8.out (k := 1) (by omega);simp only [Nat.reduceMul] at cx;have ck1 := cx.1;rw [Q1.out] at ck1;have cc1 := cx.2;try simp only [Nat.add_assoc,Nat.reduceAdd] at cc1;rw [C1.out] at cc1;clear cx;have cx := Qai HD8.out (k := 2) (by omega);simp only [Nat.reduceMul] at cx;have ck2 := cx.1;rw [Q2.out] at ck2;have cc2 := cx.2;try simp only [Nat.add_assoc,Nat.reduceAdd] at cc2;rw [C2.out] at cc2;clear cx;clear hf hb HX7 HZ7 HD7 HF7)))
     refine wp_loop_rounds 4 ?_;rw [rounds_succ];go_wp2_with fail;refine (Qdq x1 hg1 _ _ hz1).mono ?_;rintro e w8 ⟨rfl,rfl⟩;go_wp2_with fail;rw [rounds_succ];go_wp2_with fail;refine (Qdq x2 hg2 _ _ hz2).mono ?_;rintro e w8 ⟨rfl,rfl⟩;go_wp2_with fail;rw [rounds_succ];go_wp2_with fail;refine (QbW 5 c2 _).mono ?_;rintro e w9 ⟨rfl,hf⟩;have HZ9 := Xb hf HZ8;have HD9 := Xi (HD8.out.fr hf);have HF9 := Xf HF8 hf;have HX9 := Xb hf HX8;clear hf HZ8 HD8 HF8 HX8;go_wp2_with (first
      | ((with_reducible refine Qab 58 ?_);refine Xs 58 w.heap.size 0 58 (Qad Qae) (Qad (QaE 5 c2)) (Qad (QaE 5 c2)) HZ9.out (QaL _) (Qaj _) (Qao _ _) ?_;intro w9 hf9 hb9;have HE9 := Xi hb9;have HF9 := Xn HF9 hf9;clear hf9 hb9))
     (try simp only [Exit.inBlock,Exit.then]);exact bodyPost_ret (Qa2 HE9.out _ rfl) rfl ⟨rfl,HF9.out⟩
    ·have hX := HL.out;rw [hz1,hz2] at hX;have hX : ({ Qae with kind := 4,target := x1,name := x2 } : LineL) = X := hX;subst hX;go_enter func31,ntmps31;go_wp2_with fail;refine HP.out.mono ?_;rintro e w1 ⟨A,cap,rfl,hfd,hcap,hf⟩;obtain ⟨b,off,rfl,-⟩ := hfd.2 hpos;have hbl : b < w1.heap.size := Rd.lt hfd hpos (by decide);have hs1 : w.heap.size + 1 ≤ w1.heap.size := by have := hf.size; omega
     have HZ1 := Xb hf HZ0;have HF1 := Xf HF0 hf;have HD1 := Xi hfd;have cx := Qai HD1.out (k := 0) (by omega);simp only [Nat.reduceMul,Nat.add_zero] at cx;have ck0 := cx.1;rw [Q0.out,S0.out] at ck0;have cc0 := cx.2
     try simp only [Nat.add_assoc,Nat.reduceAdd,Nat.zero_add] at cc0
     rw [C0.out] at cc0;clear cx;clear hf hfd hcap;go_wp2_with (first
      | ((with_reducible refine Qab 58 ?_);refine Xs 58 w1.heap.size 0 58 (Qad Qae) (Qad Qae) (Qad Qae) (Blk.made w1 58 (Qad Qae)) (QaL _) (Qaj _) (Qao _ _) ?_;intro w2 hf hb;have hf := (Fr.new w1 (.cells (Qad Qae) 58) (fun _ => False)).fresh hf (fun i e => by omega);have HX2 := Xi hb;have HZ2 := Xb hf HZ1;have HD2 := Xi (HD1.out.fr hf);have HF2 := Xf HF1 hf;clear hf HZ1 HD1 HF1;have cx := Qai HD2.out (k := 0) (by omega);simp only [Nat.reduceMul,Nat.add_zero] at cx;have ck0 := cx.1;rw [Q0.out,S0.out] at ck0;clear cx;clear hb))
     clear ck0;refine (HH.out _).mono ?_;rintro e w3 ⟨rfl,hf⟩;have HZ3 := Xb hf HZ2;have HD3 := Xi (HD2.out.fr hf);have HF3 := Xf HF2 hf;have HX3 := Xb hf HX2;clear hf HZ2 HD2 HF2 HX2;have cx := Qai HD3.out (k := 0) (by omega);simp only [Nat.reduceMul,Nat.add_zero] at cx;have ck0 := cx.1;rw [Q0.out,S0.out] at ck0;clear cx;go_wp2_with fail;clear ck0;refine (HH.out _).mono ?_;rintro e w4 ⟨rfl,hf⟩;have HZ4 := Xb hf HZ3;have HD4 := Xi (HD3.out.fr hf);have HF4 := Xf HF3 hf;have HX4 := Xb hf HX3;clear hf HZ3 HD3 HF3 HX3;have cx := Qai HD4.out (k := 0) (by omega);simp only [Nat.reduceMul,Nat.add_zero] at cx;have ck0 := cx.1;rw [Q0.out,S0.out] at ck0;clear cx;go_wp2_with fail;clear ck0;refine (HH.out _).mono ?_;rintro e w5 ⟨rfl,hf⟩;have HZ5 := Xb hf HZ4;have HD5 := Xi (HD4.out.fr hf);have HF5 := Xf HF4 hf;have HX5 := Xb hf HX4;clear hf HZ4 HD4 HF4 HX4;have cx := Qai HD5.out (k := 1) (by omega);simp only [Nat.reduceMul] at cx;have ck1 := cx.1;rw [Q1.out] at ck1;clear cx;have cx := Qai HD5.out (k := 2) (by omega);simp only [Nat.reduceMul] at cx;have ck2 := cx.1;rw [Q2.out] at ck2;clear cx;go_wp2_with (first
      | ((with_reducible refine Qab 3 ?_);refine Xc 3 w1.heap.size 0 58 (Qad Qae) (Qad { Qae with kind := 4 }) (intV 4) HX5.out QaG (Qik _ _) ?_;intro w6 hf hb;have HX6 := Xi hb;have HZ6 := Xo hf HZ5;have HD6 := Xi (QcJ HD5.out hf hbl);have HF6 := Xn HF5 hf;have cx := Qai HD6.out (k := 1) (by omega);simp only [Nat.reduceMul] at cx;have ck1 := cx.1;rw [Q1.out] at ck1;clear cx;have cx := Qai HD6.out (k := 2) (by omega);simp only [Nat.reduceMul] at cx;have ck2 := cx.1;rw [Q2.out] at ck2;clear cx;clear hf hb HX5 HZ5 HD5 HF5)
      | ((with_reducible refine Qab 9 ?_)
         first
          | (refine Xc 9 w1.heap.size 13 58 (Qad { Qae with kind := 4 }) (Qad { Qae with kind := 4,target := x1 }) (strV x1) HX6.out QaX (Ql2 _ _) ?_;intro w7 hf hb;have HX7 := Xi hb;have HZ7 := Xo hf HZ6;have HD7 := Xi (QcJ HD6.out hf hbl);have HF7 := Xn HF6 hf;have cx := Qai HD7.out (k := 1) (by omega);simp only [Nat.reduceMul] at cx;have ck1 := cx.1;rw [Q1.out] at ck1;clear cx;have cx := Qai HD7.out (k := 2) (by omega);simp only [Nat.reduceMul] at cx;have ck2 := cx.1;rw [Q2.out] at ck2;clear cx;clear hf hb HX6 HZ6 HD6 HF6)
          | (refine Xc 9 w1.heap.size 12 58 (Qad { Qae with kind := 4,target := x1 }) (Qad { Qae with kind := 4,target := x1,name := x2 }) (strV x2) HX7.out QaX (Qij _ _) ?_;intro w8 hf hb;have HX8 := Xi hb;have HZ8 := Xo hf HZ7;have HD8 := Xi (QcJ HD7.out hf hbl);have HF8 := Xn HF7 hf;have cx := Qai HD8.out (k := 1) (by omega);simp only [Nat.reduceMul] at cx;have ck1 := cx.1;rw [Q1.out] at ck1;have cc1 := cx.2;try simp only [Nat.add_assoc,Nat.reduceAdd] at cc1;rw [C1.out] at cc1;clear cx;have cx := Qai HD8.out (k := 2) (by omega);simp only [Nat.reduceMul] at cx;have ck2 := cx.1;rw [Q2.out] at ck2;have cc2 := cx.2;try simp only [Nat.add_assoc,Nat.reduceAdd] at cc2;rw [C2.out] at cc2;clear cx;clear hf hb HX7 HZ7 HD7 HF7)))
     refine wp_loop_rounds 4 ?_;rw [rounds_succ];go_wp2_with fail;refine (Qdq x1 hg1 _ _ hz1).mono ?_;rintro e w8 ⟨rfl,rfl⟩;go_wp2_with fail;rw [rounds_succ];go_wp2_with fail;refine (Qdq x2 hg2 _ _ hz2).mono ?_;rintro e w8 ⟨rfl,rfl⟩;go_wp2_with fail;rw [rounds_succ];go_wp2_with (first
      | ((with_reducible refine Qah 58 ?_);refine Xl 58 w1.heap.size 0 58 (Qad { Qae with kind := 4,target := x1,name := x2 }) (Qad { Qae with kind := 4,target := x1,name := x2 }) HX8.out underlying58 (QaL _) (QeN _) ?_)
      | ((with_reducible refine Qab 58 ?_);refine Xs 58 w.heap.size 0 58 (Qad Qae) (Qad { Qae with kind := 4,target := x1,name := x2 }) (Qad { Qae with kind := 4,target := x1,name := x2 }) HZ8.out (QaL _) (Qaj _) (Qao _ _) ?_;intro w9 hf9 hb9;have HE9 := Xi hb9;have HF9 := Xn HF8 hf9;clear hf9 hb9))
     (try simp only [Exit.inBlock,Exit.then]);exact bodyPost_ret (Qa2 HE9.out _ rfl) rfl ⟨rfl,HF9.out⟩
  ·have hX := HL.out;rw [if_pos (by simpa using hn)] at hX;subst hX;have e1 : ((fs.length : Int) == 3) = false := by rw [beq_eq_false_iff_ne]; omega
   have e2 : ((fs.length : Int) != 3) = true := by unfold bne; rw [e1]; rfl
   go_enter func31,ntmps31;go_wp2_with fail;refine HP.out.mono ?_;rintro e w1 ⟨A,cap,rfl,hfd,hcap,hf⟩;obtain ⟨b,off,rfl,-⟩ := hfd.2 hpos;have hbl : b < w1.heap.size := Rd.lt hfd hpos (by decide);have hs1 : w.heap.size + 1 ≤ w1.heap.size := by have := hf.size; omega
   have HZ1 := Xb hf HZ0;have HF1 := Xf HF0 hf;have HD1 := Xi hfd;have cx := Qai HD1.out (k := 0) (by omega);simp only [Nat.reduceMul,Nat.add_zero] at cx;have ck0 := cx.1;rw [Q0.out,S0.out] at ck0;have cc0 := cx.2
   try simp only [Nat.add_assoc,Nat.reduceAdd,Nat.zero_add] at cc0
   rw [C0.out] at cc0;clear cx;clear hf hfd hcap;go_wp2_with (first
    | ((with_reducible refine Qab 58 ?_);refine Xs 58 w1.heap.size 0 58 (Qad Qae) (Qad Qae) (Qad Qae) (Blk.made w1 58 (Qad Qae)) (QaL _) (Qaj _) (Qao _ _) ?_;intro w2 hf hb;have hf := (Fr.new w1 (.cells (Qad Qae) 58) (fun _ => False)).fresh hf (fun i e => by omega);have HX2 := Xi hb;have HZ2 := Xb hf HZ1;have HD2 := Xi (HD1.out.fr hf);have HF2 := Xf HF1 hf;clear hf HZ1 HD1 HF1;have cx := Qai HD2.out (k := 0) (by omega);simp only [Nat.reduceMul,Nat.add_zero] at cx;have ck0 := cx.1;rw [Q0.out,S0.out] at ck0;clear cx;clear hb))
   clear ck0;refine (HH.out _).mono ?_;rintro e w3 ⟨rfl,hf⟩;have HZ3 := Xb hf HZ2;have HD3 := Xi (HD2.out.fr hf);have HF3 := Xf HF2 hf;have HX3 := Xb hf HX2;clear hf HZ2 HD2 HF2 HX2;have cx := Qai HD3.out (k := 0) (by omega);simp only [Nat.reduceMul,Nat.add_zero] at cx;have ck0 := cx.1;rw [Q0.out,S0.out] at ck0;clear cx;go_wp2_with fail;clear ck0;refine (HH.out _).mono ?_;rintro e w4 ⟨rfl,hf⟩;have HZ4 := Xb hf HZ3;have HD4 := Xi (HD3.out.fr hf);have HF4 := Xf HF3 hf;have HX4 := Xb hf HX3;clear hf HZ3 HD3 HF3 HX3;have cx := Qai HD4.out (k := 0) (by omega);simp only [Nat.reduceMul,Nat.add_zero] at cx;have ck0 := cx.1;rw [Q0.out,S0.out] at ck0;clear cx;go_wp2_with fail;clear ck0;refine (HH.out _).mono ?_;rintro e w5 ⟨rfl,hf⟩;have HZ5 := Xb hf HZ4;have HD5 := Xi (HD4.out.fr hf);have HF5 := Xf HF4 hf;have HX5 := Xb hf HX4;clear hf HZ4 HD4 HF4 HX4;go_wp2_with fail;refine (QbW 4 c0 _).mono ?_;rintro e w6 ⟨rfl,hf⟩;have HZ6 := Xb hf HZ5;have HD6 := Xi (HD5.out.fr hf);have HF6 := Xf HF5 hf;have HX6 := Xb hf HX5;clear hf HZ5 HD5 HF5 HX5;go_wp2_with (first
    | ((with_reducible refine Qab 58 ?_);refine Xs 58 w.heap.size 0 58 (Qad Qae) (Qad (QaE 4 c0)) (Qad (QaE 4 c0)) HZ6.out (QaL _) (Qaj _) (Qao _ _) ?_;intro w9 hf9 hb9;have HE9 := Xi hb9;have HF9 := Xn HF6 hf9;clear hf9 hb9))
   (try simp only [Exit.inBlock,Exit.then]);exact bodyPost_ret (Qa2 HE9.out _ rfl) rfl ⟨rfl,HF9.out⟩
theorem Qja (l : Bs) : (∃ fs,S7.Qbp l = (fs,0,0) ∧ ∀ x ∈ fs,x.1.length ≤ 200) ∨ ∃ fs c k,S7.Qbp l = (fs,c,k) ∧ k ≠ 0 := by
 have ht := Qgy l;unfold S7.Qbp at *;by_cases h : 200 < l.length
 ·rw [if_pos h];exact .inr ⟨_,_,_,rfl,by decide⟩
 ·rw [if_neg h] at ht ⊢;cases hf : Go.Lxr.Qa4 0 l with
  | error k => exact .inr ⟨_,_,_,rfl,by simp⟩
  | ok fs =>
   rw [hf] at ht;exact .inl ⟨fs,rfl,fun x hx => ht x hx⟩
theorem gt_short {fs : List Qat} (hz : ∀ x ∈ fs,x.1.length ≤ 200) (k : Nat) : (gt (fs.map (·.1)) k).length ≤ 900 := by
 unfold gt;rw [List.getD_eq_getElem?_getD,List.getElem?_map];cases h : fs[k]? with
 | none => simp
 | some x => have := hz x (List.mem_of_getElem? h); simp; omega
theorem Qm6 (l : Bs) (fs : List Qat) (c k : Int) (hO : S7.Qbp l = (fs,c,k)) (hk : k ≠ 0) (hl : l.length ≤ 100000) (w : World) : Calls Tryz.prog 31 #[strV l] w fun e w' => e = .returned (QdQ (QaE k c)) ∧ Fr w w' (fun _ => False) := by
 have hf1 := Fr.new w (.cells Z02 58) (fun _ => False);have HZ := Xi (show Blk _ w.heap.size 58 (Qad Qae) from Blk.made w 58 Z02);have HF := Xi hf1;have HP := Xi (Qck l (w.alloc (.cells Z02 58)) (by omega));rw [hO] at HP;have k0 : (k == 0) = false := by simpa using hk
 have k1 : (k != 0) = true := by simpa using hk
 have HQ := Xi (fun W => QbW k c W);obtain ⟨X,hX⟩ : ∃ X,QaE k c = X := ⟨_,rfl⟩;rw [hX] at HQ ⊢;clear hf1 hO hk hX;go_enter func31,ntmps31;go_wp2_with fail;refine HP.out.mono ?_;rintro e w2 ⟨A,cap,rfl,-,-,hf2⟩;have HF2 := Xf HF hf2;have HZ2 := Xb hf2 HZ;clear hf2;go_wp2_with fail;refine (HQ.out _).mono ?_;rintro e w3 ⟨rfl,hf3⟩;have HF3 := Xf HF2 hf3;have HZ3 := Xb hf3 HZ2;clear hf3;go_wp2_with (
  refine Xs 58 w.heap.size 0 58 (Qad Qae) (Qad X) (Qad X) HZ3.out (QaL _) (Qaj _) (Qao _ _) ?_;intro w9 hf9 hb9;have HE := Xi hb9;have HFe := Xn HF3 hf9;clear hf9 hb9)
 (try simp only [Exit.inBlock,Exit.then]);exact bodyPost_ret (Qa2 HE.out _ rfl) rfl ⟨rfl,HFe.out⟩
theorem Qm5 (l : Bs) (hO : S7.Qbp l = ([],0,0)) (hl : l.length ≤ 100000) (w : World) : Calls Tryz.prog 31 #[strV l] w fun e w' => e = .returned (QdQ Qae) ∧ Fr w w' (fun _ => False) := by
 have hf1 := Fr.new w (.cells Z02 58) (fun _ => False);have HZ := Xi (show Blk _ w.heap.size 58 (Qad Qae) from Blk.made w 58 Z02);have HF := Xi hf1;have HP := Xi (Qck l (w.alloc (.cells Z02 58)) (by omega));rw [hO] at HP;clear hf1 hO;go_enter func31,ntmps31;go_wp2_with fail;refine HP.out.mono ?_;rintro e w2 ⟨A,cap,rfl,-,-,hf2⟩;have HF2 := Xf HF hf2;have HZ2 := Xb hf2 HZ;clear hf2;go_wp2_with (
  refine Xs 58 w.heap.size 0 58 (Qad Qae) (Qad Qae) (Qad Qae) HZ2.out (QaL _) (Qaj _) (Qao _ _) ?_;intro w9 hf9 hb9;have HE := Xi hb9;have HFe := Xn HF2 hf9;clear hf9 hb9)
 (try simp only [Exit.inBlock,Exit.then]);exact bodyPost_ret (Qa2 HE.out _ rfl) rfl ⟨rfl,HFe.out⟩
theorem QkO (l : Bs) (x : LineL) (hx : Qbe l = x) (w : World) (hl : l.length ≤ 100000) : Calls Tryz.prog 31 #[strV l] w fun e w' => e = .returned (QdQ x) ∧ Fr w w' (fun _ => False) := by
 unfold Qbe at hx;rcases Qja l with ⟨fs,hO,hz⟩ | ⟨fs,c,k,hO,hk⟩
 ·rw [hO] at hx;have hx : Qdh fs = x := by rw [← hx,if_neg (by simp)]
  by_cases hne : fs = []
  ·subst hne;have hx : Qae = x := hx;subst hx;exact Qm5 l hO hl w
  ·have hg := gt_short hz;cases hc : QeI (gt (fs.map (·.1)) 0) with
   | true => exact QkE l fs hO hg hne hc hl w x hx
   | false =>
    by_cases h1 : Go.Kwd.headD (gt (fs.map (·.1)) 0) = 1
    ·exact QkB l fs hO hg hne hc h1 hl w x hx
    ·by_cases h2 : Go.Kwd.headD (gt (fs.map (·.1)) 0) = 2
     ·exact Qkz l fs hO hg hne hc h2 hl w x hx
     ·by_cases h3 : Go.Kwd.headD (gt (fs.map (·.1)) 0) = 3
      ·exact QkD l fs hO hg hne hc h3 hl w x hx
      ·exact QkC l fs hO hg hne hc ⟨h1,h2,h3⟩ hl w x hx
 ·rw [hO] at hx;have hx : QaE k c = x := by rw [← hx,if_pos hk]
  subst hx;exact Qm6 l fs c k hO hk hl w
end Go.Proofs.YtlfjknndkjgciaaGreatDoor
