import Derived.Test.YtodcnbejnchmhaaGreatDoorYc48
set_option maxRecDepth 100000
set_option maxHeartbeats 25600000
namespace Go.Proofs.YtodcnbejnchmhaaGreatDoor
open _root_.Go.Proofs.Tryz
open Go.RowKit Go.Mem Go.Lin
theorem Qkz (l : Bs) (fs : List Qat) (hO : S7.Qbi l = (fs,0,0)) (hz : ∀ k,(gt (fs.map (·.1)) k).length ≤ 900) (hne : fs ≠ []) (hc : QeM (gt (fs.map (·.1)) 0) = false) (hh : Go.Kwd.headD (gt (fs.map (·.1)) 0) = 2) (hl : l.length ≤ 100000) (w : World) (X : LineL) (hX : Qdi fs = X) : Calls Tryz.prog 29 #[strV l] w fun e w' => e = .returned (QeL X) ∧ Fr w w' (fun _ => False) := by
 have hpos : 0 < fs.length := List.length_pos_iff.2 hne;have hf1 := Fr.new w (.cells Z02 71) (fun _ => False);have HZ0 := Xi (show Blk _ w.heap.size 71 (Qad Qae) from Blk.made w 71 Z02);have HF0 := Xi hf1;have s1 : (w.alloc (.cells Z02 71)).heap.size = w.heap.size + 1 := by simp
 have HP := Xi (Qb1 l (w.alloc (.cells Z02 71)) (by omega));rw [hO] at HP;unfold Qdi at hX;rw [if_neg hne] at hX;obtain ⟨x0,hx0⟩ : ∃ x,gt (fs.map (·.1)) 0 = x := ⟨_,rfl⟩;have hg0 := hz 0;rw [hx0] at hg0;simp only [hx0] at hX hc hh;have Q0 := Xi hx0;clear hx0;obtain ⟨x1,hx1⟩ : ∃ x,gt (fs.map (·.1)) 1 = x := ⟨_,rfl⟩;have hg1 := hz 1;rw [hx1] at hg1;simp only [hx1] at hX;have Q1 := Xi hx1;clear hx1;obtain ⟨c0,hc0⟩ : ∃ x,QbW fs 0 = x := ⟨_,rfl⟩
 try simp only [hc0] at hX
 have C0 := Xi hc0;clear hc0;obtain ⟨c1,hc1⟩ : ∃ x,QbW fs 1 = x := ⟨_,rfl⟩
 try simp only [hc1] at hX
 have C1 := Xi hc1;clear hc1;rw [if_neg (by rw [hc]; decide),if_neg (by rw [hh]; decide),if_pos hh] at hX;have HB := Xi (fun (h : 4 < fs.length) => Qqn (fs.map (·.1)) 2 (by rw [List.length_map]; omega));have HE := Xi (fun (h1 : 4 < fs.length) (h2 : fs.length ≤ 9) (b off c : Nat) (W : World) (hfd : S7.FdAt W (some ⟨b,off,none⟩) fs) => rera_2 fs hz h1 h2 b off c W hfd);obtain ⟨R,hR⟩ : ∃ R,eraP (fs.map (·.1)) 2 = R := ⟨_,rfl⟩;rw [hR] at hX HB HE;have HL := Xi hX;clear hR hX;obtain ⟨z,hzz⟩ : ∃ z,Go.Kwd.headD x0 = z := ⟨_,rfl⟩;have HH := Xi (fun W => Qfl x0 hg0 W z hzz);rw [hzz] at hh;have z1 : ((z : Int) == 1) = false := by rw [hh]; rfl
 have z2 : ((z : Int) == 2) = true := by rw [hh]; rfl
 have z3 : ((z : Int) == 3) = false := by rw [hh]; rfl
 clear hzz hh;obtain ⟨s,hs⟩ : ∃ s : ByteArray,strV x0 = Value.string s := ⟨_,rfl⟩;have hsx : s.data.toList = x0 := by
  injection hs with hs;rw [← hs]
 rw [← hsx] at hc;have S0 := Xi hs;rw [hs] at HH;clear hsx hs hz hne hO hl hf1;have hch := QiW hc;clear hc;have hch : ((s.size : Int) ≤ 0 ∨ ∃ (hs : 0 < s.size) (_ : (0 : Int) < (s.size : Int)),((s[0].toNat : Int) == 45) = false ∧ (s[0].toNat : Int) < 48) ∨ ∃ (hs : 0 < s.size) (_ : (0 : Int) < (s.size : Int)),((s[0].toNat : Int) == 45) = false ∧ (48 : Int) ≤ (s[0].toNat : Int) ∧ (57 : Int) < (s[0].toNat : Int) := by
  rcases hch with h | ⟨h,h1,h2 | h2⟩
  ·exact .inl (.inl (by omega))
  ·exact .inl (.inr ⟨h,by omega,h1,h2⟩)
  ·exact .inr ⟨h,by omega,h1,h2⟩
 rcases hch with (i0 | ⟨hs0,i0,f1,f2⟩) | ⟨hs0,i0,f1,f2,f3⟩
 all_goals
  by_cases hn : fs.length < 5 ∨ 9 < fs.length
  ·have hX := HL.out;rw [if_pos hn] at hX;subst hX;have hn : (fs.length : Int) < 5 ∨ ((5 : Int) ≤ (fs.length : Int) ∧ (9 : Int) < (fs.length : Int)) := by omega
   rcases hn with t1 | ⟨t1,t2⟩
   all_goals
    go_enter func29,ntmps29;go_wp2_with fail;refine HP.out.mono ?_;rintro e w1 ⟨A,cap,rfl,hfd,hcap,hf⟩;obtain ⟨b,off,rfl,-⟩ := hfd.2 hpos;have hbl : b < w1.heap.size := Rd.lt hfd hpos (by decide);have hs1 : w.heap.size + 1 ≤ w1.heap.size := by have := hf.size; omega
    have HZ1 := Xb hf HZ0;have HF1 := Xf HF0 hf;have HD1 := Xi hfd;have cx := Qai HD1.out (k := 0) (by omega);simp only [Nat.reduceMul,Nat.add_zero] at cx;have ck0 := cx.1;rw [Q0.out,S0.out] at ck0;have cc0 := cx.2
    try simp only [Nat.add_assoc,Nat.reduceAdd,Nat.zero_add] at cc0
    rw [C0.out] at cc0;clear cx;clear hf hfd hcap;go_wp2_with (first
     | ((with_reducible refine Qab 71 ?_);refine Xs 71 w1.heap.size 0 71 (Qad Qae) (Qad Qae) (Qad Qae) (Blk.made w1 71 (Qad Qae)) (Qa7 _) (Qar _) (Qaw _ _) ?_;intro w2 hf hb;have hf := (Fr.new w1 (.cells (Qad Qae) 71) (fun _ => False)).fresh hf (fun i e => by omega);have HX2 := Xi hb;have HZ2 := Xb hf HZ1;have HD2 := Xi (HD1.out.fr hf);have HF2 := Xf HF1 hf;clear hf HZ1 HD1 HF1;have cx := Qai HD2.out (k := 0) (by omega);simp only [Nat.reduceMul,Nat.add_zero] at cx;have ck0 := cx.1;rw [Q0.out,S0.out] at ck0;clear cx;clear hb))
    clear ck0;refine (HH.out _).mono ?_;rintro e w3 ⟨rfl,hf⟩;have HZ3 := Xb hf HZ2;have HD3 := Xi (HD2.out.fr hf);have HF3 := Xf HF2 hf;have HX3 := Xb hf HX2;clear hf HZ2 HD2 HF2 HX2;have cx := Qai HD3.out (k := 0) (by omega);simp only [Nat.reduceMul,Nat.add_zero] at cx;have ck0 := cx.1;rw [Q0.out,S0.out] at ck0;clear cx;go_wp2_with fail;clear ck0;refine (HH.out _).mono ?_;rintro e w4 ⟨rfl,hf⟩;have HZ4 := Xb hf HZ3;have HD4 := Xi (HD3.out.fr hf);have HF4 := Xf HF3 hf;have HX4 := Xb hf HX3;clear hf HZ3 HD3 HF3 HX3;go_wp2_with fail;refine (QbD 4 c0 _).mono ?_;rintro e w5 ⟨rfl,hf⟩;have HZ5 := Xb hf HZ4;have HD5 := Xi (HD4.out.fr hf);have HF5 := Xf HF4 hf;have HX5 := Xb hf HX4;clear hf HZ4 HD4 HF4 HX4;go_wp2_with (first
     | ((with_reducible refine Qab 71 ?_);refine Xs 71 w.heap.size 0 71 (Qad Qae) (Qad (QaC 4 c0)) (Qad (QaC 4 c0)) HZ5.out (Qa7 _) (Qar _) (Qaw _ _) ?_;intro w9 hf9 hb9;have HE9 := Xi hb9;have HF9 := Xn HF5 hf9;clear hf9 hb9))
    (try simp only [Exit.inBlock,Exit.then]);exact bodyPost_ret (QaQ HE9.out _ rfl) rfl ⟨rfl,HF9.out⟩
  ·have hX := HL.out;rw [if_neg hn] at hX;have n5 : (5 : Int) ≤ (fs.length : Int) := by omega
   have n9 : (fs.length : Int) ≤ 9 := by omega
   have n1 : (1 : Int) < (fs.length : Int) := by omega
   have h4 : 4 < fs.length := by omega
   cases hz1 : Go.Kwd.Qcd x1
   ·rw [hz1] at hX;have hX : QaC 5 (QbW fs 1) = X := hX;rw [C1.out] at hX;subst hX;go_enter func29,ntmps29;go_wp2_with fail;refine HP.out.mono ?_;rintro e w1 ⟨A,cap,rfl,hfd,hcap,hf⟩;obtain ⟨b,off,rfl,-⟩ := hfd.2 hpos;have hbl : b < w1.heap.size := Rd.lt hfd hpos (by decide);have hs1 : w.heap.size + 1 ≤ w1.heap.size := by have := hf.size; omega
    have HZ1 := Xb hf HZ0;have HF1 := Xf HF0 hf;have HD1 := Xi hfd;have cx := Qai HD1.out (k := 0) (by omega);simp only [Nat.reduceMul,Nat.add_zero] at cx;have ck0 := cx.1;rw [Q0.out,S0.out] at ck0;have cc0 := cx.2
    try simp only [Nat.add_assoc,Nat.reduceAdd,Nat.zero_add] at cc0
    rw [C0.out] at cc0;clear cx;clear hf hfd hcap;go_wp2_with (first
     | ((with_reducible refine Qab 71 ?_);refine Xs 71 w1.heap.size 0 71 (Qad Qae) (Qad Qae) (Qad Qae) (Blk.made w1 71 (Qad Qae)) (Qa7 _) (Qar _) (Qaw _ _) ?_;intro w2 hf hb;have hf := (Fr.new w1 (.cells (Qad Qae) 71) (fun _ => False)).fresh hf (fun i e => by omega);have HX2 := Xi hb;have HZ2 := Xb hf HZ1;have HD2 := Xi (HD1.out.fr hf);have HF2 := Xf HF1 hf;clear hf HZ1 HD1 HF1;have cx := Qai HD2.out (k := 0) (by omega);simp only [Nat.reduceMul,Nat.add_zero] at cx;have ck0 := cx.1;rw [Q0.out,S0.out] at ck0;clear cx;clear hb))
    clear ck0;refine (HH.out _).mono ?_;rintro e w3 ⟨rfl,hf⟩;have HZ3 := Xb hf HZ2;have HD3 := Xi (HD2.out.fr hf);have HF3 := Xf HF2 hf;have HX3 := Xb hf HX2;clear hf HZ2 HD2 HF2 HX2;have cx := Qai HD3.out (k := 0) (by omega);simp only [Nat.reduceMul,Nat.add_zero] at cx;have ck0 := cx.1;rw [Q0.out,S0.out] at ck0;clear cx;go_wp2_with fail;clear ck0;refine (HH.out _).mono ?_;rintro e w4 ⟨rfl,hf⟩;have HZ4 := Xb hf HZ3;have HD4 := Xi (HD3.out.fr hf);have HF4 := Xf HF3 hf;have HX4 := Xb hf HX3;clear hf HZ3 HD3 HF3 HX3;have cx := Qai HD4.out (k := 1) (by omega);simp only [Nat.reduceMul] at cx;have ck1 := cx.1;rw [Q1.out] at ck1;have cc1 := cx.2
    try simp only [Nat.add_assoc,Nat.reduceAdd] at cc1
    rw [C1.out] at cc1;clear cx;go_wp2_with fail;refine (Qc0 x1 hg1 _ _ hz1).mono ?_;rintro e w4 ⟨rfl,rfl⟩;go_wp2_with fail;refine (QbD 5 c1 _).mono ?_;rintro e w5 ⟨rfl,hf⟩;have HZ5 := Xb hf HZ4;have HD5 := Xi (HD4.out.fr hf);have HF5 := Xf HF4 hf;have HX5 := Xb hf HX4;clear hf HZ4 HD4 HF4 HX4;go_wp2_with (first
     | ((with_reducible refine Qab 71 ?_);refine Xs 71 w.heap.size 0 71 (Qad Qae) (Qad (QaC 5 c1)) (Qad (QaC 5 c1)) HZ5.out (Qa7 _) (Qar _) (Qaw _ _) ?_;intro w9 hf9 hb9;have HE9 := Xi hb9;have HF9 := Xn HF5 hf9;clear hf9 hb9))
    (try simp only [Exit.inBlock,Exit.then]);exact bodyPost_ret (QaQ HE9.out _ rfl) rfl ⟨rfl,HF9.out⟩
   ·rw [hz1] at hX;have HL := Xi hX;clear hX;go_enter func29,ntmps29;go_wp2_with fail;refine HP.out.mono ?_;rintro e w1 ⟨A,cap,rfl,hfd,hcap,hf⟩;obtain ⟨b,off,rfl,-⟩ := hfd.2 hpos;have hbl : b < w1.heap.size := Rd.lt hfd hpos (by decide);have hs1 : w.heap.size + 1 ≤ w1.heap.size := by have := hf.size; omega
    have HZ1 := Xb hf HZ0;have HF1 := Xf HF0 hf;have HD1 := Xi hfd;have cx := Qai HD1.out (k := 0) (by omega);simp only [Nat.reduceMul,Nat.add_zero] at cx;have ck0 := cx.1;rw [Q0.out,S0.out] at ck0;have cc0 := cx.2
    try simp only [Nat.add_assoc,Nat.reduceAdd,Nat.zero_add] at cc0
    rw [C0.out] at cc0;clear cx;clear hf hfd hcap;go_wp2_with (first
     | ((with_reducible refine Qab 71 ?_);refine Xs 71 w1.heap.size 0 71 (Qad Qae) (Qad Qae) (Qad Qae) (Blk.made w1 71 (Qad Qae)) (Qa7 _) (Qar _) (Qaw _ _) ?_;intro w2 hf hb;have hf := (Fr.new w1 (.cells (Qad Qae) 71) (fun _ => False)).fresh hf (fun i e => by omega);have HX2 := Xi hb;have HZ2 := Xb hf HZ1;have HD2 := Xi (HD1.out.fr hf);have HF2 := Xf HF1 hf;clear hf HZ1 HD1 HF1;have cx := Qai HD2.out (k := 0) (by omega);simp only [Nat.reduceMul,Nat.add_zero] at cx;have ck0 := cx.1;rw [Q0.out,S0.out] at ck0;clear cx;clear hb))
    clear ck0;refine (HH.out _).mono ?_;rintro e w3 ⟨rfl,hf⟩;have HZ3 := Xb hf HZ2;have HD3 := Xi (HD2.out.fr hf);have HF3 := Xf HF2 hf;have HX3 := Xb hf HX2;clear hf HZ2 HD2 HF2 HX2;have cx := Qai HD3.out (k := 0) (by omega);simp only [Nat.reduceMul,Nat.add_zero] at cx;have ck0 := cx.1;rw [Q0.out,S0.out] at ck0;clear cx;go_wp2_with fail;clear ck0;refine (HH.out _).mono ?_;rintro e w4 ⟨rfl,hf⟩;have HZ4 := Xb hf HZ3;have HD4 := Xi (HD3.out.fr hf);have HF4 := Xf HF3 hf;have HX4 := Xb hf HX3;clear hf HZ3 HD3 HF3 HX3;have cx := Qai HD4.out (k := 1) (by omega);simp only [Nat.reduceMul] at cx;have ck1 := cx.1;rw [Q1.out] at ck1;clear cx;go_wp2_with fail;refine (Qc0 x1 hg1 _ _ hz1).mono ?_;rintro e w4 ⟨rfl,rfl⟩;go_wp2_with (first
     | ((with_reducible refine Qab 3 ?_);refine Xc 3 w1.heap.size 0 71 (Qad Qae) (Qad { Qae with kind := 2 }) (intV 2) HX4.out QaE (Qh0 _ _) ?_;intro w5 hf hb;have HX5 := Xi hb;have HZ5 := Xo hf HZ4;have HD5 := Xi (Qcx HD4.out hf hbl);have HF5 := Xn HF4 hf;have cx := Qai HD5.out (k := 1) (by omega);simp only [Nat.reduceMul] at cx;have ck1 := cx.1;rw [Q1.out] at ck1;clear cx;clear hf hb HX4 HZ4 HD4 HF4)
     | ((with_reducible refine Qab 9 ?_);refine Xc 9 w1.heap.size 12 71 (Qad { Qae with kind := 2 }) (Qad { Qae with kind := 2,name := x1 }) (strV x1) HX5.out QaN (QhZ _ _) ?_;intro w6 hf hb;have HX6 := Xi hb;have HZ6 := Xo hf HZ5;have HD6 := Xi (Qcx HD5.out hf hbl);have HF6 := Xn HF5 hf;clear hf hb HX5 HZ5 HD5 HF5))
    clear ck1;have hc := HE.out h4 (by omega) b off cap w6 HD6.out;have hbd := HB.out h4;have hX := HL.out;clear HL HE HB;cases R with
    | error x =>
     have hx := hbd x rfl;rw [List.length_map] at hx;obtain ⟨ei,ek⟩ := x;have hx0 : (ek != 0) = true := by simpa using hx.1
     have hx1 : (ek == 0) = false := by simpa using hx.1
     have hei : ei < fs.length := hx.2;have hei2 : (ei : Int) < (fs.length : Int) := by omega
     have e1 : X = QaC ek (QbW fs ei) := hX.symm;clear hX;obtain ⟨ce,hce⟩ : ∃ x,QbW fs ei = x := ⟨_,rfl⟩;rw [hce] at e1;subst e1;have Ce := Xi hce;clear hbd hx hce;refine (hc).mono ?_;rintro e w7 ⟨hf,u9,rfl⟩;have HZ7 := Xb hf HZ6;have HD7 := Xi (HD6.out.fr hf);have HF7 := Xf HF6 hf;have HX7 := Xb hf HX6;clear hf HZ6 HD6 HF6 HX6;go_wp2_with (first
      | ((with_reducible refine Qab 69 ?_);refine Xs 69 w1.heap.size 14 71 (Qad { Qae with kind := 2,name := x1 }) (eraC u9) (Qad { Qae with kind := 2,name := x1,era := u9 }) HX7.out (QaK _) (Qax _) (QfQ _ _) ?_;intro w8 hf hb;have HX8 := Xi hb;have HZ8 := Xo hf HZ7;have HD8 := Xi (Qcx HD7.out hf hbl);have HF8 := Xn HF7 hf;have cx := (Qai HD8.out (k := ei) (by omega)).2;rw [Ce.out] at cx;clear hf hb HX7 HZ7 HD7 HF7))
     clear cx;refine (QbD ek ce _).mono ?_;rintro e w9 ⟨rfl,hf⟩;have HZ9 := Xb hf HZ8;have HD9 := Xi (HD8.out.fr hf);have HF9 := Xf HF8 hf;have HX9 := Xb hf HX8;clear hf HZ8 HD8 HF8 HX8;go_wp2_with (first
      | ((with_reducible refine Qab 71 ?_);refine Xs 71 w.heap.size 0 71 (Qad Qae) (Qad (QaC ek ce)) (Qad (QaC ek ce)) HZ9.out (Qa7 _) (Qar _) (Qaw _ _) ?_;intro w9 hf9 hb9;have HE9 := Xi hb9;have HF9 := Xn HF9 hf9;clear hf9 hb9))
     (try simp only [Exit.inBlock,Exit.then]);exact bodyPost_ret (QaQ HE9.out _ rfl) rfl ⟨rfl,HF9.out⟩
    | ok v =>
     have hX : ({ Qae with kind := 2,name := x1,era := v } : LineL) = X := hX;subst hX;clear hbd;refine (hc).mono ?_;rintro e w7 ⟨hf,rfl⟩;have HZ7 := Xb hf HZ6;have HD7 := Xi (HD6.out.fr hf);have HF7 := Xf HF6 hf;have HX7 := Xb hf HX6;clear hf HZ6 HD6 HF6 HX6;go_wp2_with (first
      | ((with_reducible refine Qab 69 ?_);refine Xs 69 w1.heap.size 14 71 (Qad { Qae with kind := 2,name := x1 }) (eraC v) (Qad { Qae with kind := 2,name := x1,era := v }) HX7.out (QaK _) (Qax _) (QfQ _ _) ?_;intro w8 hf hb;have HX8 := Xi hb;have HZ8 := Xo hf HZ7;have HD8 := Xi (Qcx HD7.out hf hbl);have HF8 := Xn HF7 hf;clear hf hb HX7 HZ7 HD7 HF7)
      | ((with_reducible refine Qam 71 ?_);refine Xl 71 w1.heap.size 0 71 (Qad { Qae with kind := 2,name := x1,era := v }) (Qad { Qae with kind := 2,name := x1,era := v }) HX8.out underlying71 (Qa7 _) (Qfp _) ?_)
      | ((with_reducible refine Qab 71 ?_);refine Xs 71 w.heap.size 0 71 (Qad Qae) (Qad { Qae with kind := 2,name := x1,era := v }) (Qad { Qae with kind := 2,name := x1,era := v }) HZ8.out (Qa7 _) (Qar _) (Qaw _ _) ?_;intro w9 hf9 hb9;have HE9 := Xi hb9;have HF9 := Xn HF8 hf9;clear hf9 hb9))
     (try simp only [Exit.inBlock,Exit.then]);exact bodyPost_ret (QaQ HE9.out _ rfl) rfl ⟨rfl,HF9.out⟩
end Go.Proofs.YtodcnbejnchmhaaGreatDoor
