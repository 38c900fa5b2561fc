import Derived.Test.YtodcnbejnchmhaaGreatDoorYc47
import Derived.Test.YtodcnbejnchmhaaGreatDoorYc19
import Derived.Test.YtodcnbejnchmhaaGreatDoorYc39
set_option maxRecDepth 100000
set_option maxHeartbeats 25600000
namespace Go.Proofs.YtodcnbejnchmhaaGreatDoor
open _root_.Go.Proofs.Tryz
open Go.RowKit Go.Mem Go.Lin

theorem Qb1 (l : Bs) (w : World) (hz : l.length ≤ 1000000) : Calls Tryz.prog 44 #[strV l] w (FOutC (S7.Qbi l) w) := by
 have hs : (⟨l.toArray⟩ : ByteArray).size = l.length := Qal l;by_cases h : 200 < l.length
 ·refine (S7.Qjx ⟨l.toArray⟩ w (by omega) (by omega)).mono ?_;rintro e w' ⟨rfl,rfl⟩;unfold S7.Qbi;rw [if_pos h];exact ⟨none,0,rfl,Rd.zero _ _ _,Nat.le_refl _,Fr.refl _ _⟩
 ·refine (S7.QiA ⟨l.toArray⟩ l w rfl (by omega)).mono ?_;rintro e w' h2;unfold S7.Qbi;rw [if_neg h];cases hf : Go.Lxr.QaU 0 l with
  | error k =>
   rw [hf] at h2;obtain ⟨rfl,h3⟩ := h2;exact ⟨none,0,rfl,Rd.zero _ _ _,Nat.le_refl _,h3⟩
  | ok fs =>
   rw [hf] at h2;obtain ⟨v,rfl,hv,h3⟩ := h2;obtain ⟨A,c,rfl,h4,-,h5,-⟩ := Qed hv;exact ⟨A,c,rfl,h5,h4,h3⟩
theorem Qnp {w : World} {g : Nat} {x : LineL} (hb : Blk w g 71 (Qad x)) (tmps : Array Value) (hp : tmps.getD 4 undef = .pointer (some ⟨g,0,none⟩)) : (results f45 tmps).run Tryz.prog w = .ok (.agg (Qad x)) w :=
 results_cell_row (P := Tryz.prog) (fn := f45) (p := 4) (ty := 71) rfl tmps _ g 71 (Qad x) (0,0) _ hp hb underlying71 rfl (Qa7 x)
theorem QaQ {w : World} {q : Nat} {v : LineL} (hb : Blk w q 71 (Qad v)) (tmps : Array Value) (hp : tmps.getD 2 undef = .pointer (some ⟨q,0,none⟩)) : (results f29 tmps).run Tryz.prog w = .ok (.agg (Qad v)) w :=
 results_cell_row (P := Tryz.prog) (fn := f29) (p := 2) (ty := 71) rfl tmps _ q 71 (Qad v) (0,0) _ hp hb underlying71 rfl (Qa7 v)
theorem QbD (k c : Int) (w : World) : Calls Tryz.prog 45 #[intV k,intV c] w fun e w' => e = .returned (.agg (Qad (QaC k c))) ∧ Fr w w' (fun _ => False) := by
 go_enter func45,ntmps45;go_wp2_with (refine Xs 71 w.heap.size 0 71 (Qad Qae) (Qad (QaC k c)) (Qad (QaC k c)) (Blk.made w 71 (Qad Qae)) (Qa7 _) (Qar _) (Qaw _ _) ?_;intro w3 hf3 hb3;have HF3 := Xi ((Fr.new w _ (fun _ => False)).fresh hf3 (fun i e => by omega));have HB3 := Xi hb3;clear hf3 hb3);(try simp only [Exit.inBlock,Exit.then]);exact bodyPost_ret (Qnp HB3.out _ rfl) rfl ⟨rfl,HF3.out⟩
theorem Qh0 (l : LineL) (v : Int) : (Qad l).setIfInBounds 0 (intV v) = Qad { l with kind := v } := rfl
theorem Qcx {W W' : World} {b off q : Nat} {fs : List Qat} (h : S7.FdAt W (some ⟨b,off,none⟩) fs) (hf : Fr W W' (fun i => i = q)) (hb : b < q) : S7.FdAt W' (some ⟨b,off,none⟩) fs :=
 Rd.fr h hf (fun b' off' e _ hx => by injection e with e; injection e with e1 e2; have hx : b' = q := hx; omega)
/-- what the first field's first byte is -/
theorem cont_yes {s : ByteArray} (h : QeM s.data.toList = true) : ∃ hs : 0 < s.size,(((s[0].toNat : Int) == 45) = true) ∨ (((s[0].toNat : Int) == 45) = false ∧ (48 : Int) ≤ (s[0].toNat : Int) ∧ (s[0].toNat : Int) ≤ 57) := by
 cases hl : s.data.toList with
 | nil => rw [hl] at h; cases h
 | cons c r =>
  obtain ⟨hs,hc⟩ := S8.QiL hl;refine ⟨hs,?_⟩;rw [hl] at h;rw [hc];have h : (c == 45 || Go.Kwd.Qbc c) = true := h;unfold Go.Kwd.Qbc at h;have q : ((c.toNat : Int) == 45) = (c == 45) := (S8.QbC c 45).symm;rw [q];cases h45 : (c == 45) with
  | true => exact .inl rfl
  | false =>
   rw [h45] at h;simp at h;exact .inr ⟨rfl,by omega,by omega⟩
theorem QiW {s : ByteArray} (h : QeM s.data.toList = false) : s.size = 0 ∨ ∃ hs : 0 < s.size,((s[0].toNat : Int) == 45) = false ∧ ((s[0].toNat : Int) < 48 ∨ ((48 : Int) ≤ (s[0].toNat : Int) ∧ (57 : Int) < (s[0].toNat : Int))) := by
 cases hl : s.data.toList with
 | nil => left; have := S8.Qag s; rw [hl] at this; simpa using this.symm
 | cons c r =>
  obtain ⟨hs,hc⟩ := S8.QiL hl;refine .inr ⟨hs,?_⟩;rw [hl] at h;rw [hc];have h : (c == 45 || Go.Kwd.Qbc c) = false := h;unfold Go.Kwd.Qbc at h;have q : ((c.toNat : Int) == 45) = (c == 45) := (S8.QbC c 45).symm;rw [q];simp only [Bool.or_eq_false_iff] at h;refine ⟨h.1,?_⟩;have := h.2;simp at this;by_cases h48 : (c.toNat : Int) < 48
  ·exact .inl h48
  ·exact .inr ⟨by omega,by omega⟩
theorem QkE (l : Bs) (fs : List Qat) (hO : S7.Qbi l = (fs,0,0)) (hz : ∀ k,(gt (fs.map (·.1)) k).length ≤ 900) (hne : fs ≠ []) (hc : QeM (gt (fs.map (·.1)) 0) = true) (hl : l.length ≤ 100000) (w : World) (X : LineL) (hX : Qdi fs = X) : Calls Tryz.prog 29 #[strV l] w fun e w' => e = .returned (QeL X) ∧ Fr w w' (fun _ => False) := by
 have hpos : 0 < fs.length := List.length_pos_iff.2 hne;have hf1 := Fr.new w (.cells Z02 71) (fun _ => False);have HZ0 := Xi (show Blk _ w.heap.size 71 (Qad Qae) from Blk.made w 71 Z02);have HF0 := Xi hf1;have s1 : (w.alloc (.cells Z02 71)).heap.size = w.heap.size + 1 := by simp
 have HP := Xi (Qb1 l (w.alloc (.cells Z02 71)) (by omega));rw [hO] at HP;unfold Qdi at hX;rw [if_neg hne] at hX;obtain ⟨x0,hx0⟩ : ∃ x,gt (fs.map (·.1)) 0 = x := ⟨_,rfl⟩;have hg0 := hz 0;rw [hx0] at hg0;simp only [hx0] at hX hc;have Q0 := Xi hx0;clear hx0;obtain ⟨c0,hc0⟩ : ∃ x,QbW fs 0 = x := ⟨_,rfl⟩
 try simp only [hc0] at hX
 have C0 := Xi hc0;clear hc0;rw [if_pos hc] at hX;have HB := Xi (fun (h : 2 < fs.length) => Qqn (fs.map (·.1)) 0 (by rw [List.length_map]; exact h));have HE := Xi (fun (h1 : 2 < fs.length) (h2 : fs.length ≤ 7) (b off c : Nat) (W : World) (hfd : S7.FdAt W (some ⟨b,off,none⟩) fs) => rera_0 fs hz h1 h2 b off c W hfd);obtain ⟨R,hR⟩ : ∃ R,eraP (fs.map (·.1)) 0 = R := ⟨_,rfl⟩;rw [hR] at hX HB HE;have HL := Xi hX;clear hR hX;obtain ⟨s,hs⟩ : ∃ s : ByteArray,strV x0 = Value.string s := ⟨_,rfl⟩;have hsx : s.data.toList = x0 := by
  injection hs with hs;rw [← hs]
 rw [← hsx] at hc;have S0 := Xi hs;clear hsx hs hz hne hO hl hf1;obtain ⟨hs0,hch⟩ := cont_yes hc;have i0 : (0 : Int) < (s.size : Int) := by omega
 clear hc;rcases hch with f1 | ⟨f1,f2,f3⟩
 all_goals
  by_cases hn : fs.length < 3 ∨ 7 < fs.length
  ·have hX := HL.out;rw [if_pos hn] at hX;subst hX;have hn : (fs.length : Int) < 3 ∨ ((3 : Int) ≤ (fs.length : Int) ∧ (7 : Int) < (fs.length : Int)) := by omega
   rcases hn with t1 | ⟨t1,t2⟩
   all_goals
    go_enter func29,ntmps29;go_wp2_with fail;refine HP.out.mono ?_;rintro e w1 ⟨A,cap,rfl,hfd,hcap,hf⟩;obtain ⟨b,off,rfl,-⟩ := hfd.2 hpos;have hbl : b < w1.heap.size := Rd.lt hfd hpos (by decide);have hs1 : w.heap.size + 1 ≤ w1.heap.size := by have := hf.size; omega
    have HZ1 := Xb hf HZ0;have HF1 := Xf HF0 hf;have HD1 := Xi hfd;have cx := Qai HD1.out (k := 0) (by omega);simp only [Nat.reduceMul,Nat.add_zero] at cx;have ck0 := cx.1;rw [Q0.out,S0.out] at ck0;have cc0 := cx.2
    try simp only [Nat.add_assoc,Nat.reduceAdd,Nat.zero_add] at cc0
    rw [C0.out] at cc0;clear cx;clear hf hfd hcap;go_wp2_with (first
     | ((with_reducible refine Qab 71 ?_);refine Xs 71 w1.heap.size 0 71 (Qad Qae) (Qad Qae) (Qad Qae) (Blk.made w1 71 (Qad Qae)) (Qa7 _) (Qar _) (Qaw _ _) ?_;intro w2 hf hb;have hf := (Fr.new w1 (.cells (Qad Qae) 71) (fun _ => False)).fresh hf (fun i e => by omega);have HX2 := Xi hb;have HZ2 := Xb hf HZ1;have HD2 := Xi (HD1.out.fr hf);have HF2 := Xf HF1 hf;clear hf HZ1 HD1 HF1;clear hb))
    refine (QbD 4 c0 _).mono ?_;rintro e w3 ⟨rfl,hf⟩;have HZ3 := Xb hf HZ2;have HD3 := Xi (HD2.out.fr hf);have HF3 := Xf HF2 hf;have HX3 := Xb hf HX2;clear hf HZ2 HD2 HF2 HX2;go_wp2_with (first
     | ((with_reducible refine Qab 71 ?_);refine Xs 71 w.heap.size 0 71 (Qad Qae) (Qad (QaC 4 c0)) (Qad (QaC 4 c0)) HZ3.out (Qa7 _) (Qar _) (Qaw _ _) ?_;intro w9 hf9 hb9;have HE9 := Xi hb9;have HF9 := Xn HF3 hf9;clear hf9 hb9))
    (try simp only [Exit.inBlock,Exit.then]);exact bodyPost_ret (QaQ HE9.out _ rfl) rfl ⟨rfl,HF9.out⟩
  ·have hX := HL.out;rw [if_neg hn] at hX;have HL := Xi hX;clear hX;have n3 : (3 : Int) ≤ (fs.length : Int) := by omega
   have n7 : (fs.length : Int) ≤ 7 := by omega
   have h2 : 2 < fs.length := by omega
   go_enter func29,ntmps29;go_wp2_with fail;refine HP.out.mono ?_;rintro e w1 ⟨A,cap,rfl,hfd,hcap,hf⟩;obtain ⟨b,off,rfl,-⟩ := hfd.2 hpos;have hbl : b < w1.heap.size := Rd.lt hfd hpos (by decide);have hs1 : w.heap.size + 1 ≤ w1.heap.size := by have := hf.size; omega
   have HZ1 := Xb hf HZ0;have HF1 := Xf HF0 hf;have HD1 := Xi hfd;have cx := Qai HD1.out (k := 0) (by omega);simp only [Nat.reduceMul,Nat.add_zero] at cx;have ck0 := cx.1;rw [Q0.out,S0.out] at ck0;have cc0 := cx.2
   try simp only [Nat.add_assoc,Nat.reduceAdd,Nat.zero_add] at cc0
   rw [C0.out] at cc0;clear cx;clear hf hfd hcap;go_wp2_with (first
    | ((with_reducible refine Qab 71 ?_);refine Xs 71 w1.heap.size 0 71 (Qad Qae) (Qad Qae) (Qad Qae) (Blk.made w1 71 (Qad Qae)) (Qa7 _) (Qar _) (Qaw _ _) ?_;intro w2 hf hb;have hf := (Fr.new w1 (.cells (Qad Qae) 71) (fun _ => False)).fresh hf (fun i e => by omega);have HX2 := Xi hb;have HZ2 := Xb hf HZ1;have HD2 := Xi (HD1.out.fr hf);have HF2 := Xf HF1 hf;clear hf HZ1 HD1 HF1;clear hb)
    | ((with_reducible refine Qab 3 ?_);refine Xc 3 w1.heap.size 0 71 (Qad Qae) (Qad { Qae with kind := 3 }) (intV 3) HX2.out QaE (Qh0 _ _) ?_;intro w3 hf hb;have HX3 := Xi hb;have HZ3 := Xo hf HZ2;have HD3 := Xi (Qcx HD2.out hf hbl);have HF3 := Xn HF2 hf;clear hf hb HX2 HZ2 HD2 HF2))
   have hc := HE.out h2 (by omega) b off cap w3 HD3.out;have hbd := HB.out h2;have hX := HL.out;clear HL HE HB;cases R with
   | error x =>
    have hx := hbd x rfl;rw [List.length_map] at hx;obtain ⟨ei,ek⟩ := x;have hx0 : (ek != 0) = true := by simpa using hx.1
    have hx1 : (ek == 0) = false := by simpa using hx.1
    have hei : ei < fs.length := hx.2;have hei2 : (ei : Int) < (fs.length : Int) := by omega
    have e1 : X = QaC ek (QbW fs ei) := hX.symm;clear hX;obtain ⟨ce,hce⟩ : ∃ x,QbW fs ei = x := ⟨_,rfl⟩;rw [hce] at e1;subst e1;have Ce := Xi hce;clear hbd hx hce;refine (hc).mono ?_;rintro e w4 ⟨hf,u9,rfl⟩;have HZ4 := Xb hf HZ3;have HD4 := Xi (HD3.out.fr hf);have HF4 := Xf HF3 hf;have HX4 := Xb hf HX3;clear hf HZ3 HD3 HF3 HX3;go_wp2_with (first
     | ((with_reducible refine Qab 69 ?_);refine Xs 69 w1.heap.size 14 71 (Qad { Qae with kind := 3 }) (eraC u9) (Qad { Qae with kind := 3,era := u9 }) HX4.out (QaK _) (Qax _) (QfQ _ _) ?_;intro w5 hf hb;have HX5 := Xi hb;have HZ5 := Xo hf HZ4;have HD5 := Xi (Qcx HD4.out hf hbl);have HF5 := Xn HF4 hf;have cx := (Qai HD5.out (k := ei) (by omega)).2;rw [Ce.out] at cx;clear hf hb HX4 HZ4 HD4 HF4))
    clear cx;refine (QbD ek ce _).mono ?_;rintro e w6 ⟨rfl,hf⟩;have HZ6 := Xb hf HZ5;have HD6 := Xi (HD5.out.fr hf);have HF6 := Xf HF5 hf;have HX6 := Xb hf HX5;clear hf HZ5 HD5 HF5 HX5;go_wp2_with (first
     | ((with_reducible refine Qab 71 ?_);refine Xs 71 w.heap.size 0 71 (Qad Qae) (Qad (QaC ek ce)) (Qad (QaC ek ce)) HZ6.out (Qa7 _) (Qar _) (Qaw _ _) ?_;intro w9 hf9 hb9;have HE9 := Xi hb9;have HF9 := Xn HF6 hf9;clear hf9 hb9))
    (try simp only [Exit.inBlock,Exit.then]);exact bodyPost_ret (QaQ HE9.out _ rfl) rfl ⟨rfl,HF9.out⟩
   | ok v =>
    have hX : ({ Qae with kind := 3,era := v } : LineL) = X := hX;subst hX;clear hbd;refine (hc).mono ?_;rintro e w4 ⟨hf,rfl⟩;have HZ4 := Xb hf HZ3;have HD4 := Xi (HD3.out.fr hf);have HF4 := Xf HF3 hf;have HX4 := Xb hf HX3;clear hf HZ3 HD3 HF3 HX3;go_wp2_with (first
     | ((with_reducible refine Qab 69 ?_);refine Xs 69 w1.heap.size 14 71 (Qad { Qae with kind := 3 }) (eraC v) (Qad { Qae with kind := 3,era := v }) HX4.out (QaK _) (Qax _) (QfQ _ _) ?_;intro w5 hf hb;have HX5 := Xi hb;have HZ5 := Xo hf HZ4;have HD5 := Xi (Qcx HD4.out hf hbl);have HF5 := Xn HF4 hf;clear hf hb HX4 HZ4 HD4 HF4)
     | ((with_reducible refine Qam 71 ?_);refine Xl 71 w1.heap.size 0 71 (Qad { Qae with kind := 3,era := v }) (Qad { Qae with kind := 3,era := v }) HX5.out underlying71 (Qa7 _) (Qfp _) ?_)
     | ((with_reducible refine Qab 71 ?_);refine Xs 71 w.heap.size 0 71 (Qad Qae) (Qad { Qae with kind := 3,era := v }) (Qad { Qae with kind := 3,era := v }) HZ5.out (Qa7 _) (Qar _) (Qaw _ _) ?_;intro w9 hf9 hb9;have HE9 := Xi hb9;have HF9 := Xn HF5 hf9;clear hf9 hb9))
    (try simp only [Exit.inBlock,Exit.then]);exact bodyPost_ret (QaQ HE9.out _ rfl) rfl ⟨rfl,HF9.out⟩
theorem QkC (l : Bs) (fs : List Qat) (hO : S7.Qbi l = (fs,0,0)) (hz : ∀ k,(gt (fs.map (·.1)) k).length ≤ 900) (hne : fs ≠ []) (hc : QeM (gt (fs.map (·.1)) 0) = false) (hh : Go.Kwd.headD (gt (fs.map (·.1)) 0) ≠ 1 ∧ Go.Kwd.headD (gt (fs.map (·.1)) 0) ≠ 2 ∧ Go.Kwd.headD (gt (fs.map (·.1)) 0) ≠ 3) (hl : l.length ≤ 100000) (w : World) (X : LineL) (hX : Qdi fs = X) : Calls Tryz.prog 29 #[strV l] w fun e w' => e = .returned (QeL X) ∧ Fr w w' (fun _ => False) := by
 have hpos : 0 < fs.length := List.length_pos_iff.2 hne;have hf1 := Fr.new w (.cells Z02 71) (fun _ => False);have HZ0 := Xi (show Blk _ w.heap.size 71 (Qad Qae) from Blk.made w 71 Z02);have HF0 := Xi hf1;have s1 : (w.alloc (.cells Z02 71)).heap.size = w.heap.size + 1 := by simp
 have HP := Xi (Qb1 l (w.alloc (.cells Z02 71)) (by omega));rw [hO] at HP;unfold Qdi at hX;rw [if_neg hne] at hX;obtain ⟨x0,hx0⟩ : ∃ x,gt (fs.map (·.1)) 0 = x := ⟨_,rfl⟩;have hg0 := hz 0;rw [hx0] at hg0;simp only [hx0] at hX hc hh;have Q0 := Xi hx0;clear hx0;obtain ⟨c0,hc0⟩ : ∃ x,QbW fs 0 = x := ⟨_,rfl⟩
 try simp only [hc0] at hX
 have C0 := Xi hc0;clear hc0;rw [if_neg (by rw [hc]; decide),if_neg hh.1,if_neg hh.2.1,if_neg hh.2.2] at hX;obtain ⟨z,hzz⟩ : ∃ z,Go.Kwd.headD x0 = z := ⟨_,rfl⟩;have HH := Xi (fun W => Qfl x0 hg0 W z hzz);rw [hzz] at hh;subst hX;have z1 : ((z : Int) == 1) = false := by rw [beq_eq_false_iff_ne]; omega
 have z2 : ((z : Int) == 2) = false := by rw [beq_eq_false_iff_ne]; omega
 have z3 : ((z : Int) == 3) = false := by rw [beq_eq_false_iff_ne]; omega
 clear hzz hh;obtain ⟨s,hs⟩ : ∃ s : ByteArray,strV x0 = Value.string s := ⟨_,rfl⟩;have hsx : s.data.toList = x0 := by
  injection hs with hs;rw [← hs]
 rw [← hsx] at hc;have S0 := Xi hs;rw [hs] at HH;clear hsx hs hz hne hO hl hf1;have hch := QiW hc;clear hc;have hch : ((s.size : Int) ≤ 0 ∨ ∃ (hs : 0 < s.size) (_ : (0 : Int) < (s.size : Int)),((s[0].toNat : Int) == 45) = false ∧ (s[0].toNat : Int) < 48) ∨ ∃ (hs : 0 < s.size) (_ : (0 : Int) < (s.size : Int)),((s[0].toNat : Int) == 45) = false ∧ (48 : Int) ≤ (s[0].toNat : Int) ∧ (57 : Int) < (s[0].toNat : Int) := by
  rcases hch with h | ⟨h,h1,h2 | h2⟩
  ·exact .inl (.inl (by omega))
  ·exact .inl (.inr ⟨h,by omega,h1,h2⟩)
  ·exact .inr ⟨h,by omega,h1,h2⟩
 rcases hch with (i0 | ⟨hs0,i0,f1,f2⟩) | ⟨hs0,i0,f1,f2,f3⟩
 all_goals
  go_enter func29,ntmps29;go_wp2_with fail;refine HP.out.mono ?_;rintro e w1 ⟨A,cap,rfl,hfd,hcap,hf⟩;obtain ⟨b,off,rfl,-⟩ := hfd.2 hpos;have hbl : b < w1.heap.size := Rd.lt hfd hpos (by decide);have hs1 : w.heap.size + 1 ≤ w1.heap.size := by have := hf.size; omega
  have HZ1 := Xb hf HZ0;have HF1 := Xf HF0 hf;have HD1 := Xi hfd;have cx := Qai HD1.out (k := 0) (by omega);simp only [Nat.reduceMul,Nat.add_zero] at cx;have ck0 := cx.1;rw [Q0.out,S0.out] at ck0;have cc0 := cx.2
  try simp only [Nat.add_assoc,Nat.reduceAdd,Nat.zero_add] at cc0
  rw [C0.out] at cc0;clear cx;clear hf hfd hcap;go_wp2_with (first
   | ((with_reducible refine Qab 71 ?_);refine Xs 71 w1.heap.size 0 71 (Qad Qae) (Qad Qae) (Qad Qae) (Blk.made w1 71 (Qad Qae)) (Qa7 _) (Qar _) (Qaw _ _) ?_;intro w2 hf hb;have hf := (Fr.new w1 (.cells (Qad Qae) 71) (fun _ => False)).fresh hf (fun i e => by omega);have HX2 := Xi hb;have HZ2 := Xb hf HZ1;have HD2 := Xi (HD1.out.fr hf);have HF2 := Xf HF1 hf;clear hf HZ1 HD1 HF1;have cx := Qai HD2.out (k := 0) (by omega);simp only [Nat.reduceMul,Nat.add_zero] at cx;have ck0 := cx.1;rw [Q0.out,S0.out] at ck0;clear cx;clear hb))
  clear ck0;refine (HH.out _).mono ?_;rintro e w3 ⟨rfl,hf⟩;have HZ3 := Xb hf HZ2;have HD3 := Xi (HD2.out.fr hf);have HF3 := Xf HF2 hf;have HX3 := Xb hf HX2;clear hf HZ2 HD2 HF2 HX2;have cx := Qai HD3.out (k := 0) (by omega);simp only [Nat.reduceMul,Nat.add_zero] at cx;have ck0 := cx.1;rw [Q0.out,S0.out] at ck0;clear cx;go_wp2_with fail;clear ck0;refine (HH.out _).mono ?_;rintro e w4 ⟨rfl,hf⟩;have HZ4 := Xb hf HZ3;have HD4 := Xi (HD3.out.fr hf);have HF4 := Xf HF3 hf;have HX4 := Xb hf HX3;clear hf HZ3 HD3 HF3 HX3;have cx := Qai HD4.out (k := 0) (by omega);simp only [Nat.reduceMul,Nat.add_zero] at cx;have ck0 := cx.1;rw [Q0.out,S0.out] at ck0;clear cx;go_wp2_with fail;clear ck0;refine (HH.out _).mono ?_;rintro e w5 ⟨rfl,hf⟩;have HZ5 := Xb hf HZ4;have HD5 := Xi (HD4.out.fr hf);have HF5 := Xf HF4 hf;have HX5 := Xb hf HX4;clear hf HZ4 HD4 HF4 HX4;go_wp2_with fail;refine (QbD 3 c0 _).mono ?_;rintro e w6 ⟨rfl,hf⟩;have HZ6 := Xb hf HZ5;have HD6 := Xi (HD5.out.fr hf);have HF6 := Xf HF5 hf;have HX6 := Xb hf HX5;clear hf HZ5 HD5 HF5 HX5;go_wp2_with (first
   | ((with_reducible refine Qab 71 ?_);refine Xs 71 w.heap.size 0 71 (Qad Qae) (Qad (QaC 3 c0)) (Qad (QaC 3 c0)) HZ6.out (Qa7 _) (Qar _) (Qaw _ _) ?_;intro w9 hf9 hb9;have HE9 := Xi hb9;have HF9 := Xn HF6 hf9;clear hf9 hb9))
  (try simp only [Exit.inBlock,Exit.then]);exact bodyPost_ret (QaQ HE9.out _ rfl) rfl ⟨rfl,HF9.out⟩
theorem QkB (l : Bs) (fs : List Qat) (hO : S7.Qbi l = (fs,0,0)) (hz : ∀ k,(gt (fs.map (·.1)) k).length ≤ 900) (hne : fs ≠ []) (hc : QeM (gt (fs.map (·.1)) 0) = false) (hh : Go.Kwd.headD (gt (fs.map (·.1)) 0) = 1) (hl : l.length ≤ 100000) (w : World) (X : LineL) (hX : Qdi fs = X) : Calls Tryz.prog 29 #[strV l] w fun e w' => e = .returned (QeL X) ∧ Fr w w' (fun _ => False) := by
 have hpos : 0 < fs.length := List.length_pos_iff.2 hne;have hf1 := Fr.new w (.cells Z02 71) (fun _ => False);have HZ0 := Xi (show Blk _ w.heap.size 71 (Qad Qae) from Blk.made w 71 Z02);have HF0 := Xi hf1;have s1 : (w.alloc (.cells Z02 71)).heap.size = w.heap.size + 1 := by simp
 have HP := Xi (Qb1 l (w.alloc (.cells Z02 71)) (by omega));rw [hO] at HP;unfold Qdi at hX;rw [if_neg hne] at hX;obtain ⟨x0,hx0⟩ : ∃ x,gt (fs.map (·.1)) 0 = x := ⟨_,rfl⟩;have hg0 := hz 0;rw [hx0] at hg0;simp only [hx0] at hX hc hh;have Q0 := Xi hx0;clear hx0;obtain ⟨c0,hc0⟩ : ∃ x,QbW fs 0 = x := ⟨_,rfl⟩
 try simp only [hc0] at hX
 have C0 := Xi hc0;clear hc0;rw [if_neg (by rw [hc]; decide),if_pos hh] at hX;have HB := Xi (fun (h : fs.length = 10) => bad_rule (fs.map (·.1)) (by rw [List.length_map]; omega));have HE := Xi (fun (h1 : fs.length = 10) (b off c : Nat) (W : World) (hfd : S7.FdAt W (some ⟨b,off,none⟩) fs) => QoQ fs hz h1 b off c W hfd);obtain ⟨R,hR⟩ : ∃ R,QeK (fs.map (·.1)) = R := ⟨_,rfl⟩;rw [hR] at hX HB HE;have HL := Xi hX;clear hR hX;obtain ⟨z,hzz⟩ : ∃ z,Go.Kwd.headD x0 = z := ⟨_,rfl⟩;have HH := Xi (fun W => Qfl x0 hg0 W z hzz);rw [hzz] at hh;have z1 : ((z : Int) == 1) = true := by rw [hh]; rfl
 have z2 : ((z : Int) == 2) = false := by rw [hh]; rfl
 have z3 : ((z : Int) == 3) = false := by rw [hh]; rfl
 clear hzz hh;obtain ⟨s,hs⟩ : ∃ s : ByteArray,strV x0 = Value.string s := ⟨_,rfl⟩;have hsx : s.data.toList = x0 := by
  injection hs with hs;rw [← hs]
 rw [← hsx] at hc;have S0 := Xi hs;rw [hs] at HH;clear hsx hs hz hne hO hl hf1;have hch := QiW hc;clear hc;have hch : ((s.size : Int) ≤ 0 ∨ ∃ (hs : 0 < s.size) (_ : (0 : Int) < (s.size : Int)),((s[0].toNat : Int) == 45) = false ∧ (s[0].toNat : Int) < 48) ∨ ∃ (hs : 0 < s.size) (_ : (0 : Int) < (s.size : Int)),((s[0].toNat : Int) == 45) = false ∧ (48 : Int) ≤ (s[0].toNat : Int) ∧ (57 : Int) < (s[0].toNat : Int) := by
  rcases hch with h | ⟨h,h1,h2 | h2⟩
  ·exact .inl (.inl (by omega))
  ·exact .inl (.inr ⟨h,by omega,h1,h2⟩)
  ·exact .inr ⟨h,by omega,h1,h2⟩
 rcases hch with (i0 | ⟨hs0,i0,f1,f2⟩) | ⟨hs0,i0,f1,f2,f3⟩
 all_goals
  by_cases hn : fs.length = 10
  ·have hX := HL.out;rw [if_neg (by simpa using hn)] at hX;have HL := Xi hX;have H10 := Xi hn;have e1 : ((fs.length : Int) == 10) = true := by rw [hn]; rfl
   have e2 : ((fs.length : Int) != 10) = false := by rw [hn]; rfl
   clear hX hn;go_enter func29,ntmps29;go_wp2_with fail;refine HP.out.mono ?_;rintro e w1 ⟨A,cap,rfl,hfd,hcap,hf⟩;obtain ⟨b,off,rfl,-⟩ := hfd.2 hpos;have hbl : b < w1.heap.size := Rd.lt hfd hpos (by decide);have hs1 : w.heap.size + 1 ≤ w1.heap.size := by have := hf.size; omega
   have HZ1 := Xb hf HZ0;have HF1 := Xf HF0 hf;have HD1 := Xi hfd;have cx := Qai HD1.out (k := 0) (by omega);simp only [Nat.reduceMul,Nat.add_zero] at cx;have ck0 := cx.1;rw [Q0.out,S0.out] at ck0;have cc0 := cx.2
   try simp only [Nat.add_assoc,Nat.reduceAdd,Nat.zero_add] at cc0
   rw [C0.out] at cc0;clear cx;clear hf hfd hcap;go_wp2_with (first
    | ((with_reducible refine Qab 71 ?_);refine Xs 71 w1.heap.size 0 71 (Qad Qae) (Qad Qae) (Qad Qae) (Blk.made w1 71 (Qad Qae)) (Qa7 _) (Qar _) (Qaw _ _) ?_;intro w2 hf hb;have hf := (Fr.new w1 (.cells (Qad Qae) 71) (fun _ => False)).fresh hf (fun i e => by omega);have HX2 := Xi hb;have HZ2 := Xb hf HZ1;have HD2 := Xi (HD1.out.fr hf);have HF2 := Xf HF1 hf;clear hf HZ1 HD1 HF1;have cx := Qai HD2.out (k := 0) (by omega);simp only [Nat.reduceMul,Nat.add_zero] at cx;have ck0 := cx.1;rw [Q0.out,S0.out] at ck0;clear cx;clear hb))
   clear ck0;refine (HH.out _).mono ?_;rintro e w3 ⟨rfl,hf⟩;have HZ3 := Xb hf HZ2;have HD3 := Xi (HD2.out.fr hf);have HF3 := Xf HF2 hf;have HX3 := Xb hf HX2;clear hf HZ2 HD2 HF2 HX2;go_wp2_with (first
    | ((with_reducible refine Qab 3 ?_);refine Xc 3 w1.heap.size 0 71 (Qad Qae) (Qad { Qae with kind := 1 }) (intV 1) HX3.out QaE (Qh0 _ _) ?_;intro w4 hf hb;have HX4 := Xi hb;have HZ4 := Xo hf HZ3;have HD4 := Xi (Qcx HD3.out hf hbl);have HF4 := Xn HF3 hf;clear hf hb HX3 HZ3 HD3 HF3))
   have hc := HE.out H10.out b off cap w4 HD4.out;have hbd := HB.out H10.out;have hX := HL.out;clear HL HE HB;cases R with
   | error x =>
    have hx := hbd x rfl;rw [List.length_map] at hx;obtain ⟨ei,ek⟩ := x;have hx0 : (ek != 0) = true := by simpa using hx.1
    have hx1 : (ek == 0) = false := by simpa using hx.1
    have hei : ei < fs.length := hx.2;have hei2 : (ei : Int) < (fs.length : Int) := by omega
    have e1 : X = QaC ek (QbW fs ei) := hX.symm;clear hX;obtain ⟨ce,hce⟩ : ∃ x,QbW fs ei = x := ⟨_,rfl⟩;rw [hce] at e1;subst e1;have Ce := Xi hce;clear hbd hx hce;refine (hc).mono ?_;rintro e w5 ⟨hf,u9,rfl⟩;have HZ5 := Xb hf HZ4;have HD5 := Xi (HD4.out.fr hf);have HF5 := Xf HF4 hf;have HX5 := Xb hf HX4;clear hf HZ4 HD4 HF4 HX4;go_wp2_with (first
     | ((with_reducible refine Qab 65 ?_);refine Xs 65 w1.heap.size 1 71 (Qad { Qae with kind := 1 }) (Qaq u9) (Qad { Qae with kind := 1,rule := u9 }) HX5.out (Qcg _) (Qbo _) (QiC _ _) ?_;intro w6 hf hb;have HX6 := Xi hb;have HZ6 := Xo hf HZ5;have HD6 := Xi (Qcx HD5.out hf hbl);have HF6 := Xn HF5 hf;have cx := (Qai HD6.out (k := ei) (by omega)).2;rw [Ce.out] at cx;clear hf hb HX5 HZ5 HD5 HF5))
    clear cx;refine (QbD ek ce _).mono ?_;rintro e w7 ⟨rfl,hf⟩;have HZ7 := Xb hf HZ6;have HD7 := Xi (HD6.out.fr hf);have HF7 := Xf HF6 hf;have HX7 := Xb hf HX6;clear hf HZ6 HD6 HF6 HX6;go_wp2_with (first
     | ((with_reducible refine Qab 71 ?_);refine Xs 71 w.heap.size 0 71 (Qad Qae) (Qad (QaC ek ce)) (Qad (QaC ek ce)) HZ7.out (Qa7 _) (Qar _) (Qaw _ _) ?_;intro w9 hf9 hb9;have HE9 := Xi hb9;have HF9 := Xn HF7 hf9;clear hf9 hb9))
    (try simp only [Exit.inBlock,Exit.then]);exact bodyPost_ret (QaQ HE9.out _ rfl) rfl ⟨rfl,HF9.out⟩
   | ok v =>
    have hX : ({ Qae with kind := 1,rule := v } : LineL) = X := hX;subst hX;clear hbd;refine (hc).mono ?_;rintro e w5 ⟨hf,rfl⟩;have HZ5 := Xb hf HZ4;have HD5 := Xi (HD4.out.fr hf);have HF5 := Xf HF4 hf;have HX5 := Xb hf HX4;clear hf HZ4 HD4 HF4 HX4;go_wp2_with (first
     | ((with_reducible refine Qab 65 ?_);refine Xs 65 w1.heap.size 1 71 (Qad { Qae with kind := 1 }) (Qaq v) (Qad { Qae with kind := 1,rule := v }) HX5.out (Qcg _) (Qbo _) (QiC _ _) ?_;intro w6 hf hb;have HX6 := Xi hb;have HZ6 := Xo hf HZ5;have HD6 := Xi (Qcx HD5.out hf hbl);have HF6 := Xn HF5 hf;clear hf hb HX5 HZ5 HD5 HF5)
     | ((with_reducible refine Qam 71 ?_);refine Xl 71 w1.heap.size 0 71 (Qad { Qae with kind := 1,rule := v }) (Qad { Qae with kind := 1,rule := v }) HX6.out underlying71 (Qa7 _) (Qfp _) ?_)
     | ((with_reducible refine Qab 71 ?_);refine Xs 71 w.heap.size 0 71 (Qad Qae) (Qad { Qae with kind := 1,rule := v }) (Qad { Qae with kind := 1,rule := v }) HZ6.out (Qa7 _) (Qar _) (Qaw _ _) ?_;intro w9 hf9 hb9;have HE9 := Xi hb9;have HF9 := Xn HF6 hf9;clear hf9 hb9))
    (try simp only [Exit.inBlock,Exit.then]);exact bodyPost_ret (QaQ HE9.out _ rfl) rfl ⟨rfl,HF9.out⟩
  ·have hX := HL.out;rw [if_pos (by simpa using hn)] at hX;subst hX;have e1 : ((fs.length : Int) == 10) = false := by rw [beq_eq_false_iff_ne]; omega
   have e2 : ((fs.length : Int) != 10) = true := by unfold bne; rw [e1]; rfl
   go_enter func29,ntmps29;go_wp2_with fail;refine HP.out.mono ?_;rintro e w1 ⟨A,cap,rfl,hfd,hcap,hf⟩;obtain ⟨b,off,rfl,-⟩ := hfd.2 hpos;have hbl : b < w1.heap.size := Rd.lt hfd hpos (by decide);have hs1 : w.heap.size + 1 ≤ w1.heap.size := by have := hf.size; omega
   have HZ1 := Xb hf HZ0;have HF1 := Xf HF0 hf;have HD1 := Xi hfd;have cx := Qai HD1.out (k := 0) (by omega);simp only [Nat.reduceMul,Nat.add_zero] at cx;have ck0 := cx.1;rw [Q0.out,S0.out] at ck0;have cc0 := cx.2
   try simp only [Nat.add_assoc,Nat.reduceAdd,Nat.zero_add] at cc0
   rw [C0.out] at cc0;clear cx;clear hf hfd hcap;go_wp2_with (first
    | ((with_reducible refine Qab 71 ?_);refine Xs 71 w1.heap.size 0 71 (Qad Qae) (Qad Qae) (Qad Qae) (Blk.made w1 71 (Qad Qae)) (Qa7 _) (Qar _) (Qaw _ _) ?_;intro w2 hf hb;have hf := (Fr.new w1 (.cells (Qad Qae) 71) (fun _ => False)).fresh hf (fun i e => by omega);have HX2 := Xi hb;have HZ2 := Xb hf HZ1;have HD2 := Xi (HD1.out.fr hf);have HF2 := Xf HF1 hf;clear hf HZ1 HD1 HF1;have cx := Qai HD2.out (k := 0) (by omega);simp only [Nat.reduceMul,Nat.add_zero] at cx;have ck0 := cx.1;rw [Q0.out,S0.out] at ck0;clear cx;clear hb))
   clear ck0;refine (HH.out _).mono ?_;rintro e w3 ⟨rfl,hf⟩;have HZ3 := Xb hf HZ2;have HD3 := Xi (HD2.out.fr hf);have HF3 := Xf HF2 hf;have HX3 := Xb hf HX2;clear hf HZ2 HD2 HF2 HX2;go_wp2_with fail;refine (QbD 4 c0 _).mono ?_;rintro e w4 ⟨rfl,hf⟩;have HZ4 := Xb hf HZ3;have HD4 := Xi (HD3.out.fr hf);have HF4 := Xf HF3 hf;have HX4 := Xb hf HX3;clear hf HZ3 HD3 HF3 HX3;go_wp2_with (first
    | ((with_reducible refine Qab 71 ?_);refine Xs 71 w.heap.size 0 71 (Qad Qae) (Qad (QaC 4 c0)) (Qad (QaC 4 c0)) HZ4.out (Qa7 _) (Qar _) (Qaw _ _) ?_;intro w9 hf9 hb9;have HE9 := Xi hb9;have HF9 := Xn HF4 hf9;clear hf9 hb9))
   (try simp only [Exit.inBlock,Exit.then]);exact bodyPost_ret (QaQ HE9.out _ rfl) rfl ⟨rfl,HF9.out⟩
end Go.Proofs.YtodcnbejnchmhaaGreatDoor
