import Derived.Test.YtodcnbejnchmhaaGreatDoorYc45
set_option maxRecDepth 100000
set_option maxHeartbeats 12800000
namespace Go.Proofs.YtodcnbejnchmhaaGreatDoor
open _root_.Go.Proofs.Tryz
open Go.RowKit Go.Mem Go.Lin

/-- what is wrong is told of a field that is there -/
def Bad {α : Type} (R : Except Er α) (n : Nat) : Prop := ∀ x,R = .error x → x.2 ≠ 0 ∧ x.1 < n
theorem QcG {α : Type} (o : Option α) (i : Nat) (k : Int) (n : Nat) (hk : k ≠ 0) (hi : i < n) : Bad (req o i k) n := by
 intro x h;cases o with
 | none => injection h with h; subst h; exact ⟨hk,hi⟩
 | some v => cases h
theorem Qhx (b : Bool) (i : Nat) (k : Int) (n : Nat) (hk : k ≠ 0) (hi : i < n) : Bad (chk b i k) n := by
 intro x h;unfold chk at h;split at h
 ·cases h
 ·injection h with h; subst h; exact ⟨hk,hi⟩
theorem Qbl {α β : Type} {R : Except Er α} {f : α → Except Er β} {n : Nat} (h : Bad R n) (hf : ∀ v,Bad (f v) n) : Bad (R.bind f) n := by
 intro x hx;cases R with
 | error e => exact h x (by injection hx with hx; rw [hx])
 | ok v => exact hf v x hx
theorem Qf8 {α : Type} (v : α) (n : Nat) : Bad (.ok v : Except Er α) n := fun x h => by cases h
theorem QmJ {α : Type} {c : Prop} [Decidable c] {R S : Except Er α} {n : Nat} (h1 : c → Bad R n) (h2 : ¬ c → Bad S n) : Bad (if c then R else S) n := by
 by_cases h : c
 ·rw [if_pos h]; exact h1 h
 ·rw [if_neg h]; exact h2 h
theorem Qhw (f : List Bs) (a : Nat) (h : a < f.length) : Bad (Qcs f a) f.length := by
 unfold Qcs QdG QgD QeT;refine Qbl (QcG _ _ _ _ (by decide) h) fun y => ?_;refine Qbl (QmJ (fun h => QcG _ _ _ _ (by decide) h) fun _ => Qf8 _ _) fun m => ?_;refine Qbl (QmJ (fun h => Qbl (QcG _ _ _ _ (by decide) h) fun d => Qbl (Qhx _ _ _ _ (by decide) h) fun _ => Qf8 _ _) fun _ => Qf8 _ _) fun d => ?_;exact Qbl (QmJ (fun h => QcG _ _ _ _ (by decide) h) fun _ => Qf8 _ _) fun t => Qf8 _ _
theorem Qqn (f : List Bs) (a : Nat) (h : a + 2 < f.length) : Bad (eraP f a) f.length := by
 unfold eraP;refine Qbl (QcG _ _ _ _ (by decide) (by omega)) fun y => ?_;refine Qbl (QcG _ _ _ _ (by decide) (by omega)) fun y => ?_;refine Qbl (Qhx _ _ _ _ (by decide) h) fun y => ?_;exact Qbl (QmJ (fun h => Qhw f _ h) fun _ => Qf8 _ _) fun t => Qf8 _ _
theorem Qmb (e : EraL) (v : Int) : (eraC e).setIfInBounds 1 (intV v) = eraC { e with kind := v } := rfl
theorem put_e2 (e : EraL) (v : Int) : (eraC e).setIfInBounds 2 (intV v) = eraC { e with save := v } := rfl
theorem put_e3 (e : EraL) (v : Bs) : (eraC e).setIfInBounds 3 (strV v) = eraC { e with rules := v } := rfl
theorem Qao (tmps : Array Value) (w : World) (q : Nat) (x : EraL) (k i : Int) (h4 : tmps.getD 4 undef = .pointer (some ⟨q,0,none⟩)) (h5 : tmps.getD 5 undef = intV k) (h6 : tmps.getD 6 undef = intV i)
  (hb : Blk w q 69 (eraC x)) : (results f46 tmps).run Tryz.prog w = .ok (.tuple #[.agg (eraC x),intV k,intV i]) w := by
 have h4' : tmps[4]?.getD undef = .pointer (some ⟨q,0,none⟩) := by simpa using h4
 have h5' : tmps[5]?.getD undef = intV k := by simpa using h5
 have h6' : tmps[6]?.getD undef = intV i := by simpa using h6
 have hL := run_loadVar_row w q 69 69 (eraC x) (0,0) _ hb underlying69 rfl (QaK x);simp [results,Tryz.results46,h4',h5',h6',asAddr,hL]
theorem rera_0 (fs : List Qat) (hz : ∀ k,(gt (fs.map (·.1)) k).length ≤ 900) (h1 : 2 < fs.length) (h2 : fs.length ≤ 7) (b off c : Nat) (w : World) (hfd : S7.FdAt w (some ⟨b,off,none⟩) fs) : Calls Tryz.prog 46 #[.slice (some ⟨b,off,none⟩) fs.length c,intV 0] w (LnR eraC 0 (eraP (fs.map (·.1)) 0) w) := by
 obtain ⟨R,hR⟩ : ∃ R,eraP (fs.map (·.1)) 0 = R := ⟨_,rfl⟩;rw [hR];unfold eraP at hR;simp only [Nat.reduceAdd,List.length_map] at hR;have HU := Xi (fun (h : 3 < fs.length) (W : World) (f : Fr w W (fun _ => False)) => runtil_3 fs hz h h2 b off c W (hfd.fr f));have HB := Xi (fun (h : 3 < fs.length) => Qhw (fs.map (·.1)) 3 (by rw [List.length_map]; exact h));obtain ⟨S,hS⟩ : ∃ S,Qcs (fs.map (·.1)) 3 = S := ⟨_,rfl⟩;rw [hS] at hR HU HB;obtain ⟨x0,hx0⟩ : ∃ x,gt (fs.map (·.1)) 0 = x := ⟨_,rfl⟩;have hg0 := hz 0;rw [hx0] at hg0;simp only [hx0] at hR;have Q0 := Xi hx0;clear hx0;obtain ⟨x1,hx1⟩ : ∃ x,gt (fs.map (·.1)) 1 = x := ⟨_,rfl⟩;have hg1 := hz 1;rw [hx1] at hg1;simp only [hx1] at hR;have Q1 := Xi hx1;clear hx1;obtain ⟨x2,hx2⟩ : ∃ x,gt (fs.map (·.1)) 2 = x := ⟨_,rfl⟩;have hg2 := hz 2;rw [hx2] at hg2;simp only [hx2] at hR;have Q2 := Xi hx2;clear hx2;have HR := Xi hR;have HD := Xi hfd;have hf1 := Fr.new w (.cells Z03 69) (fun _ => False);have s1 : (w.alloc (.cells Z03 69)).heap.size = w.heap.size + 1 := by simp
 have hf2 := Fr.new (w.alloc (.cells Z03 69)) (.cells Z03 69) (fun _ => False);have hm := Blk.made (w.alloc (.cells Z03 69)) 69 Z03;rw [s1] at hm;have HM := Xi (show Blk _ (w.heap.size + 1) 69 (eraC eraZ) from hm);have HZa := Xi (show Blk _ w.heap.size 69 (eraC eraZ) from hf2.blk (Blk.made w 69 Z03) (fun h => h));have HFa := Xi (ff hf1 hf2);have n1 : (0 : Int) < (fs.length : Int) := by omega
 have n2 : (1 : Int) < (fs.length : Int) := by omega
 have n3 : (2 : Int) < (fs.length : Int) := by omega
 clear hf1 s1 hf2 hm hR hz hfd hS;go_enter func46,ntmps46;go_wp2_with (first
  | ((with_reducible refine Qab 69 ?_);refine Xs 69 (w.heap.size + 1) 0 69 (eraC eraZ) (eraC eraZ) (eraC eraZ) HM.out (QaK _) (Qax _) (Qbs _ _) ?_;intro w0 hf0 hb0;have HX0 := Xi hb0;have HZ0 := Xo hf0 HZa;have HF0 := Xn HFa hf0;have ck0 := (Qai (HD.out.fr HF0.out) (k := 0) (by omega)).1;simp only [Nat.reduceMul,Nat.add_zero] at ck0;rw [Q0.out] at ck0;clear hf0 hb0 HZa HFa HM))
 clear ck0;rcases (Qdf x0).symm with ⟨hv,hp⟩ | ⟨y,hv,hp⟩
 ·have hR := HR.out;rw [hp] at hR;simp only [QaH,Qap] at hR;subst hR;refine (QbI x0 hg0 _ _ _ hv).mono ?_;rintro e w1 ⟨rfl,hf⟩;have HX1 := Xb hf HX0;have HZ1 := Xb hf HZ0;have HF1 := Xf HF0 hf;clear hf HX0 HZ0 HF0;go_wp2_with (first
   | ((with_reducible refine Qam 69 ?_);refine Xl 69 (w.heap.size + 1) 0 69 (eraC eraZ) (eraC eraZ) HX1.out underlying69 (QaK _) (Qaf _) ?_)
   | ((with_reducible refine Qab 69 ?_);refine Xs 69 w.heap.size 0 69 (eraC eraZ) (eraC eraZ) (eraC eraZ) HZ1.out (QaK _) (Qax _) (Qbs _ _) ?_;intro w9 hf9 hb9;have HE9 := Xi hb9;have HF9 := Xn HF1 hf9;clear hf9 hb9))
  (try simp only [Exit.inBlock,Exit.then]);exact bodyPost_ret (Qao _ _ _ _ 7 0 rfl rfl rfl HE9.out) rfl ⟨HF9.out,⟨eraZ,rfl⟩⟩
 have hR := HR.out;rw [hp] at hR;simp only [QaD,Qan] at hR;have HR := Xi hR;clear hR;refine (QbI x0 hg0 _ _ _ hv).mono ?_;rintro e w1 ⟨rfl,hf⟩;have HX1 := Xb hf HX0;have HZ1 := Xb hf HZ0;have HF1 := Xf HF0 hf;clear hf HX0 HZ0 HF0;clear hv hp;go_wp2_with (first
  | ((with_reducible refine Qab 3 ?_);refine Xc 3 (w.heap.size + 1) 0 69 (eraC eraZ) (eraC { eraZ with off := y }) (intV y) HX1.out QaE (Qpn _ _) ?_;intro w2 hf hb;have HX2 := Xi hb;have HZ2 := Xo hf HZ1;have HF2 := Xn HF1 hf;have ck1 := (Qai (HD.out.fr HF2.out) (k := 1) (by omega)).1;simp only [Nat.reduceMul] at ck1;rw [Q1.out] at ck1;clear hf hb HX1 HZ1 HF1))
 clear ck1;obtain ⟨q,hq⟩ : ∃ q,Go.Kwd.Qc4 x1 = q := ⟨_,rfl⟩;have HQ := Xi (fun W => Qfj x1 hg1 W q hq);cases q with
 | true =>
  have hp : QbU x1 = some (2,0,x1) := by unfold QbU; rw [if_pos hq]
  have hR := HR.out;rw [hp] at hR;simp only [QaD,Qan] at hR;have HR := Xi hR;clear hR;clear hp hq;refine (HQ.out _).mono ?_;rintro e w2 ⟨rfl,rfl⟩;go_wp2_with (first
   | ((with_reducible refine Qab 3 ?_);refine Xc 3 (w.heap.size + 1) 1 69 (eraC { eraZ with off := y }) (eraC { eraZ with off := y,kind := 2 }) (intV 2) HX2.out QaE (Qmb _ _) ?_;intro w3 hf hb;have HX3 := Xi hb;have HZ3 := Xo hf HZ2;have HF3 := Xn HF2 hf;clear hf hb HX2 HZ2 HF2)
   | ((with_reducible refine Qab 9 ?_);refine Xc 9 (w.heap.size + 1) 3 69 (eraC { eraZ with off := y,kind := 2 }) (eraC { eraZ with off := y,kind := 2,rules := x1 }) (strV x1) HX3.out QaN (put_e3 _ _) ?_;intro w4 hf hb;have HX4 := Xi hb;have HZ4 := Xo hf HZ3;have HF4 := Xn HF3 hf;have ck2 := (Qai (HD.out.fr HF4.out) (k := 2) (by omega)).1;simp only [Nat.reduceMul] at ck2;rw [Q2.out] at ck2;clear hf hb HX3 HZ3 HF3))
  cases hfm : Qck x2
  ·have hR := HR.out;rw [hfm] at hR;simp only [Qa5,Qap] at hR;subst hR;refine (Qbn x2 _ hg2 _ hfm).mono ?_;rintro e w4 ⟨rfl,rfl⟩;go_wp2_with (first
    | ((with_reducible refine Qam 69 ?_);refine Xl 69 (w.heap.size + 1) 0 69 (eraC { eraZ with off := y,kind := 2,rules := x1 }) (eraC { eraZ with off := y,kind := 2,rules := x1 }) HX4.out underlying69 (QaK _) (Qaf _) ?_)
    | ((with_reducible refine Qab 69 ?_);refine Xs 69 w.heap.size 0 69 (eraC eraZ) (eraC { eraZ with off := y,kind := 2,rules := x1 }) (eraC { eraZ with off := y,kind := 2,rules := x1 }) HZ4.out (QaK _) (Qax _) (Qbs _ _) ?_;intro w9 hf9 hb9;have HE9 := Xi hb9;have HF9 := Xn HF4 hf9;clear hf9 hb9))
   (try simp only [Exit.inBlock,Exit.then]);exact bodyPost_ret (Qao _ _ _ _ 15 2 rfl rfl rfl HE9.out) rfl ⟨HF9.out,⟨{ eraZ with off := y,kind := 2,rules := x1 },rfl⟩⟩
  have hR := HR.out;rw [hfm] at hR;simp only [Qbr,Qan] at hR;have HR := Xi hR;clear hR;refine (Qbn x2 _ hg2 _ hfm).mono ?_;rintro e w4 ⟨rfl,rfl⟩;clear hfm;by_cases hn : 3 < fs.length
  ·have hR := HR.out;simp only [if_pos hn] at hR;have HR := Xi hR;clear hR;have n4 : (3 : Int) < (fs.length : Int) := by omega
   go_wp2_with (first
    | ((with_reducible refine Qab 9 ?_);refine Xc 9 (w.heap.size + 1) 4 69 (eraC { eraZ with off := y,kind := 2,rules := x1 }) (eraC { eraZ with off := y,kind := 2,rules := x1,format := x2 }) (strV x2) HX4.out QaN (Qdw _ _) ?_;intro w5 hf hb;have HX5 := Xi hb;have HZ5 := Xo hf HZ4;have HF5 := Xn HF4 hf;clear hf hb HX4 HZ4 HF4))
   clear ck2;have hc := HU.out hn w5 HF5.out;have hbd := HB.out hn;have hR := HR.out;clear HR HU HB;cases S with
   | error x =>
    have hx := (hbd x rfl).1;have hx0 : (x.2 != 0) = true := by simpa using hx
    have hx1 : (x.2 == 0) = false := by simpa using hx
    simp only [Qap] at hR;subst hR;clear hbd hx;obtain ⟨ei,ek⟩ := x;refine (hc).mono ?_;rintro e w6 ⟨hf,u9,rfl⟩;have HX6 := Xb hf HX5;have HZ6 := Xb hf HZ5;have HF6 := Xf HF5 hf;clear hf HX5 HZ5 HF5;go_wp2_with (first
     | ((with_reducible refine Qab 67 ?_);refine Xs 67 w6.heap.size 0 67 (tilC tilZ) (tilC u9) (tilC u9) (Blk.made w6 67 Z01) (QaR _) (Qaz _) (QaG rfl) ?_;intro w7 hf hb;have hf' := (Fr.new w6 (.cells Z01 67) (fun _ => False)).fresh hf (fun i e => by omega);have HX7 := Xi (hf'.blk HX6.out (fun h => h));have HZ7 := Xi (hf'.blk HZ6.out (fun h => h));have HF7 := Xi (ff HF6.out hf');have HV7 := Xi hb;clear hf hb hf' HX6 HZ6 HF6)
     | ((with_reducible refine Qam 69 ?_);refine Xl 69 (w.heap.size + 1) 0 69 (eraC { eraZ with off := y,kind := 2,rules := x1,format := x2 }) (eraC { eraZ with off := y,kind := 2,rules := x1,format := x2 }) HX7.out underlying69 (QaK _) (Qaf _) ?_)
     | ((with_reducible refine Qab 69 ?_);refine Xs 69 w.heap.size 0 69 (eraC eraZ) (eraC { eraZ with off := y,kind := 2,rules := x1,format := x2 }) (eraC { eraZ with off := y,kind := 2,rules := x1,format := x2 }) HZ7.out (QaK _) (Qax _) (Qbs _ _) ?_;intro w9 hf9 hb9;have HE9 := Xi hb9;have HF9 := Xn HF7 hf9;clear hf9 hb9))
    (try simp only [Exit.inBlock,Exit.then]);exact bodyPost_ret (Qao _ _ _ _ _ _ rfl rfl rfl HE9.out) rfl ⟨HF9.out,⟨{ eraZ with off := y,kind := 2,rules := x1,format := x2 },rfl⟩⟩
   | ok v =>
    simp only [Qan] at hR;subst hR;clear hbd;refine (hc).mono ?_;rintro e w6 ⟨hf,rfl⟩;have HX6 := Xb hf HX5;have HZ6 := Xb hf HZ5;have HF6 := Xf HF5 hf;clear hf HX5 HZ5 HF5;go_wp2_with (first
     | ((with_reducible refine Qab 67 ?_);refine Xs 67 w6.heap.size 0 67 (tilC tilZ) (tilC v) (tilC v) (Blk.made w6 67 Z01) (QaR _) (Qaz _) (QaG rfl) ?_;intro w7 hf hb;have hf' := (Fr.new w6 (.cells Z01 67) (fun _ => False)).fresh hf (fun i e => by omega);have HX7 := Xi (hf'.blk HX6.out (fun h => h));have HZ7 := Xi (hf'.blk HZ6.out (fun h => h));have HF7 := Xi (ff HF6.out hf');have HV7 := Xi hb;clear hf hb hf' HX6 HZ6 HF6)
     | ((with_reducible refine Qam 67 ?_);refine Xl 67 w6.heap.size 0 67 (tilC v) (tilC v) HV7.out underlying67 (QaR _) (Qaf _) ?_)
     | ((with_reducible refine Qab 67 ?_);refine Xs 67 (w.heap.size + 1) 5 69 (eraC { eraZ with off := y,kind := 2,rules := x1,format := x2 }) (tilC v) (eraC { eraZ with off := y,kind := 2,rules := x1,format := x2,til := v }) HX7.out (QaR _) (Qaz _) (Qg1 _ _) ?_;intro w8 hf hb;have HX8 := Xi hb;have HZ8 := Xo hf HZ7;have HF8 := Xn HF7 hf;clear hf hb HX7 HZ7 HF7)
     | ((with_reducible refine Qam 69 ?_);refine Xl 69 (w.heap.size + 1) 0 69 (eraC { eraZ with off := y,kind := 2,rules := x1,format := x2,til := v }) (eraC { eraZ with off := y,kind := 2,rules := x1,format := x2,til := v }) HX8.out underlying69 (QaK _) (Qaf _) ?_)
     | ((with_reducible refine Qab 69 ?_);refine Xs 69 w.heap.size 0 69 (eraC eraZ) (eraC { eraZ with off := y,kind := 2,rules := x1,format := x2,til := v }) (eraC { eraZ with off := y,kind := 2,rules := x1,format := x2,til := v }) HZ8.out (QaK _) (Qax _) (Qbs _ _) ?_;intro w9 hf9 hb9;have HE9 := Xi hb9;have HF9 := Xn HF8 hf9;clear hf9 hb9))
    (try simp only [Exit.inBlock,Exit.then]);exact bodyPost_ret (Qao _ _ _ _ 0 0 rfl rfl rfl HE9.out) rfl ⟨HF9.out,rfl⟩
  have hR := HR.out;simp only [if_neg hn,Qan] at hR;subst hR;have n4 : (fs.length : Int) ≤ 3 := by omega
  go_wp2_with (first
   | ((with_reducible refine Qab 9 ?_);refine Xc 9 (w.heap.size + 1) 4 69 (eraC { eraZ with off := y,kind := 2,rules := x1 }) (eraC { eraZ with off := y,kind := 2,rules := x1,format := x2 }) (strV x2) HX4.out QaN (Qdw _ _) ?_;intro w5 hf hb;have HX5 := Xi hb;have HZ5 := Xo hf HZ4;have HF5 := Xn HF4 hf;clear hf hb HX4 HZ4 HF4)
   | ((with_reducible refine Qam 69 ?_);refine Xl 69 (w.heap.size + 1) 0 69 (eraC { eraZ with off := y,kind := 2,rules := x1,format := x2 }) (eraC { eraZ with off := y,kind := 2,rules := x1,format := x2 }) HX5.out underlying69 (QaK _) (Qaf _) ?_)
   | ((with_reducible refine Qab 69 ?_);refine Xs 69 w.heap.size 0 69 (eraC eraZ) (eraC { eraZ with off := y,kind := 2,rules := x1,format := x2 }) (eraC { eraZ with off := y,kind := 2,rules := x1,format := x2 }) HZ5.out (QaK _) (Qax _) (Qbs _ _) ?_;intro w9 hf9 hb9;have HE9 := Xi hb9;have HF9 := Xn HF5 hf9;clear hf9 hb9))
  (try simp only [Exit.inBlock,Exit.then]);exact bodyPost_ret (Qao _ _ _ _ 0 0 rfl rfl rfl HE9.out) rfl ⟨HF9.out,rfl⟩
 | false =>
  by_cases hd : x1 = [45]
  ·have hp : QbU x1 = some (0,0,[]) := by unfold QbU; rw [if_neg (by rw [hq]; decide),if_pos hd]
   have hR := HR.out;rw [hp] at hR;simp only [QaD,Qan] at hR;have HR := Xi hR;clear hR;have e1 : (x1 == [45]) = true := by simpa using hd
   have e2 : (x1 != [45]) = false := by simpa using hd
   clear hp hq hd;refine (HQ.out _).mono ?_;rintro e w2 ⟨rfl,rfl⟩;have ck2 := (Qai (HD.out.fr HF2.out) (k := 2) (by omega)).1;simp only [Nat.reduceMul] at ck2;rw [Q2.out] at ck2;go_wp2_with fail;cases hfm : Qck x2
   ·have hR := HR.out;rw [hfm] at hR;simp only [Qa5,Qap] at hR;subst hR;refine (Qbn x2 _ hg2 _ hfm).mono ?_;rintro e w2 ⟨rfl,rfl⟩;go_wp2_with (first
     | ((with_reducible refine Qam 69 ?_);refine Xl 69 (w.heap.size + 1) 0 69 (eraC { eraZ with off := y }) (eraC { eraZ with off := y }) HX2.out underlying69 (QaK _) (Qaf _) ?_)
     | ((with_reducible refine Qab 69 ?_);refine Xs 69 w.heap.size 0 69 (eraC eraZ) (eraC { eraZ with off := y }) (eraC { eraZ with off := y }) HZ2.out (QaK _) (Qax _) (Qbs _ _) ?_;intro w9 hf9 hb9;have HE9 := Xi hb9;have HF9 := Xn HF2 hf9;clear hf9 hb9))
    (try simp only [Exit.inBlock,Exit.then]);exact bodyPost_ret (Qao _ _ _ _ 15 2 rfl rfl rfl HE9.out) rfl ⟨HF9.out,⟨{ eraZ with off := y },rfl⟩⟩
   have hR := HR.out;rw [hfm] at hR;simp only [Qbr,Qan] at hR;have HR := Xi hR;clear hR;refine (Qbn x2 _ hg2 _ hfm).mono ?_;rintro e w2 ⟨rfl,rfl⟩;clear hfm;by_cases hn : 3 < fs.length
   ·have hR := HR.out;simp only [if_pos hn] at hR;have HR := Xi hR;clear hR;have n4 : (3 : Int) < (fs.length : Int) := by omega
    go_wp2_with (first
     | ((with_reducible refine Qab 9 ?_);refine Xc 9 (w.heap.size + 1) 4 69 (eraC { eraZ with off := y }) (eraC { eraZ with off := y,format := x2 }) (strV x2) HX2.out QaN (Qdw _ _) ?_;intro w3 hf hb;have HX3 := Xi hb;have HZ3 := Xo hf HZ2;have HF3 := Xn HF2 hf;clear hf hb HX2 HZ2 HF2))
    clear ck2;have hc := HU.out hn w3 HF3.out;have hbd := HB.out hn;have hR := HR.out;clear HR HU HB;cases S with
    | error x =>
     have hx := (hbd x rfl).1;have hx0 : (x.2 != 0) = true := by simpa using hx
     have hx1 : (x.2 == 0) = false := by simpa using hx
     simp only [Qap] at hR;subst hR;clear hbd hx;obtain ⟨ei,ek⟩ := x;refine (hc).mono ?_;rintro e w4 ⟨hf,u9,rfl⟩;have HX4 := Xb hf HX3;have HZ4 := Xb hf HZ3;have HF4 := Xf HF3 hf;clear hf HX3 HZ3 HF3;go_wp2_with (first
      | ((with_reducible refine Qab 67 ?_);refine Xs 67 w4.heap.size 0 67 (tilC tilZ) (tilC u9) (tilC u9) (Blk.made w4 67 Z01) (QaR _) (Qaz _) (QaG rfl) ?_;intro w5 hf hb;have hf' := (Fr.new w4 (.cells Z01 67) (fun _ => False)).fresh hf (fun i e => by omega);have HX5 := Xi (hf'.blk HX4.out (fun h => h));have HZ5 := Xi (hf'.blk HZ4.out (fun h => h));have HF5 := Xi (ff HF4.out hf');have HV5 := Xi hb;clear hf hb hf' HX4 HZ4 HF4)
      | ((with_reducible refine Qam 69 ?_);refine Xl 69 (w.heap.size + 1) 0 69 (eraC { eraZ with off := y,format := x2 }) (eraC { eraZ with off := y,format := x2 }) HX5.out underlying69 (QaK _) (Qaf _) ?_)
      | ((with_reducible refine Qab 69 ?_);refine Xs 69 w.heap.size 0 69 (eraC eraZ) (eraC { eraZ with off := y,format := x2 }) (eraC { eraZ with off := y,format := x2 }) HZ5.out (QaK _) (Qax _) (Qbs _ _) ?_;intro w9 hf9 hb9;have HE9 := Xi hb9;have HF9 := Xn HF5 hf9;clear hf9 hb9))
     (try simp only [Exit.inBlock,Exit.then]);exact bodyPost_ret (Qao _ _ _ _ _ _ rfl rfl rfl HE9.out) rfl ⟨HF9.out,⟨{ eraZ with off := y,format := x2 },rfl⟩⟩
    | ok v =>
     simp only [Qan] at hR;subst hR;clear hbd;refine (hc).mono ?_;rintro e w4 ⟨hf,rfl⟩;have HX4 := Xb hf HX3;have HZ4 := Xb hf HZ3;have HF4 := Xf HF3 hf;clear hf HX3 HZ3 HF3;go_wp2_with (first
      | ((with_reducible refine Qab 67 ?_);refine Xs 67 w4.heap.size 0 67 (tilC tilZ) (tilC v) (tilC v) (Blk.made w4 67 Z01) (QaR _) (Qaz _) (QaG rfl) ?_;intro w5 hf hb;have hf' := (Fr.new w4 (.cells Z01 67) (fun _ => False)).fresh hf (fun i e => by omega);have HX5 := Xi (hf'.blk HX4.out (fun h => h));have HZ5 := Xi (hf'.blk HZ4.out (fun h => h));have HF5 := Xi (ff HF4.out hf');have HV5 := Xi hb;clear hf hb hf' HX4 HZ4 HF4)
      | ((with_reducible refine Qam 67 ?_);refine Xl 67 w4.heap.size 0 67 (tilC v) (tilC v) HV5.out underlying67 (QaR _) (Qaf _) ?_)
      | ((with_reducible refine Qab 67 ?_);refine Xs 67 (w.heap.size + 1) 5 69 (eraC { eraZ with off := y,format := x2 }) (tilC v) (eraC { eraZ with off := y,format := x2,til := v }) HX5.out (QaR _) (Qaz _) (Qg1 _ _) ?_;intro w6 hf hb;have HX6 := Xi hb;have HZ6 := Xo hf HZ5;have HF6 := Xn HF5 hf;clear hf hb HX5 HZ5 HF5)
      | ((with_reducible refine Qam 69 ?_);refine Xl 69 (w.heap.size + 1) 0 69 (eraC { eraZ with off := y,format := x2,til := v }) (eraC { eraZ with off := y,format := x2,til := v }) HX6.out underlying69 (QaK _) (Qaf _) ?_)
      | ((with_reducible refine Qab 69 ?_);refine Xs 69 w.heap.size 0 69 (eraC eraZ) (eraC { eraZ with off := y,format := x2,til := v }) (eraC { eraZ with off := y,format := x2,til := v }) HZ6.out (QaK _) (Qax _) (Qbs _ _) ?_;intro w9 hf9 hb9;have HE9 := Xi hb9;have HF9 := Xn HF6 hf9;clear hf9 hb9))
     (try simp only [Exit.inBlock,Exit.then]);exact bodyPost_ret (Qao _ _ _ _ 0 0 rfl rfl rfl HE9.out) rfl ⟨HF9.out,rfl⟩
   have hR := HR.out;simp only [if_neg hn,Qan] at hR;subst hR;have n4 : (fs.length : Int) ≤ 3 := by omega
   go_wp2_with (first
    | ((with_reducible refine Qab 9 ?_);refine Xc 9 (w.heap.size + 1) 4 69 (eraC { eraZ with off := y }) (eraC { eraZ with off := y,format := x2 }) (strV x2) HX2.out QaN (Qdw _ _) ?_;intro w3 hf hb;have HX3 := Xi hb;have HZ3 := Xo hf HZ2;have HF3 := Xn HF2 hf;clear hf hb HX2 HZ2 HF2)
    | ((with_reducible refine Qam 69 ?_);refine Xl 69 (w.heap.size + 1) 0 69 (eraC { eraZ with off := y,format := x2 }) (eraC { eraZ with off := y,format := x2 }) HX3.out underlying69 (QaK _) (Qaf _) ?_)
    | ((with_reducible refine Qab 69 ?_);refine Xs 69 w.heap.size 0 69 (eraC eraZ) (eraC { eraZ with off := y,format := x2 }) (eraC { eraZ with off := y,format := x2 }) HZ3.out (QaK _) (Qax _) (Qbs _ _) ?_;intro w9 hf9 hb9;have HE9 := Xi hb9;have HF9 := Xn HF3 hf9;clear hf9 hb9))
   (try simp only [Exit.inBlock,Exit.then]);exact bodyPost_ret (Qao _ _ _ _ 0 0 rfl rfl rfl HE9.out) rfl ⟨HF9.out,rfl⟩
  have e1 : (x1 == [45]) = false := by simpa using hd
  have e2 : (x1 != [45]) = true := by simpa using hd
  rcases (Qdf x1).symm with ⟨hv,hp0⟩ | ⟨n,hv,hp0⟩
  ·have hp : QbU x1 = none := by unfold QbU; rw [if_neg (by rw [hq]; decide),if_neg hd,hp0]; rfl
   have hR := HR.out;rw [hp] at hR;simp only [QaH,Qap] at hR;subst hR;clear hp hq hd hp0;refine (HQ.out _).mono ?_;rintro e w2 ⟨rfl,rfl⟩;go_wp2_with fail;refine (QbI x1 hg1 _ _ _ hv).mono ?_;rintro e w3 ⟨rfl,hf⟩;have HX3 := Xb hf HX2;have HZ3 := Xb hf HZ2;have HF3 := Xf HF2 hf;clear hf HX2 HZ2 HF2;go_wp2_with (first
    | ((with_reducible refine Qam 69 ?_);refine Xl 69 (w.heap.size + 1) 0 69 (eraC { eraZ with off := y }) (eraC { eraZ with off := y }) HX3.out underlying69 (QaK _) (Qaf _) ?_)
    | ((with_reducible refine Qab 69 ?_);refine Xs 69 w.heap.size 0 69 (eraC eraZ) (eraC { eraZ with off := y }) (eraC { eraZ with off := y }) HZ3.out (QaK _) (Qax _) (Qbs _ _) ?_;intro w9 hf9 hb9;have HE9 := Xi hb9;have HF9 := Xn HF3 hf9;clear hf9 hb9))
   (try simp only [Exit.inBlock,Exit.then]);exact bodyPost_ret (Qao _ _ _ _ 5 1 rfl rfl rfl HE9.out) rfl ⟨HF9.out,⟨{ eraZ with off := y },rfl⟩⟩
  have hp : QbU x1 = some (1,n,[]) := by unfold QbU; rw [if_neg (by rw [hq]; decide),if_neg hd,hp0]; rfl
  have hR := HR.out;rw [hp] at hR;simp only [QaD,Qan] at hR;have HR := Xi hR;clear hR;clear hp hq hd hp0;refine (HQ.out _).mono ?_;rintro e w2 ⟨rfl,rfl⟩;go_wp2_with fail;refine (QbI x1 hg1 _ _ _ hv).mono ?_;rintro e w3 ⟨rfl,hf⟩;have HX3 := Xb hf HX2;have HZ3 := Xb hf HZ2;have HF3 := Xf HF2 hf;clear hf HX2 HZ2 HF2;clear hv;go_wp2_with (first
   | ((with_reducible refine Qab 3 ?_);refine Xc 3 (w.heap.size + 1) 1 69 (eraC { eraZ with off := y }) (eraC { eraZ with off := y,kind := 1 }) (intV 1) HX3.out QaE (Qmb _ _) ?_;intro w4 hf hb;have HX4 := Xi hb;have HZ4 := Xo hf HZ3;have HF4 := Xn HF3 hf;clear hf hb HX3 HZ3 HF3)
   | ((with_reducible refine Qab 3 ?_);refine Xc 3 (w.heap.size + 1) 2 69 (eraC { eraZ with off := y,kind := 1 }) (eraC { eraZ with off := y,kind := 1,save := n }) (intV n) HX4.out QaE (put_e2 _ _) ?_;intro w5 hf hb;have HX5 := Xi hb;have HZ5 := Xo hf HZ4;have HF5 := Xn HF4 hf;have ck2 := (Qai (HD.out.fr HF5.out) (k := 2) (by omega)).1;simp only [Nat.reduceMul] at ck2;rw [Q2.out] at ck2;clear hf hb HX4 HZ4 HF4))
  cases hfm : Qck x2
  ·have hR := HR.out;rw [hfm] at hR;simp only [Qa5,Qap] at hR;subst hR;refine (Qbn x2 _ hg2 _ hfm).mono ?_;rintro e w5 ⟨rfl,rfl⟩;go_wp2_with (first
    | ((with_reducible refine Qam 69 ?_);refine Xl 69 (w.heap.size + 1) 0 69 (eraC { eraZ with off := y,kind := 1,save := n }) (eraC { eraZ with off := y,kind := 1,save := n }) HX5.out underlying69 (QaK _) (Qaf _) ?_)
    | ((with_reducible refine Qab 69 ?_);refine Xs 69 w.heap.size 0 69 (eraC eraZ) (eraC { eraZ with off := y,kind := 1,save := n }) (eraC { eraZ with off := y,kind := 1,save := n }) HZ5.out (QaK _) (Qax _) (Qbs _ _) ?_;intro w9 hf9 hb9;have HE9 := Xi hb9;have HF9 := Xn HF5 hf9;clear hf9 hb9))
   (try simp only [Exit.inBlock,Exit.then]);exact bodyPost_ret (Qao _ _ _ _ 15 2 rfl rfl rfl HE9.out) rfl ⟨HF9.out,⟨{ eraZ with off := y,kind := 1,save := n },rfl⟩⟩
  have hR := HR.out;rw [hfm] at hR;simp only [Qbr,Qan] at hR;have HR := Xi hR;clear hR;refine (Qbn x2 _ hg2 _ hfm).mono ?_;rintro e w5 ⟨rfl,rfl⟩;clear hfm;by_cases hn : 3 < fs.length
  ·have hR := HR.out;simp only [if_pos hn] at hR;have HR := Xi hR;clear hR;have n4 : (3 : Int) < (fs.length : Int) := by omega
   go_wp2_with (first
    | ((with_reducible refine Qab 9 ?_);refine Xc 9 (w.heap.size + 1) 4 69 (eraC { eraZ with off := y,kind := 1,save := n }) (eraC { eraZ with off := y,kind := 1,save := n,format := x2 }) (strV x2) HX5.out QaN (Qdw _ _) ?_;intro w6 hf hb;have HX6 := Xi hb;have HZ6 := Xo hf HZ5;have HF6 := Xn HF5 hf;clear hf hb HX5 HZ5 HF5))
   clear ck2;have hc := HU.out hn w6 HF6.out;have hbd := HB.out hn;have hR := HR.out;clear HR HU HB;cases S with
   | error x =>
    have hx := (hbd x rfl).1;have hx0 : (x.2 != 0) = true := by simpa using hx
    have hx1 : (x.2 == 0) = false := by simpa using hx
    simp only [Qap] at hR;subst hR;clear hbd hx;obtain ⟨ei,ek⟩ := x;refine (hc).mono ?_;rintro e w7 ⟨hf,u9,rfl⟩;have HX7 := Xb hf HX6;have HZ7 := Xb hf HZ6;have HF7 := Xf HF6 hf;clear hf HX6 HZ6 HF6;go_wp2_with (first
     | ((with_reducible refine Qab 67 ?_);refine Xs 67 w7.heap.size 0 67 (tilC tilZ) (tilC u9) (tilC u9) (Blk.made w7 67 Z01) (QaR _) (Qaz _) (QaG rfl) ?_;intro w8 hf hb;have hf' := (Fr.new w7 (.cells Z01 67) (fun _ => False)).fresh hf (fun i e => by omega);have HX8 := Xi (hf'.blk HX7.out (fun h => h));have HZ8 := Xi (hf'.blk HZ7.out (fun h => h));have HF8 := Xi (ff HF7.out hf');have HV8 := Xi hb;clear hf hb hf' HX7 HZ7 HF7)
     | ((with_reducible refine Qam 69 ?_);refine Xl 69 (w.heap.size + 1) 0 69 (eraC { eraZ with off := y,kind := 1,save := n,format := x2 }) (eraC { eraZ with off := y,kind := 1,save := n,format := x2 }) HX8.out underlying69 (QaK _) (Qaf _) ?_)
     | ((with_reducible refine Qab 69 ?_);refine Xs 69 w.heap.size 0 69 (eraC eraZ) (eraC { eraZ with off := y,kind := 1,save := n,format := x2 }) (eraC { eraZ with off := y,kind := 1,save := n,format := x2 }) HZ8.out (QaK _) (Qax _) (Qbs _ _) ?_;intro w9 hf9 hb9;have HE9 := Xi hb9;have HF9 := Xn HF8 hf9;clear hf9 hb9))
    (try simp only [Exit.inBlock,Exit.then]);exact bodyPost_ret (Qao _ _ _ _ _ _ rfl rfl rfl HE9.out) rfl ⟨HF9.out,⟨{ eraZ with off := y,kind := 1,save := n,format := x2 },rfl⟩⟩
   | ok v =>
    simp only [Qan] at hR;subst hR;clear hbd;refine (hc).mono ?_;rintro e w7 ⟨hf,rfl⟩;have HX7 := Xb hf HX6;have HZ7 := Xb hf HZ6;have HF7 := Xf HF6 hf;clear hf HX6 HZ6 HF6;go_wp2_with (first
     | ((with_reducible refine Qab 67 ?_);refine Xs 67 w7.heap.size 0 67 (tilC tilZ) (tilC v) (tilC v) (Blk.made w7 67 Z01) (QaR _) (Qaz _) (QaG rfl) ?_;intro w8 hf hb;have hf' := (Fr.new w7 (.cells Z01 67) (fun _ => False)).fresh hf (fun i e => by omega);have HX8 := Xi (hf'.blk HX7.out (fun h => h));have HZ8 := Xi (hf'.blk HZ7.out (fun h => h));have HF8 := Xi (ff HF7.out hf');have HV8 := Xi hb;clear hf hb hf' HX7 HZ7 HF7)
     | ((with_reducible refine Qam 67 ?_);refine Xl 67 w7.heap.size 0 67 (tilC v) (tilC v) HV8.out underlying67 (QaR _) (Qaf _) ?_)
     | ((with_reducible refine Qab 67 ?_);refine Xs 67 (w.heap.size + 1) 5 69 (eraC { eraZ with off := y,kind := 1,save := n,format := x2 }) (tilC v) (eraC { eraZ with off := y,kind := 1,save := n,format := x2,til := v }) HX8.out (QaR _) (Qaz _) (Qg1 _ _) ?_;intro w9 hf hb;have HX9 := Xi hb;have HZ9 := Xo hf HZ8;have HF9 := Xn HF8 hf;clear hf hb HX8 HZ8 HF8)
     | ((with_reducible refine Qam 69 ?_);refine Xl 69 (w.heap.size + 1) 0 69 (eraC { eraZ with off := y,kind := 1,save := n,format := x2,til := v }) (eraC { eraZ with off := y,kind := 1,save := n,format := x2,til := v }) HX9.out underlying69 (QaK _) (Qaf _) ?_)
     | ((with_reducible refine Qab 69 ?_);refine Xs 69 w.heap.size 0 69 (eraC eraZ) (eraC { eraZ with off := y,kind := 1,save := n,format := x2,til := v }) (eraC { eraZ with off := y,kind := 1,save := n,format := x2,til := v }) HZ9.out (QaK _) (Qax _) (Qbs _ _) ?_;intro w9 hf9 hb9;have HE9 := Xi hb9;have HF9 := Xn HF9 hf9;clear hf9 hb9))
    (try simp only [Exit.inBlock,Exit.then]);exact bodyPost_ret (Qao _ _ _ _ 0 0 rfl rfl rfl HE9.out) rfl ⟨HF9.out,rfl⟩
  have hR := HR.out;simp only [if_neg hn,Qan] at hR;subst hR;have n4 : (fs.length : Int) ≤ 3 := by omega
  go_wp2_with (first
   | ((with_reducible refine Qab 9 ?_);refine Xc 9 (w.heap.size + 1) 4 69 (eraC { eraZ with off := y,kind := 1,save := n }) (eraC { eraZ with off := y,kind := 1,save := n,format := x2 }) (strV x2) HX5.out QaN (Qdw _ _) ?_;intro w6 hf hb;have HX6 := Xi hb;have HZ6 := Xo hf HZ5;have HF6 := Xn HF5 hf;clear hf hb HX5 HZ5 HF5)
   | ((with_reducible refine Qam 69 ?_);refine Xl 69 (w.heap.size + 1) 0 69 (eraC { eraZ with off := y,kind := 1,save := n,format := x2 }) (eraC { eraZ with off := y,kind := 1,save := n,format := x2 }) HX6.out underlying69 (QaK _) (Qaf _) ?_)
   | ((with_reducible refine Qab 69 ?_);refine Xs 69 w.heap.size 0 69 (eraC eraZ) (eraC { eraZ with off := y,kind := 1,save := n,format := x2 }) (eraC { eraZ with off := y,kind := 1,save := n,format := x2 }) HZ6.out (QaK _) (Qax _) (Qbs _ _) ?_;intro w9 hf9 hb9;have HE9 := Xi hb9;have HF9 := Xn HF6 hf9;clear hf9 hb9))
  (try simp only [Exit.inBlock,Exit.then]);exact bodyPost_ret (Qao _ _ _ _ 0 0 rfl rfl rfl HE9.out) rfl ⟨HF9.out,rfl⟩
theorem rera_2 (fs : List Qat) (hz : ∀ k,(gt (fs.map (·.1)) k).length ≤ 900) (h1 : 4 < fs.length) (h2 : fs.length ≤ 9) (b off c : Nat) (w : World) (hfd : S7.FdAt w (some ⟨b,off,none⟩) fs) : Calls Tryz.prog 46 #[.slice (some ⟨b,off,none⟩) fs.length c,intV 2] w (LnR eraC 0 (eraP (fs.map (·.1)) 2) w) := by
 obtain ⟨R,hR⟩ : ∃ R,eraP (fs.map (·.1)) 2 = R := ⟨_,rfl⟩;rw [hR];unfold eraP at hR;simp only [Nat.reduceAdd,List.length_map] at hR;have HU := Xi (fun (h : 5 < fs.length) (W : World) (f : Fr w W (fun _ => False)) => runtil_5 fs hz h h2 b off c W (hfd.fr f));have HB := Xi (fun (h : 5 < fs.length) => Qhw (fs.map (·.1)) 5 (by rw [List.length_map]; exact h));obtain ⟨S,hS⟩ : ∃ S,Qcs (fs.map (·.1)) 5 = S := ⟨_,rfl⟩;rw [hS] at hR HU HB;obtain ⟨x2,hx2⟩ : ∃ x,gt (fs.map (·.1)) 2 = x := ⟨_,rfl⟩;have hg2 := hz 2;rw [hx2] at hg2;simp only [hx2] at hR;have Q2 := Xi hx2;clear hx2;obtain ⟨x3,hx3⟩ : ∃ x,gt (fs.map (·.1)) 3 = x := ⟨_,rfl⟩;have hg3 := hz 3;rw [hx3] at hg3;simp only [hx3] at hR;have Q3 := Xi hx3;clear hx3;obtain ⟨x4,hx4⟩ : ∃ x,gt (fs.map (·.1)) 4 = x := ⟨_,rfl⟩;have hg4 := hz 4;rw [hx4] at hg4;simp only [hx4] at hR;have Q4 := Xi hx4;clear hx4;have HR := Xi hR;have HD := Xi hfd;have hf1 := Fr.new w (.cells Z03 69) (fun _ => False);have s1 : (w.alloc (.cells Z03 69)).heap.size = w.heap.size + 1 := by simp
 have hf2 := Fr.new (w.alloc (.cells Z03 69)) (.cells Z03 69) (fun _ => False);have hm := Blk.made (w.alloc (.cells Z03 69)) 69 Z03;rw [s1] at hm;have HM := Xi (show Blk _ (w.heap.size + 1) 69 (eraC eraZ) from hm);have HZa := Xi (show Blk _ w.heap.size 69 (eraC eraZ) from hf2.blk (Blk.made w 69 Z03) (fun h => h));have HFa := Xi (ff hf1 hf2);have n1 : (2 : Int) < (fs.length : Int) := by omega
 have n2 : (3 : Int) < (fs.length : Int) := by omega
 have n3 : (4 : Int) < (fs.length : Int) := by omega
 clear hf1 s1 hf2 hm hR hz hfd hS;go_enter func46,ntmps46;go_wp2_with (first
  | ((with_reducible refine Qab 69 ?_);refine Xs 69 (w.heap.size + 1) 0 69 (eraC eraZ) (eraC eraZ) (eraC eraZ) HM.out (QaK _) (Qax _) (Qbs _ _) ?_;intro w0 hf0 hb0;have HX0 := Xi hb0;have HZ0 := Xo hf0 HZa;have HF0 := Xn HFa hf0;have ck2 := (Qai (HD.out.fr HF0.out) (k := 2) (by omega)).1;simp only [Nat.reduceMul] at ck2;rw [Q2.out] at ck2;clear hf0 hb0 HZa HFa HM))
 clear ck2;rcases (Qdf x2).symm with ⟨hv,hp⟩ | ⟨y,hv,hp⟩
 ·have hR := HR.out;rw [hp] at hR;simp only [QaH,Qap] at hR;subst hR;refine (QbI x2 hg2 _ _ _ hv).mono ?_;rintro e w1 ⟨rfl,hf⟩;have HX1 := Xb hf HX0;have HZ1 := Xb hf HZ0;have HF1 := Xf HF0 hf;clear hf HX0 HZ0 HF0;go_wp2_with (first
   | ((with_reducible refine Qam 69 ?_);refine Xl 69 (w.heap.size + 1) 0 69 (eraC eraZ) (eraC eraZ) HX1.out underlying69 (QaK _) (Qaf _) ?_)
   | ((with_reducible refine Qab 69 ?_);refine Xs 69 w.heap.size 0 69 (eraC eraZ) (eraC eraZ) (eraC eraZ) HZ1.out (QaK _) (Qax _) (Qbs _ _) ?_;intro w9 hf9 hb9;have HE9 := Xi hb9;have HF9 := Xn HF1 hf9;clear hf9 hb9))
  (try simp only [Exit.inBlock,Exit.then]);exact bodyPost_ret (Qao _ _ _ _ 7 2 rfl rfl rfl HE9.out) rfl ⟨HF9.out,⟨eraZ,rfl⟩⟩
 have hR := HR.out;rw [hp] at hR;simp only [QaD,Qan] at hR;have HR := Xi hR;clear hR;refine (QbI x2 hg2 _ _ _ hv).mono ?_;rintro e w1 ⟨rfl,hf⟩;have HX1 := Xb hf HX0;have HZ1 := Xb hf HZ0;have HF1 := Xf HF0 hf;clear hf HX0 HZ0 HF0;clear hv hp;go_wp2_with (first
  | ((with_reducible refine Qab 3 ?_);refine Xc 3 (w.heap.size + 1) 0 69 (eraC eraZ) (eraC { eraZ with off := y }) (intV y) HX1.out QaE (Qpn _ _) ?_;intro w2 hf hb;have HX2 := Xi hb;have HZ2 := Xo hf HZ1;have HF2 := Xn HF1 hf;have ck3 := (Qai (HD.out.fr HF2.out) (k := 3) (by omega)).1;simp only [Nat.reduceMul] at ck3;rw [Q3.out] at ck3;clear hf hb HX1 HZ1 HF1))
 clear ck3;obtain ⟨q,hq⟩ : ∃ q,Go.Kwd.Qc4 x3 = q := ⟨_,rfl⟩;have HQ := Xi (fun W => Qfj x3 hg3 W q hq);cases q with
 | true =>
  have hp : QbU x3 = some (2,0,x3) := by unfold QbU; rw [if_pos hq]
  have hR := HR.out;rw [hp] at hR;simp only [QaD,Qan] at hR;have HR := Xi hR;clear hR;clear hp hq;refine (HQ.out _).mono ?_;rintro e w2 ⟨rfl,rfl⟩;go_wp2_with (first
   | ((with_reducible refine Qab 3 ?_);refine Xc 3 (w.heap.size + 1) 1 69 (eraC { eraZ with off := y }) (eraC { eraZ with off := y,kind := 2 }) (intV 2) HX2.out QaE (Qmb _ _) ?_;intro w3 hf hb;have HX3 := Xi hb;have HZ3 := Xo hf HZ2;have HF3 := Xn HF2 hf;clear hf hb HX2 HZ2 HF2)
   | ((with_reducible refine Qab 9 ?_);refine Xc 9 (w.heap.size + 1) 3 69 (eraC { eraZ with off := y,kind := 2 }) (eraC { eraZ with off := y,kind := 2,rules := x3 }) (strV x3) HX3.out QaN (put_e3 _ _) ?_;intro w4 hf hb;have HX4 := Xi hb;have HZ4 := Xo hf HZ3;have HF4 := Xn HF3 hf;have ck4 := (Qai (HD.out.fr HF4.out) (k := 4) (by omega)).1;simp only [Nat.reduceMul] at ck4;rw [Q4.out] at ck4;clear hf hb HX3 HZ3 HF3))
  cases hfm : Qck x4
  ·have hR := HR.out;rw [hfm] at hR;simp only [Qa5,Qap] at hR;subst hR;refine (Qbn x4 _ hg4 _ hfm).mono ?_;rintro e w4 ⟨rfl,rfl⟩;go_wp2_with (first
    | ((with_reducible refine Qam 69 ?_);refine Xl 69 (w.heap.size + 1) 0 69 (eraC { eraZ with off := y,kind := 2,rules := x3 }) (eraC { eraZ with off := y,kind := 2,rules := x3 }) HX4.out underlying69 (QaK _) (Qaf _) ?_)
    | ((with_reducible refine Qab 69 ?_);refine Xs 69 w.heap.size 0 69 (eraC eraZ) (eraC { eraZ with off := y,kind := 2,rules := x3 }) (eraC { eraZ with off := y,kind := 2,rules := x3 }) HZ4.out (QaK _) (Qax _) (Qbs _ _) ?_;intro w9 hf9 hb9;have HE9 := Xi hb9;have HF9 := Xn HF4 hf9;clear hf9 hb9))
   (try simp only [Exit.inBlock,Exit.then]);exact bodyPost_ret (Qao _ _ _ _ 15 4 rfl rfl rfl HE9.out) rfl ⟨HF9.out,⟨{ eraZ with off := y,kind := 2,rules := x3 },rfl⟩⟩
  have hR := HR.out;rw [hfm] at hR;simp only [Qbr,Qan] at hR;have HR := Xi hR;clear hR;refine (Qbn x4 _ hg4 _ hfm).mono ?_;rintro e w4 ⟨rfl,rfl⟩;clear hfm;by_cases hn : 5 < fs.length
  ·have hR := HR.out;simp only [if_pos hn] at hR;have HR := Xi hR;clear hR;have n4 : (5 : Int) < (fs.length : Int) := by omega
   go_wp2_with (first
    | ((with_reducible refine Qab 9 ?_);refine Xc 9 (w.heap.size + 1) 4 69 (eraC { eraZ with off := y,kind := 2,rules := x3 }) (eraC { eraZ with off := y,kind := 2,rules := x3,format := x4 }) (strV x4) HX4.out QaN (Qdw _ _) ?_;intro w5 hf hb;have HX5 := Xi hb;have HZ5 := Xo hf HZ4;have HF5 := Xn HF4 hf;clear hf hb HX4 HZ4 HF4))
   clear ck4;have hc := HU.out hn w5 HF5.out;have hbd := HB.out hn;have hR := HR.out;clear HR HU HB;cases S with
   | error x =>
    have hx := (hbd x rfl).1;have hx0 : (x.2 != 0) = true := by simpa using hx
    have hx1 : (x.2 == 0) = false := by simpa using hx
    simp only [Qap] at hR;subst hR;clear hbd hx;obtain ⟨ei,ek⟩ := x;refine (hc).mono ?_;rintro e w6 ⟨hf,u9,rfl⟩;have HX6 := Xb hf HX5;have HZ6 := Xb hf HZ5;have HF6 := Xf HF5 hf;clear hf HX5 HZ5 HF5;go_wp2_with (first
     | ((with_reducible refine Qab 67 ?_);refine Xs 67 w6.heap.size 0 67 (tilC tilZ) (tilC u9) (tilC u9) (Blk.made w6 67 Z01) (QaR _) (Qaz _) (QaG rfl) ?_;intro w7 hf hb;have hf' := (Fr.new w6 (.cells Z01 67) (fun _ => False)).fresh hf (fun i e => by omega);have HX7 := Xi (hf'.blk HX6.out (fun h => h));have HZ7 := Xi (hf'.blk HZ6.out (fun h => h));have HF7 := Xi (ff HF6.out hf');have HV7 := Xi hb;clear hf hb hf' HX6 HZ6 HF6)
     | ((with_reducible refine Qam 69 ?_);refine Xl 69 (w.heap.size + 1) 0 69 (eraC { eraZ with off := y,kind := 2,rules := x3,format := x4 }) (eraC { eraZ with off := y,kind := 2,rules := x3,format := x4 }) HX7.out underlying69 (QaK _) (Qaf _) ?_)
     | ((with_reducible refine Qab 69 ?_);refine Xs 69 w.heap.size 0 69 (eraC eraZ) (eraC { eraZ with off := y,kind := 2,rules := x3,format := x4 }) (eraC { eraZ with off := y,kind := 2,rules := x3,format := x4 }) HZ7.out (QaK _) (Qax _) (Qbs _ _) ?_;intro w9 hf9 hb9;have HE9 := Xi hb9;have HF9 := Xn HF7 hf9;clear hf9 hb9))
    (try simp only [Exit.inBlock,Exit.then]);exact bodyPost_ret (Qao _ _ _ _ _ _ rfl rfl rfl HE9.out) rfl ⟨HF9.out,⟨{ eraZ with off := y,kind := 2,rules := x3,format := x4 },rfl⟩⟩
   | ok v =>
    simp only [Qan] at hR;subst hR;clear hbd;refine (hc).mono ?_;rintro e w6 ⟨hf,rfl⟩;have HX6 := Xb hf HX5;have HZ6 := Xb hf HZ5;have HF6 := Xf HF5 hf;clear hf HX5 HZ5 HF5;go_wp2_with (first
     | ((with_reducible refine Qab 67 ?_);refine Xs 67 w6.heap.size 0 67 (tilC tilZ) (tilC v) (tilC v) (Blk.made w6 67 Z01) (QaR _) (Qaz _) (QaG rfl) ?_;intro w7 hf hb;have hf' := (Fr.new w6 (.cells Z01 67) (fun _ => False)).fresh hf (fun i e => by omega);have HX7 := Xi (hf'.blk HX6.out (fun h => h));have HZ7 := Xi (hf'.blk HZ6.out (fun h => h));have HF7 := Xi (ff HF6.out hf');have HV7 := Xi hb;clear hf hb hf' HX6 HZ6 HF6)
     | ((with_reducible refine Qam 67 ?_);refine Xl 67 w6.heap.size 0 67 (tilC v) (tilC v) HV7.out underlying67 (QaR _) (Qaf _) ?_)
     | ((with_reducible refine Qab 67 ?_);refine Xs 67 (w.heap.size + 1) 5 69 (eraC { eraZ with off := y,kind := 2,rules := x3,format := x4 }) (tilC v) (eraC { eraZ with off := y,kind := 2,rules := x3,format := x4,til := v }) HX7.out (QaR _) (Qaz _) (Qg1 _ _) ?_;intro w8 hf hb;have HX8 := Xi hb;have HZ8 := Xo hf HZ7;have HF8 := Xn HF7 hf;clear hf hb HX7 HZ7 HF7)
     | ((with_reducible refine Qam 69 ?_);refine Xl 69 (w.heap.size + 1) 0 69 (eraC { eraZ with off := y,kind := 2,rules := x3,format := x4,til := v }) (eraC { eraZ with off := y,kind := 2,rules := x3,format := x4,til := v }) HX8.out underlying69 (QaK _) (Qaf _) ?_)
     | ((with_reducible refine Qab 69 ?_);refine Xs 69 w.heap.size 0 69 (eraC eraZ) (eraC { eraZ with off := y,kind := 2,rules := x3,format := x4,til := v }) (eraC { eraZ with off := y,kind := 2,rules := x3,format := x4,til := v }) HZ8.out (QaK _) (Qax _) (Qbs _ _) ?_;intro w9 hf9 hb9;have HE9 := Xi hb9;have HF9 := Xn HF8 hf9;clear hf9 hb9))
    (try simp only [Exit.inBlock,Exit.then]);exact bodyPost_ret (Qao _ _ _ _ 0 0 rfl rfl rfl HE9.out) rfl ⟨HF9.out,rfl⟩
  have hR := HR.out;simp only [if_neg hn,Qan] at hR;subst hR;have n4 : (fs.length : Int) ≤ 5 := by omega
  go_wp2_with (first
   | ((with_reducible refine Qab 9 ?_);refine Xc 9 (w.heap.size + 1) 4 69 (eraC { eraZ with off := y,kind := 2,rules := x3 }) (eraC { eraZ with off := y,kind := 2,rules := x3,format := x4 }) (strV x4) HX4.out QaN (Qdw _ _) ?_;intro w5 hf hb;have HX5 := Xi hb;have HZ5 := Xo hf HZ4;have HF5 := Xn HF4 hf;clear hf hb HX4 HZ4 HF4)
   | ((with_reducible refine Qam 69 ?_);refine Xl 69 (w.heap.size + 1) 0 69 (eraC { eraZ with off := y,kind := 2,rules := x3,format := x4 }) (eraC { eraZ with off := y,kind := 2,rules := x3,format := x4 }) HX5.out underlying69 (QaK _) (Qaf _) ?_)
   | ((with_reducible refine Qab 69 ?_);refine Xs 69 w.heap.size 0 69 (eraC eraZ) (eraC { eraZ with off := y,kind := 2,rules := x3,format := x4 }) (eraC { eraZ with off := y,kind := 2,rules := x3,format := x4 }) HZ5.out (QaK _) (Qax _) (Qbs _ _) ?_;intro w9 hf9 hb9;have HE9 := Xi hb9;have HF9 := Xn HF5 hf9;clear hf9 hb9))
  (try simp only [Exit.inBlock,Exit.then]);exact bodyPost_ret (Qao _ _ _ _ 0 0 rfl rfl rfl HE9.out) rfl ⟨HF9.out,rfl⟩
 | false =>
  by_cases hd : x3 = [45]
  ·have hp : QbU x3 = some (0,0,[]) := by unfold QbU; rw [if_neg (by rw [hq]; decide),if_pos hd]
   have hR := HR.out;rw [hp] at hR;simp only [QaD,Qan] at hR;have HR := Xi hR;clear hR;have e1 : (x3 == [45]) = true := by simpa using hd
   have e2 : (x3 != [45]) = false := by simpa using hd
   clear hp hq hd;refine (HQ.out _).mono ?_;rintro e w2 ⟨rfl,rfl⟩;have ck4 := (Qai (HD.out.fr HF2.out) (k := 4) (by omega)).1;simp only [Nat.reduceMul] at ck4;rw [Q4.out] at ck4;go_wp2_with fail;cases hfm : Qck x4
   ·have hR := HR.out;rw [hfm] at hR;simp only [Qa5,Qap] at hR;subst hR;refine (Qbn x4 _ hg4 _ hfm).mono ?_;rintro e w2 ⟨rfl,rfl⟩;go_wp2_with (first
     | ((with_reducible refine Qam 69 ?_);refine Xl 69 (w.heap.size + 1) 0 69 (eraC { eraZ with off := y }) (eraC { eraZ with off := y }) HX2.out underlying69 (QaK _) (Qaf _) ?_)
     | ((with_reducible refine Qab 69 ?_);refine Xs 69 w.heap.size 0 69 (eraC eraZ) (eraC { eraZ with off := y }) (eraC { eraZ with off := y }) HZ2.out (QaK _) (Qax _) (Qbs _ _) ?_;intro w9 hf9 hb9;have HE9 := Xi hb9;have HF9 := Xn HF2 hf9;clear hf9 hb9))
    (try simp only [Exit.inBlock,Exit.then]);exact bodyPost_ret (Qao _ _ _ _ 15 4 rfl rfl rfl HE9.out) rfl ⟨HF9.out,⟨{ eraZ with off := y },rfl⟩⟩
   have hR := HR.out;rw [hfm] at hR;simp only [Qbr,Qan] at hR;have HR := Xi hR;clear hR;refine (Qbn x4 _ hg4 _ hfm).mono ?_;rintro e w2 ⟨rfl,rfl⟩;clear hfm;by_cases hn : 5 < fs.length
   ·have hR := HR.out;simp only [if_pos hn] at hR;have HR := Xi hR;clear hR;have n4 : (5 : Int) < (fs.length : Int) := by omega
    go_wp2_with (first
     | ((with_reducible refine Qab 9 ?_);refine Xc 9 (w.heap.size + 1) 4 69 (eraC { eraZ with off := y }) (eraC { eraZ with off := y,format := x4 }) (strV x4) HX2.out QaN (Qdw _ _) ?_;intro w3 hf hb;have HX3 := Xi hb;have HZ3 := Xo hf HZ2;have HF3 := Xn HF2 hf;clear hf hb HX2 HZ2 HF2))
    clear ck4;have hc := HU.out hn w3 HF3.out;have hbd := HB.out hn;have hR := HR.out;clear HR HU HB;cases S with
    | error x =>
     have hx := (hbd x rfl).1;have hx0 : (x.2 != 0) = true := by simpa using hx
     have hx1 : (x.2 == 0) = false := by simpa using hx
     simp only [Qap] at hR;subst hR;clear hbd hx;obtain ⟨ei,ek⟩ := x;refine (hc).mono ?_;rintro e w4 ⟨hf,u9,rfl⟩;have HX4 := Xb hf HX3;have HZ4 := Xb hf HZ3;have HF4 := Xf HF3 hf;clear hf HX3 HZ3 HF3;go_wp2_with (first
      | ((with_reducible refine Qab 67 ?_);refine Xs 67 w4.heap.size 0 67 (tilC tilZ) (tilC u9) (tilC u9) (Blk.made w4 67 Z01) (QaR _) (Qaz _) (QaG rfl) ?_;intro w5 hf hb;have hf' := (Fr.new w4 (.cells Z01 67) (fun _ => False)).fresh hf (fun i e => by omega);have HX5 := Xi (hf'.blk HX4.out (fun h => h));have HZ5 := Xi (hf'.blk HZ4.out (fun h => h));have HF5 := Xi (ff HF4.out hf');have HV5 := Xi hb;clear hf hb hf' HX4 HZ4 HF4)
      | ((with_reducible refine Qam 69 ?_);refine Xl 69 (w.heap.size + 1) 0 69 (eraC { eraZ with off := y,format := x4 }) (eraC { eraZ with off := y,format := x4 }) HX5.out underlying69 (QaK _) (Qaf _) ?_)
      | ((with_reducible refine Qab 69 ?_);refine Xs 69 w.heap.size 0 69 (eraC eraZ) (eraC { eraZ with off := y,format := x4 }) (eraC { eraZ with off := y,format := x4 }) HZ5.out (QaK _) (Qax _) (Qbs _ _) ?_;intro w9 hf9 hb9;have HE9 := Xi hb9;have HF9 := Xn HF5 hf9;clear hf9 hb9))
     (try simp only [Exit.inBlock,Exit.then]);exact bodyPost_ret (Qao _ _ _ _ _ _ rfl rfl rfl HE9.out) rfl ⟨HF9.out,⟨{ eraZ with off := y,format := x4 },rfl⟩⟩
    | ok v =>
     simp only [Qan] at hR;subst hR;clear hbd;refine (hc).mono ?_;rintro e w4 ⟨hf,rfl⟩;have HX4 := Xb hf HX3;have HZ4 := Xb hf HZ3;have HF4 := Xf HF3 hf;clear hf HX3 HZ3 HF3;go_wp2_with (first
      | ((with_reducible refine Qab 67 ?_);refine Xs 67 w4.heap.size 0 67 (tilC tilZ) (tilC v) (tilC v) (Blk.made w4 67 Z01) (QaR _) (Qaz _) (QaG rfl) ?_;intro w5 hf hb;have hf' := (Fr.new w4 (.cells Z01 67) (fun _ => False)).fresh hf (fun i e => by omega);have HX5 := Xi (hf'.blk HX4.out (fun h => h));have HZ5 := Xi (hf'.blk HZ4.out (fun h => h));have HF5 := Xi (ff HF4.out hf');have HV5 := Xi hb;clear hf hb hf' HX4 HZ4 HF4)
      | ((with_reducible refine Qam 67 ?_);refine Xl 67 w4.heap.size 0 67 (tilC v) (tilC v) HV5.out underlying67 (QaR _) (Qaf _) ?_)
      | ((with_reducible refine Qab 67 ?_);refine Xs 67 (w.heap.size + 1) 5 69 (eraC { eraZ with off := y,format := x4 }) (tilC v) (eraC { eraZ with off := y,format := x4,til := v }) HX5.out (QaR _) (Qaz _) (Qg1 _ _) ?_;intro w6 hf hb;have HX6 := Xi hb;have HZ6 := Xo hf HZ5;have HF6 := Xn HF5 hf;clear hf hb HX5 HZ5 HF5)
      | ((with_reducible refine Qam 69 ?_);refine Xl 69 (w.heap.size + 1) 0 69 (eraC { eraZ with off := y,format := x4,til := v }) (eraC { eraZ with off := y,format := x4,til := v }) HX6.out underlying69 (QaK _) (Qaf _) ?_)
      | ((with_reducible refine Qab 69 ?_);refine Xs 69 w.heap.size 0 69 (eraC eraZ) (eraC { eraZ with off := y,format := x4,til := v }) (eraC { eraZ with off := y,format := x4,til := v }) HZ6.out (QaK _) (Qax _) (Qbs _ _) ?_;intro w9 hf9 hb9;have HE9 := Xi hb9;have HF9 := Xn HF6 hf9;clear hf9 hb9))
     (try simp only [Exit.inBlock,Exit.then]);exact bodyPost_ret (Qao _ _ _ _ 0 0 rfl rfl rfl HE9.out) rfl ⟨HF9.out,rfl⟩
   have hR := HR.out;simp only [if_neg hn,Qan] at hR;subst hR;have n4 : (fs.length : Int) ≤ 5 := by omega
   go_wp2_with (first
    | ((with_reducible refine Qab 9 ?_);refine Xc 9 (w.heap.size + 1) 4 69 (eraC { eraZ with off := y }) (eraC { eraZ with off := y,format := x4 }) (strV x4) HX2.out QaN (Qdw _ _) ?_;intro w3 hf hb;have HX3 := Xi hb;have HZ3 := Xo hf HZ2;have HF3 := Xn HF2 hf;clear hf hb HX2 HZ2 HF2)
    | ((with_reducible refine Qam 69 ?_);refine Xl 69 (w.heap.size + 1) 0 69 (eraC { eraZ with off := y,format := x4 }) (eraC { eraZ with off := y,format := x4 }) HX3.out underlying69 (QaK _) (Qaf _) ?_)
    | ((with_reducible refine Qab 69 ?_);refine Xs 69 w.heap.size 0 69 (eraC eraZ) (eraC { eraZ with off := y,format := x4 }) (eraC { eraZ with off := y,format := x4 }) HZ3.out (QaK _) (Qax _) (Qbs _ _) ?_;intro w9 hf9 hb9;have HE9 := Xi hb9;have HF9 := Xn HF3 hf9;clear hf9 hb9))
   (try simp only [Exit.inBlock,Exit.then]);exact bodyPost_ret (Qao _ _ _ _ 0 0 rfl rfl rfl HE9.out) rfl ⟨HF9.out,rfl⟩
  have e1 : (x3 == [45]) = false := by simpa using hd
  have e2 : (x3 != [45]) = true := by simpa using hd
  rcases (Qdf x3).symm with ⟨hv,hp0⟩ | ⟨n,hv,hp0⟩
  ·have hp : QbU x3 = none := by unfold QbU; rw [if_neg (by rw [hq]; decide),if_neg hd,hp0]; rfl
   have hR := HR.out;rw [hp] at hR;simp only [QaH,Qap] at hR;subst hR;clear hp hq hd hp0;refine (HQ.out _).mono ?_;rintro e w2 ⟨rfl,rfl⟩;go_wp2_with fail;refine (QbI x3 hg3 _ _ _ hv).mono ?_;rintro e w3 ⟨rfl,hf⟩;have HX3 := Xb hf HX2;have HZ3 := Xb hf HZ2;have HF3 := Xf HF2 hf;clear hf HX2 HZ2 HF2;go_wp2_with (first
    | ((with_reducible refine Qam 69 ?_);refine Xl 69 (w.heap.size + 1) 0 69 (eraC { eraZ with off := y }) (eraC { eraZ with off := y }) HX3.out underlying69 (QaK _) (Qaf _) ?_)
    | ((with_reducible refine Qab 69 ?_);refine Xs 69 w.heap.size 0 69 (eraC eraZ) (eraC { eraZ with off := y }) (eraC { eraZ with off := y }) HZ3.out (QaK _) (Qax _) (Qbs _ _) ?_;intro w9 hf9 hb9;have HE9 := Xi hb9;have HF9 := Xn HF3 hf9;clear hf9 hb9))
   (try simp only [Exit.inBlock,Exit.then]);exact bodyPost_ret (Qao _ _ _ _ 5 3 rfl rfl rfl HE9.out) rfl ⟨HF9.out,⟨{ eraZ with off := y },rfl⟩⟩
  have hp : QbU x3 = some (1,n,[]) := by unfold QbU; rw [if_neg (by rw [hq]; decide),if_neg hd,hp0]; rfl
  have hR := HR.out;rw [hp] at hR;simp only [QaD,Qan] at hR;have HR := Xi hR;clear hR;clear hp hq hd hp0;refine (HQ.out _).mono ?_;rintro e w2 ⟨rfl,rfl⟩;go_wp2_with fail;refine (QbI x3 hg3 _ _ _ hv).mono ?_;rintro e w3 ⟨rfl,hf⟩;have HX3 := Xb hf HX2;have HZ3 := Xb hf HZ2;have HF3 := Xf HF2 hf;clear hf HX2 HZ2 HF2;clear hv;go_wp2_with (first
   | ((with_reducible refine Qab 3 ?_);refine Xc 3 (w.heap.size + 1) 1 69 (eraC { eraZ with off := y }) (eraC { eraZ with off := y,kind := 1 }) (intV 1) HX3.out QaE (Qmb _ _) ?_;intro w4 hf hb;have HX4 := Xi hb;have HZ4 := Xo hf HZ3;have HF4 := Xn HF3 hf;clear hf hb HX3 HZ3 HF3)
   | ((with_reducible refine Qab 3 ?_);refine Xc 3 (w.heap.size + 1) 2 69 (eraC { eraZ with off := y,kind := 1 }) (eraC { eraZ with off := y,kind := 1,save := n }) (intV n) HX4.out QaE (put_e2 _ _) ?_;intro w5 hf hb;have HX5 := Xi hb;have HZ5 := Xo hf HZ4;have HF5 := Xn HF4 hf;have ck4 := (Qai (HD.out.fr HF5.out) (k := 4) (by omega)).1;simp only [Nat.reduceMul] at ck4;rw [Q4.out] at ck4;clear hf hb HX4 HZ4 HF4))
  cases hfm : Qck x4
  ·have hR := HR.out;rw [hfm] at hR;simp only [Qa5,Qap] at hR;subst hR;refine (Qbn x4 _ hg4 _ hfm).mono ?_;rintro e w5 ⟨rfl,rfl⟩;go_wp2_with (first
    | ((with_reducible refine Qam 69 ?_);refine Xl 69 (w.heap.size + 1) 0 69 (eraC { eraZ with off := y,kind := 1,save := n }) (eraC { eraZ with off := y,kind := 1,save := n }) HX5.out underlying69 (QaK _) (Qaf _) ?_)
    | ((with_reducible refine Qab 69 ?_);refine Xs 69 w.heap.size 0 69 (eraC eraZ) (eraC { eraZ with off := y,kind := 1,save := n }) (eraC { eraZ with off := y,kind := 1,save := n }) HZ5.out (QaK _) (Qax _) (Qbs _ _) ?_;intro w9 hf9 hb9;have HE9 := Xi hb9;have HF9 := Xn HF5 hf9;clear hf9 hb9))
   (try simp only [Exit.inBlock,Exit.then]);exact bodyPost_ret (Qao _ _ _ _ 15 4 rfl rfl rfl HE9.out) rfl ⟨HF9.out,⟨{ eraZ with off := y,kind := 1,save := n },rfl⟩⟩
  have hR := HR.out;rw [hfm] at hR;simp only [Qbr,Qan] at hR;have HR := Xi hR;clear hR;refine (Qbn x4 _ hg4 _ hfm).mono ?_;rintro e w5 ⟨rfl,rfl⟩;clear hfm;by_cases hn : 5 < fs.length
  ·have hR := HR.out;simp only [if_pos hn] at hR;have HR := Xi hR;clear hR;have n4 : (5 : Int) < (fs.length : Int) := by omega
   go_wp2_with (first
    | ((with_reducible refine Qab 9 ?_);refine Xc 9 (w.heap.size + 1) 4 69 (eraC { eraZ with off := y,kind := 1,save := n }) (eraC { eraZ with off := y,kind := 1,save := n,format := x4 }) (strV x4) HX5.out QaN (Qdw _ _) ?_;intro w6 hf hb;have HX6 := Xi hb;have HZ6 := Xo hf HZ5;have HF6 := Xn HF5 hf;clear hf hb HX5 HZ5 HF5))
   clear ck4;have hc := HU.out hn w6 HF6.out;have hbd := HB.out hn;have hR := HR.out;clear HR HU HB;cases S with
   | error x =>
    have hx := (hbd x rfl).1;have hx0 : (x.2 != 0) = true := by simpa using hx
    have hx1 : (x.2 == 0) = false := by simpa using hx
    simp only [Qap] at hR;subst hR;clear hbd hx;obtain ⟨ei,ek⟩ := x;refine (hc).mono ?_;rintro e w7 ⟨hf,u9,rfl⟩;have HX7 := Xb hf HX6;have HZ7 := Xb hf HZ6;have HF7 := Xf HF6 hf;clear hf HX6 HZ6 HF6;go_wp2_with (first
     | ((with_reducible refine Qab 67 ?_);refine Xs 67 w7.heap.size 0 67 (tilC tilZ) (tilC u9) (tilC u9) (Blk.made w7 67 Z01) (QaR _) (Qaz _) (QaG rfl) ?_;intro w8 hf hb;have hf' := (Fr.new w7 (.cells Z01 67) (fun _ => False)).fresh hf (fun i e => by omega);have HX8 := Xi (hf'.blk HX7.out (fun h => h));have HZ8 := Xi (hf'.blk HZ7.out (fun h => h));have HF8 := Xi (ff HF7.out hf');have HV8 := Xi hb;clear hf hb hf' HX7 HZ7 HF7)
     | ((with_reducible refine Qam 69 ?_);refine Xl 69 (w.heap.size + 1) 0 69 (eraC { eraZ with off := y,kind := 1,save := n,format := x4 }) (eraC { eraZ with off := y,kind := 1,save := n,format := x4 }) HX8.out underlying69 (QaK _) (Qaf _) ?_)
     | ((with_reducible refine Qab 69 ?_);refine Xs 69 w.heap.size 0 69 (eraC eraZ) (eraC { eraZ with off := y,kind := 1,save := n,format := x4 }) (eraC { eraZ with off := y,kind := 1,save := n,format := x4 }) HZ8.out (QaK _) (Qax _) (Qbs _ _) ?_;intro w9 hf9 hb9;have HE9 := Xi hb9;have HF9 := Xn HF8 hf9;clear hf9 hb9))
    (try simp only [Exit.inBlock,Exit.then]);exact bodyPost_ret (Qao _ _ _ _ _ _ rfl rfl rfl HE9.out) rfl ⟨HF9.out,⟨{ eraZ with off := y,kind := 1,save := n,format := x4 },rfl⟩⟩
   | ok v =>
    simp only [Qan] at hR;subst hR;clear hbd;refine (hc).mono ?_;rintro e w7 ⟨hf,rfl⟩;have HX7 := Xb hf HX6;have HZ7 := Xb hf HZ6;have HF7 := Xf HF6 hf;clear hf HX6 HZ6 HF6;go_wp2_with (first
     | ((with_reducible refine Qab 67 ?_);refine Xs 67 w7.heap.size 0 67 (tilC tilZ) (tilC v) (tilC v) (Blk.made w7 67 Z01) (QaR _) (Qaz _) (QaG rfl) ?_;intro w8 hf hb;have hf' := (Fr.new w7 (.cells Z01 67) (fun _ => False)).fresh hf (fun i e => by omega);have HX8 := Xi (hf'.blk HX7.out (fun h => h));have HZ8 := Xi (hf'.blk HZ7.out (fun h => h));have HF8 := Xi (ff HF7.out hf');have HV8 := Xi hb;clear hf hb hf' HX7 HZ7 HF7)
     | ((with_reducible refine Qam 67 ?_);refine Xl 67 w7.heap.size 0 67 (tilC v) (tilC v) HV8.out underlying67 (QaR _) (Qaf _) ?_)
     | ((with_reducible refine Qab 67 ?_);refine Xs 67 (w.heap.size + 1) 5 69 (eraC { eraZ with off := y,kind := 1,save := n,format := x4 }) (tilC v) (eraC { eraZ with off := y,kind := 1,save := n,format := x4,til := v }) HX8.out (QaR _) (Qaz _) (Qg1 _ _) ?_;intro w9 hf hb;have HX9 := Xi hb;have HZ9 := Xo hf HZ8;have HF9 := Xn HF8 hf;clear hf hb HX8 HZ8 HF8)
     | ((with_reducible refine Qam 69 ?_);refine Xl 69 (w.heap.size + 1) 0 69 (eraC { eraZ with off := y,kind := 1,save := n,format := x4,til := v }) (eraC { eraZ with off := y,kind := 1,save := n,format := x4,til := v }) HX9.out underlying69 (QaK _) (Qaf _) ?_)
     | ((with_reducible refine Qab 69 ?_);refine Xs 69 w.heap.size 0 69 (eraC eraZ) (eraC { eraZ with off := y,kind := 1,save := n,format := x4,til := v }) (eraC { eraZ with off := y,kind := 1,save := n,format := x4,til := v }) HZ9.out (QaK _) (Qax _) (Qbs _ _) ?_;intro w9 hf9 hb9;have HE9 := Xi hb9;have HF9 := Xn HF9 hf9;clear hf9 hb9))
    (try simp only [Exit.inBlock,Exit.then]);exact bodyPost_ret (Qao _ _ _ _ 0 0 rfl rfl rfl HE9.out) rfl ⟨HF9.out,rfl⟩
  have hR := HR.out;simp only [if_neg hn,Qan] at hR;subst hR;have n4 : (fs.length : Int) ≤ 5 := by omega
  go_wp2_with (first
   | ((with_reducible refine Qab 9 ?_);refine Xc 9 (w.heap.size + 1) 4 69 (eraC { eraZ with off := y,kind := 1,save := n }) (eraC { eraZ with off := y,kind := 1,save := n,format := x4 }) (strV x4) HX5.out QaN (Qdw _ _) ?_;intro w6 hf hb;have HX6 := Xi hb;have HZ6 := Xo hf HZ5;have HF6 := Xn HF5 hf;clear hf hb HX5 HZ5 HF5)
   | ((with_reducible refine Qam 69 ?_);refine Xl 69 (w.heap.size + 1) 0 69 (eraC { eraZ with off := y,kind := 1,save := n,format := x4 }) (eraC { eraZ with off := y,kind := 1,save := n,format := x4 }) HX6.out underlying69 (QaK _) (Qaf _) ?_)
   | ((with_reducible refine Qab 69 ?_);refine Xs 69 w.heap.size 0 69 (eraC eraZ) (eraC { eraZ with off := y,kind := 1,save := n,format := x4 }) (eraC { eraZ with off := y,kind := 1,save := n,format := x4 }) HZ6.out (QaK _) (Qax _) (Qbs _ _) ?_;intro w9 hf9 hb9;have HE9 := Xi hb9;have HF9 := Xn HF6 hf9;clear hf9 hb9))
  (try simp only [Exit.inBlock,Exit.then]);exact bodyPost_ret (Qao _ _ _ _ 0 0 rfl rfl rfl HE9.out) rfl ⟨HF9.out,rfl⟩
end Go.Proofs.YtodcnbejnchmhaaGreatDoor
