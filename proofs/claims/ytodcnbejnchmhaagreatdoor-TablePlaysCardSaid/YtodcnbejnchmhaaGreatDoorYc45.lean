import Derived.Test.YtodcnbejnchmhaaGreatDoorYc44
import Derived.Test.YtodcnbejnchmhaaGreatDoorYc42
import Derived.Test.YtodcnbejnchmhaaGreatDoorYc36
set_option maxRecDepth 100000
set_option maxHeartbeats 6400000
namespace Go.Proofs.YtodcnbejnchmhaaGreatDoor
open _root_.Go.Proofs.Tryz
open Go.RowKit Go.Mem Go.Lin

/-- what the reference tells of fields: a value,or the place of what is wrong and why (beside it some value) -/
def LnR {α : Type} (C : α → Array Value) (d : Int) (R : Except Er α) (w : World) (e : Ending) (w' : World) : Prop := Fr w w' (fun _ => False) ∧ match R with
 | .ok u => e = .returned (.tuple #[.agg (C u),intV 0,intV d])
 | .error x => ∃ u,e = .returned (.tuple #[.agg (C u),intV x.2,intV (x.1 : Int)])
theorem Qai {W : World} {b off : Nat} {fs : List Qat} (h : S7.FdAt W (some ⟨b,off,none⟩) fs) {k : Nat} (hk : k < fs.length) : W.cell? ⟨b,off + k * 2,none⟩ = some (strV (gt (fs.map (·.1)) k)) ∧ W.cell? ⟨b,off + k * 2 + 1,none⟩ = some (intV (QbW fs k)) := by
 obtain ⟨b',off',x,e,hx,h1,h2⟩ := h.at_ hk;injection e with e;injection e with e1 e2;subst e1 e2;have hg : gt (fs.map (·.1)) k = x.1 := by
  unfold gt;rw [List.getD_eq_getElem?_getD,List.getElem?_map,hx];rfl
 have hc : QbW fs k = (x.2 : Int) := by
  unfold QbW;rw [List.getD_eq_getElem?_getD,hx];rfl
 rw [hg,hc];exact ⟨h1,h2⟩
theorem Qav (tmps : Array Value) (w : World) (q : Nat) (x : UntilL) (k i : Int) (h4 : tmps.getD 4 undef = .pointer (some ⟨q,0,none⟩)) (h5 : tmps.getD 5 undef = intV k) (h6 : tmps.getD 6 undef = intV i)
  (hb : Blk w q 67 (tilC x)) : (results f74 tmps).run Tryz.prog w = .ok (.tuple #[.agg (tilC x),intV k,intV i]) w := by
 have h4' : tmps[4]?.getD undef = .pointer (some ⟨q,0,none⟩) := by simpa using h4
 have h5' : tmps[5]?.getD undef = intV k := by simpa using h5
 have h6' : tmps[6]?.getD undef = intV i := by simpa using h6
 have hL := run_loadVar_row w q 67 67 (tilC x) (0,0) _ hb underlying67 rfl (QaR x);simp [results,Tryz.results74,h4',h5',h6',asAddr,hL]
theorem runtil_3 (fs : List Qat) (hz : ∀ k,(gt (fs.map (·.1)) k).length ≤ 900) (h1 : 3 < fs.length) (h2 : fs.length ≤ 7) (b off c : Nat) (w : World) (hfd : S7.FdAt w (some ⟨b,off,none⟩) fs) : Calls Tryz.prog 74 #[.slice (some ⟨b,off,none⟩) fs.length c,intV 3] w (LnR tilC 0 (Qcs (fs.map (·.1)) 3) w) := by
 obtain ⟨R,hR⟩ : ∃ R,Qcs (fs.map (·.1)) 3 = R := ⟨_,rfl⟩;rw [hR];unfold Qcs QdG QgD QeT at hR;simp only [Nat.reduceAdd,List.length_map] at hR;obtain ⟨x3,hx3⟩ : ∃ x,gt (fs.map (·.1)) 3 = x := ⟨_,rfl⟩;have hg3 := hz 3;rw [hx3] at hg3;simp only [hx3] at hR;have Q3 := Xi hx3;clear hx3;obtain ⟨x4,hx4⟩ : ∃ x,gt (fs.map (·.1)) 4 = x := ⟨_,rfl⟩;have hg4 := hz 4;rw [hx4] at hg4;simp only [hx4] at hR;have Q4 := Xi hx4;clear hx4;obtain ⟨x5,hx5⟩ : ∃ x,gt (fs.map (·.1)) 5 = x := ⟨_,rfl⟩;have hg5 := hz 5;rw [hx5] at hg5;simp only [hx5] at hR;have Q5 := Xi hx5;clear hx5;obtain ⟨x6,hx6⟩ : ∃ x,gt (fs.map (·.1)) 6 = x := ⟨_,rfl⟩;have hg6 := hz 6;rw [hx6] at hg6;simp only [hx6] at hR;have Q6 := Xi hx6;clear hx6;have HR := Xi hR;have HD := Xi hfd;have hf1 := Fr.new w (.cells Z01 67) (fun _ => False);have s1 : (w.alloc (.cells Z01 67)).heap.size = w.heap.size + 1 := by simp
 have hf2 := Fr.new (w.alloc (.cells Z01 67)) (.cells Z01 67) (fun _ => False);have hm := Blk.made (w.alloc (.cells Z01 67)) 67 Z01;rw [s1] at hm;have HM := Xi (show Blk _ (w.heap.size + 1) 67 (tilC tilZ) from hm);have HZa := Xi (show Blk _ w.heap.size 67 (tilC tilZ) from hf2.blk (Blk.made w 67 Z01) (fun h => h));have HFa := Xi (ff hf1 hf2);have n1 : (3 : Int) < (fs.length : Int) := by omega
 clear hf1 s1 hf2 hm hR hz hfd;go_enter func74,ntmps74;go_wp2_with (first
  | ((with_reducible refine Qab 67 ?_);refine Xs 67 (w.heap.size + 1) 0 67 (tilC tilZ) (tilC Qau) (tilC Qau) HM.out (QaR _) (Qaz _) (QbX _ _) ?_;intro w0 hf0 hb0;have HX0 := Xi hb0;have HZ0 := Xo hf0 HZa;have HF0 := Xn HFa hf0;have ck3 := (Qai (HD.out.fr HF0.out) (k := 3) (by omega)).1;simp only [Nat.reduceMul] at ck3;rw [Q3.out] at ck3;clear hf0 hb0 HZa HFa HM))
 clear ck3;rcases (QdA x3).symm with ⟨hv,hp⟩ | ⟨y,hv,hp⟩
 ·have hR := HR.out;rw [hp] at hR;simp only [QaH,Qap] at hR;subst hR;refine (Qdu x3 hg3 _ _ _ hv).mono ?_;rintro e w1 ⟨rfl,hf⟩;have HX1 := Xb hf HX0;have HZ1 := Xb hf HZ0;have HF1 := Xf HF0 hf;clear hf HX0 HZ0 HF0;go_wp2_with (first
   | ((with_reducible refine Qam 67 ?_);refine Xl 67 (w.heap.size + 1) 0 67 (tilC Qau) (tilC Qau) HX1.out underlying67 (QaR _) (Qaf _) ?_)
   | ((with_reducible refine Qab 67 ?_);refine Xs 67 w.heap.size 0 67 (tilC tilZ) (tilC Qau) (tilC Qau) HZ1.out (QaR _) (Qaz _) (QbX _ _) ?_;intro w9 hf9 hb9;have HE9 := Xi hb9;have HF9 := Xn HF1 hf9;clear hf9 hb9))
  (try simp only [Exit.inBlock,Exit.then]);exact bodyPost_ret (Qav _ _ _ _ 8 3 rfl rfl rfl HE9.out) rfl ⟨HF9.out,⟨Qau,rfl⟩⟩
 have hR := HR.out;rw [hp] at hR;simp only [QaD,Qan] at hR;have HR := Xi hR;clear hR;refine (Qdu x3 hg3 _ _ _ hv).mono ?_;rintro e w1 ⟨rfl,hf⟩;have HX1 := Xb hf HX0;have HZ1 := Xb hf HZ0;have HF1 := Xf HF0 hf;clear hf HX0 HZ0 HF0;clear hv hp;by_cases hn1 : 4 < fs.length
 ·have hR := HR.out;simp only [if_pos hn1] at hR;have HR := Xi hR;clear hR;have n2 : (4 : Int) < (fs.length : Int) := by omega
  go_wp2_with (first
   | ((with_reducible refine Qab 3 ?_);refine Xc 3 (w.heap.size + 1) 1 67 (tilC Qau) (tilC { Qau with year := y }) (intV y) HX1.out QaE (Qjy _ _) ?_;intro w2 hf hb;have HX2 := Xi hb;have HZ2 := Xo hf HZ1;have HF2 := Xn HF1 hf;have ck4 := (Qai (HD.out.fr HF2.out) (k := 4) (by omega)).1;simp only [Nat.reduceMul] at ck4;rw [Q4.out] at ck4;clear hf hb HX1 HZ1 HF1))
  clear ck4;obtain ⟨n,hm⟩ : ∃ n : Nat,Go.Kwd.Qcw x4 = n := ⟨_,rfl⟩;by_cases hn0 : n = 0
  ·subst hn0;have hp : Qb2 x4 = none := by unfold Qb2; rw [hm]; rfl
   have hR := HR.out;rw [hp] at hR;simp only [QaH,Qap] at hR;subst hR;refine (QcX x4 hg4 _ 0 hm).mono ?_;rintro e w3 ⟨rfl,hf⟩;have HX3 := Xb hf HX2;have HZ3 := Xb hf HZ2;have HF3 := Xf HF2 hf;clear hf HX2 HZ2 HF2;go_wp2_with (first
    | ((with_reducible refine Qab 3 ?_);refine Xc 3 (w.heap.size + 1) 2 67 (tilC { Qau with year := y }) (tilC { Qau with year := y,month := 0 }) (intV 0) HX3.out QaE (Qg0 _ _) ?_;intro w4 hf hb;have HX4 := Xi hb;have HZ4 := Xo hf HZ3;have HF4 := Xn HF3 hf;have cm : w4.cell? ⟨w.heap.size + 1,2,none⟩ = some (intV 0) := blkc hb 2 _ rfl;clear hf hb HX3 HZ3 HF3)
    | ((with_reducible refine Qam 67 ?_);refine Xl 67 (w.heap.size + 1) 0 67 (tilC { Qau with year := y,month := 0 }) (tilC { Qau with year := y,month := 0 }) HX4.out underlying67 (QaR _) (Qaf _) ?_)
    | ((with_reducible refine Qab 67 ?_);refine Xs 67 w.heap.size 0 67 (tilC tilZ) (tilC { Qau with year := y,month := 0 }) (tilC { Qau with year := y,month := 0 }) HZ4.out (QaR _) (Qaz _) (QbX _ _) ?_;intro w9 hf9 hb9;have HE9 := Xi hb9;have HF9 := Xn HF4 hf9;clear hf9 hb9))
   (try simp only [Exit.inBlock,Exit.then]);exact bodyPost_ret (Qav _ _ _ _ 6 4 rfl rfl rfl HE9.out) rfl ⟨HF9.out,⟨{ Qau with year := y,month := 0 },rfl⟩⟩
  have hp : Qb2 x4 = some (n : Int) := by unfold Qb2; rw [hm,if_neg hn0]
  have hR := HR.out;rw [hp] at hR;simp only [QaD,Qan] at hR;have HR := Xi hR;clear hR;refine (QcX x4 hg4 _ n hm).mono ?_;rintro e w3 ⟨rfl,hf⟩;have HX3 := Xb hf HX2;have HZ3 := Xb hf HZ2;have HF3 := Xf HF2 hf;clear hf HX2 HZ2 HF2;have hn00 : ((n : Int) == 0) = false := by rw [beq_eq_false_iff_ne]; omega
  clear hm hp hn0;by_cases hn2 : 5 < fs.length
  ·have hR := HR.out;simp only [if_pos hn2] at hR;have HR := Xi hR;clear hR;have n3 : (5 : Int) < (fs.length : Int) := by omega
   go_wp2_with (first
    | ((with_reducible refine Qab 3 ?_);refine Xc 3 (w.heap.size + 1) 2 67 (tilC { Qau with year := y }) (tilC { Qau with year := y,month := (n : Int) }) (intV (n : Int)) HX3.out QaE (Qg0 _ _) ?_;intro w4 hf hb;have HX4 := Xi hb;have HZ4 := Xo hf HZ3;have HF4 := Xn HF3 hf;have ck5 := (Qai (HD.out.fr HF4.out) (k := 5) (by omega)).1;simp only [Nat.reduceMul] at ck5;rw [Q5.out] at ck5;have cm : w4.cell? ⟨w.heap.size + 1,2,none⟩ = some (intV (n : Int)) := blkc hb 2 _ rfl;clear hf hb HX3 HZ3 HF3))
   clear ck5 cm hn00;obtain ⟨d,hv⟩ : ∃ d,dayW x5 = d := ⟨_,rfl⟩;obtain ⟨d,k⟩ := d;have hdc : (k = 0 ∧ dayP x5 = some d) ∨ (k = 6 ∧ dayP x5 = none) := by
    unfold dayW at hv;cases hp : dayP x5 with
    | none => rw [hp] at hv; obtain ⟨rfl,rfl⟩ := Prod.mk.inj hv; exact .inr ⟨rfl,rfl⟩
    | some x => rw [hp] at hv; obtain ⟨rfl,rfl⟩ := Prod.mk.inj hv; exact .inl ⟨rfl,rfl⟩
   rcases hdc.symm with ⟨rfl,hp⟩ | ⟨rfl,hp⟩
   ·have hR := HR.out;rw [hp] at hR;simp only [QaH,Qap] at hR;subst hR;refine (Qex x5 hg5 _ d _ hv).mono ?_;rintro e w5 ⟨rfl,hf⟩;have HX5 := Xb hf HX4;have HZ5 := Xb hf HZ4;have HF5 := Xf HF4 hf;clear hf HX4 HZ4 HF4;go_wp2_with (first
     | ((with_reducible refine Qab 61 ?_);refine Xs 61 w5.heap.size 0 61 (dayC dayZ) (dayC d) (dayC d) (Blk.made w5 61 #[intV 0,intV 0,intV 0]) (Qcb _) (Qbq _) (QaG rfl) ?_;intro w6 hf hb;have hf' := (Fr.new w5 (.cells #[intV 0,intV 0,intV 0] 61) (fun _ => False)).fresh hf (fun i e => by omega);have HX6 := Xi (hf'.blk HX5.out (fun h => h));have HZ6 := Xi (hf'.blk HZ5.out (fun h => h));have HF6 := Xi (ff HF5.out hf');have HV6 := Xi hb;clear hf hb hf' HX5 HZ5 HF5)
     | ((with_reducible refine Qam 67 ?_);refine Xl 67 (w.heap.size + 1) 0 67 (tilC { Qau with year := y,month := (n : Int) }) (tilC { Qau with year := y,month := (n : Int) }) HX6.out underlying67 (QaR _) (Qaf _) ?_)
     | ((with_reducible refine Qab 67 ?_);refine Xs 67 w.heap.size 0 67 (tilC tilZ) (tilC { Qau with year := y,month := (n : Int) }) (tilC { Qau with year := y,month := (n : Int) }) HZ6.out (QaR _) (Qaz _) (QbX _ _) ?_;intro w9 hf9 hb9;have HE9 := Xi hb9;have HF9 := Xn HF6 hf9;clear hf9 hb9))
    (try simp only [Exit.inBlock,Exit.then]);exact bodyPost_ret (Qav _ _ _ _ 6 5 rfl rfl rfl HE9.out) rfl ⟨HF9.out,⟨{ Qau with year := y,month := (n : Int) },rfl⟩⟩
   have hdk := QdD hp;have hR := HR.out;rw [hp] at hR;simp only [QaD,Qan] at hR;have HR := Xi hR;clear hR;refine (Qex x5 hg5 _ d _ hv).mono ?_;rintro e w5 ⟨rfl,hf⟩;have HX5 := Xb hf HX4;have HZ5 := Xb hf HZ4;have HF5 := Xf HF4 hf;clear hf HX4 HZ4 HF4;clear hv hp hdc;go_wp2_with (first
    | ((with_reducible refine Qab 61 ?_);refine Xs 61 w5.heap.size 0 61 (dayC dayZ) (dayC d) (dayC d) (Blk.made w5 61 #[intV 0,intV 0,intV 0]) (Qcb _) (Qbq _) (QaG rfl) ?_;intro w6 hf hb;have hf' := (Fr.new w5 (.cells #[intV 0,intV 0,intV 0] 61) (fun _ => False)).fresh hf (fun i e => by omega);have HX6 := Xi (hf'.blk HX5.out (fun h => h));have HZ6 := Xi (hf'.blk HZ5.out (fun h => h));have HF6 := Xi (ff HF5.out hf');have HV6 := Xi hb;have cy : w6.cell? ⟨w.heap.size + 1,1,none⟩ = some (intV y) := blkc HX6.out 1 _ rfl;have cm : w6.cell? ⟨w.heap.size + 1,2,none⟩ = some (intV (n : Int)) := blkc HX6.out 2 _ rfl;clear hf hb hf' HX5 HZ5 HF5)
    | ((with_reducible refine Qam 61 ?_);refine Xl 61 w5.heap.size 0 61 (dayC d) (dayC d) HV6.out underlying61 (Qcb _) (Qaf _) ?_))
   clear cy cm;obtain ⟨q,hq⟩ : ∃ q,canB d y (n : Int) = q := ⟨_,rfl⟩;have HO := Xi (fun W => QkF d hdk y (n : Int) W);rw [hq] at HO;have hR := HR.out;rw [hq] at hR;clear hq HR;cases q with
   | false =>
    simp only [Qa5,Qap] at hR;subst hR;refine (HO.out _).mono ?_;rintro e w7 ⟨n9,rfl,hf⟩;have HX7 := Xb hf HX6;have HZ7 := Xb hf HZ6;have HF7 := Xf HF6 hf;clear hf HX6 HZ6 HF6;go_wp2_with (first
     | ((with_reducible refine Qam 67 ?_);refine Xl 67 (w.heap.size + 1) 0 67 (tilC { Qau with year := y,month := (n : Int) }) (tilC { Qau with year := y,month := (n : Int) }) HX7.out underlying67 (QaR _) (Qaf _) ?_)
     | ((with_reducible refine Qab 67 ?_);refine Xs 67 w.heap.size 0 67 (tilC tilZ) (tilC { Qau with year := y,month := (n : Int) }) (tilC { Qau with year := y,month := (n : Int) }) HZ7.out (QaR _) (Qaz _) (QbX _ _) ?_;intro w9 hf9 hb9;have HE9 := Xi hb9;have HF9 := Xn HF7 hf9;clear hf9 hb9))
    (try simp only [Exit.inBlock,Exit.then]);exact bodyPost_ret (Qav _ _ _ _ 6 5 rfl rfl rfl HE9.out) rfl ⟨HF9.out,⟨{ Qau with year := y,month := (n : Int) },rfl⟩⟩
   | true =>
    simp only [Qbr,Qan] at hR;have HR := Xi hR;clear hR;refine (HO.out _).mono ?_;rintro e w7 ⟨n9,rfl,hf⟩;have HX7 := Xb hf HX6;have HZ7 := Xb hf HZ6;have HF7 := Xf HF6 hf;have HV7 := Xb hf HV6;have hs7 := hf.size;have hs6 := HV6.out.lt;clear hf HX6 HZ6 HF6;by_cases hn3 : 6 < fs.length
    ·have hR := HR.out;simp only [if_pos hn3] at hR;have HR := Xi hR;clear hR;have n4 : (6 : Int) < (fs.length : Int) := by omega
     go_wp2_with (first
      | ((with_reducible refine Qam 61 ?_);refine Xl 61 w5.heap.size 0 61 (dayC d) (dayC d) HV7.out underlying61 (Qcb _) (Qaf _) ?_)
      | ((with_reducible refine Qab 61 ?_);refine Xs 61 (w.heap.size + 1) 3 67 (tilC { Qau with year := y,month := (n : Int) }) (dayC d) (tilC { Qau with year := y,month := (n : Int),on := d }) HX7.out (Qcb _) (Qbq _) (Ql9 _ _) ?_;intro w8 hf hb;have HX8 := Xi hb;have HZ8 := Xo hf HZ7;have HF8 := Xn HF7 hf;have ck6 := (Qai (HD.out.fr HF8.out) (k := 6) (by omega)).1;simp only [Nat.reduceMul] at ck6;rw [Q6.out] at ck6;clear hf hb HX7 HZ7 HF7))
     clear ck6;rcases (Qdr x6).symm with ⟨hv,hp⟩ | ⟨t,hv,hp⟩
     ·have hR := HR.out;rw [hp] at hR;simp only [QaH,Qap] at hR;subst hR;refine (Qbu x6 hg6 _ _ _ hv).mono ?_;rintro e w9 ⟨rfl,hf⟩;have HX9 := Xb hf HX8;have HZ9 := Xb hf HZ8;have HF9 := Xf HF8 hf;clear hf HX8 HZ8 HF8;go_wp2_with (first
       | ((with_reducible refine Qab 63 ?_);refine Xs 63 w9.heap.size 0 63 (atC atZ) (atC atZ) (atC atZ) (Blk.made w9 63 #[intV 0,intV 0]) (Qeg _) (QcH _) (QaG rfl) ?_;intro w10 hf hb;have hf' := (Fr.new w9 (.cells #[intV 0,intV 0] 63) (fun _ => False)).fresh hf (fun i e => by omega);have HX10 := Xi (hf'.blk HX9.out (fun h => h));have HZ10 := Xi (hf'.blk HZ9.out (fun h => h));have HF10 := Xi (ff HF9.out hf');have HV10 := Xi hb;clear hf hb hf' HX9 HZ9 HF9)
       | ((with_reducible refine Qam 67 ?_);refine Xl 67 (w.heap.size + 1) 0 67 (tilC { Qau with year := y,month := (n : Int),on := d }) (tilC { Qau with year := y,month := (n : Int),on := d }) HX10.out underlying67 (QaR _) (Qaf _) ?_)
       | ((with_reducible refine Qab 67 ?_);refine Xs 67 w.heap.size 0 67 (tilC tilZ) (tilC { Qau with year := y,month := (n : Int),on := d }) (tilC { Qau with year := y,month := (n : Int),on := d }) HZ10.out (QaR _) (Qaz _) (QbX _ _) ?_;intro w9 hf9 hb9;have HE9 := Xi hb9;have HF9 := Xn HF10 hf9;clear hf9 hb9))
      (try simp only [Exit.inBlock,Exit.then]);exact bodyPost_ret (Qav _ _ _ _ 7 6 rfl rfl rfl HE9.out) rfl ⟨HF9.out,⟨{ Qau with year := y,month := (n : Int),on := d },rfl⟩⟩
     have hR := HR.out;rw [hp] at hR;simp only [QaD,Qan] at hR;have HR := Xi hR;clear hR;refine (Qbu x6 hg6 _ _ _ hv).mono ?_;rintro e w9 ⟨rfl,hf⟩;have HX9 := Xb hf HX8;have HZ9 := Xb hf HZ8;have HF9 := Xf HF8 hf;clear hf HX8 HZ8 HF8;clear hv hp;have hR := HR.out;subst hR;go_wp2_with (first
      | ((with_reducible refine Qab 63 ?_);refine Xs 63 w9.heap.size 0 63 (atC atZ) (atC t) (atC t) (Blk.made w9 63 #[intV 0,intV 0]) (Qeg _) (QcH _) (QaG rfl) ?_;intro w10 hf hb;have hf' := (Fr.new w9 (.cells #[intV 0,intV 0] 63) (fun _ => False)).fresh hf (fun i e => by omega);have HX10 := Xi (hf'.blk HX9.out (fun h => h));have HZ10 := Xi (hf'.blk HZ9.out (fun h => h));have HF10 := Xi (ff HF9.out hf');have HV10 := Xi hb;have vw := HV10.out.lt;clear hf hb hf' HX9 HZ9 HF9)
      | ((with_reducible refine Qam 63 ?_);refine Xl 63 w9.heap.size 0 63 (atC t) (atC t) HV10.out underlying63 (Qeg _) (Qaf _) ?_)
      | ((with_reducible refine Qab 63 ?_);refine Xs 63 (w.heap.size + 1) 6 67 (tilC { Qau with year := y,month := (n : Int),on := d }) (atC t) (tilC { Qau with year := y,month := (n : Int),on := d,at_ := t }) HX10.out (Qeg _) (QcH _) (Qph _ _) ?_;intro w11 hf hb;have HX11 := Xi hb;have HZ11 := Xo hf HZ10;have HF11 := Xn HF10 hf;clear hf hb HX10 HZ10 HF10)
      | ((with_reducible refine Qam 67 ?_);refine Xl 67 (w.heap.size + 1) 0 67 (tilC { Qau with year := y,month := (n : Int),on := d,at_ := t }) (tilC { Qau with year := y,month := (n : Int),on := d,at_ := t }) HX11.out underlying67 (QaR _) (Qaf _) ?_)
      | ((with_reducible refine Qab 67 ?_);refine Xs 67 w.heap.size 0 67 (tilC tilZ) (tilC { Qau with year := y,month := (n : Int),on := d,at_ := t }) (tilC { Qau with year := y,month := (n : Int),on := d,at_ := t }) HZ11.out (QaR _) (Qaz _) (QbX _ _) ?_;intro w9 hf9 hb9;have HE9 := Xi hb9;have HF9 := Xn HF11 hf9;clear hf9 hb9))
     (try simp only [Exit.inBlock,Exit.then]);exact bodyPost_ret (Qav _ _ _ _ 0 0 rfl rfl rfl HE9.out) rfl ⟨HF9.out,rfl⟩
    have hR := HR.out;simp only [if_neg hn3,Qan] at hR;have HR := Xi hR;clear hR;have n4 : (fs.length : Int) ≤ 6 := by omega
    have hR := HR.out;subst hR;go_wp2_with (first
     | ((with_reducible refine Qam 61 ?_);refine Xl 61 w5.heap.size 0 61 (dayC d) (dayC d) HV7.out underlying61 (Qcb _) (Qaf _) ?_)
     | ((with_reducible refine Qab 61 ?_);refine Xs 61 (w.heap.size + 1) 3 67 (tilC { Qau with year := y,month := (n : Int) }) (dayC d) (tilC { Qau with year := y,month := (n : Int),on := d }) HX7.out (Qcb _) (Qbq _) (Ql9 _ _) ?_;intro w8 hf hb;have HX8 := Xi hb;have HZ8 := Xo hf HZ7;have HF8 := Xn HF7 hf;clear hf hb HX7 HZ7 HF7)
     | ((with_reducible refine Qam 67 ?_);refine Xl 67 (w.heap.size + 1) 0 67 (tilC { Qau with year := y,month := (n : Int),on := d }) (tilC { Qau with year := y,month := (n : Int),on := d }) HX8.out underlying67 (QaR _) (Qaf _) ?_)
     | ((with_reducible refine Qab 67 ?_);refine Xs 67 w.heap.size 0 67 (tilC tilZ) (tilC { Qau with year := y,month := (n : Int),on := d }) (tilC { Qau with year := y,month := (n : Int),on := d }) HZ8.out (QaR _) (Qaz _) (QbX _ _) ?_;intro w9 hf9 hb9;have HE9 := Xi hb9;have HF9 := Xn HF8 hf9;clear hf9 hb9))
    (try simp only [Exit.inBlock,Exit.then]);exact bodyPost_ret (Qav _ _ _ _ 0 0 rfl rfl rfl HE9.out) rfl ⟨HF9.out,rfl⟩
  have hR := HR.out;simp only [if_neg hn2,if_neg (show ¬ 6 < fs.length by omega),Qan] at hR;have HR := Xi hR;clear hR;have n3 : (fs.length : Int) ≤ 5 := by omega
  have n4 : (fs.length : Int) ≤ 6 := by omega
  have hR := HR.out;subst hR;go_wp2_with (first
   | ((with_reducible refine Qab 3 ?_);refine Xc 3 (w.heap.size + 1) 2 67 (tilC { Qau with year := y }) (tilC { Qau with year := y,month := (n : Int) }) (intV (n : Int)) HX3.out QaE (Qg0 _ _) ?_;intro w4 hf hb;have HX4 := Xi hb;have HZ4 := Xo hf HZ3;have HF4 := Xn HF3 hf;have cm : w4.cell? ⟨w.heap.size + 1,2,none⟩ = some (intV (n : Int)) := blkc hb 2 _ rfl;clear hf hb HX3 HZ3 HF3)
   | ((with_reducible refine Qam 67 ?_);refine Xl 67 (w.heap.size + 1) 0 67 (tilC { Qau with year := y,month := (n : Int) }) (tilC { Qau with year := y,month := (n : Int) }) HX4.out underlying67 (QaR _) (Qaf _) ?_)
   | ((with_reducible refine Qab 67 ?_);refine Xs 67 w.heap.size 0 67 (tilC tilZ) (tilC { Qau with year := y,month := (n : Int) }) (tilC { Qau with year := y,month := (n : Int) }) HZ4.out (QaR _) (Qaz _) (QbX _ _) ?_;intro w9 hf9 hb9;have HE9 := Xi hb9;have HF9 := Xn HF4 hf9;clear hf9 hb9))
  (try simp only [Exit.inBlock,Exit.then]);exact bodyPost_ret (Qav _ _ _ _ 0 0 rfl rfl rfl HE9.out) rfl ⟨HF9.out,rfl⟩
 have hR := HR.out;simp only [if_neg hn1,if_neg (show ¬ 5 < fs.length by omega),if_neg (show ¬ 6 < fs.length by omega),Qan] at hR;have HR := Xi hR;clear hR;have n2 : (fs.length : Int) ≤ 4 := by omega
 have n3 : (fs.length : Int) ≤ 5 := by omega
 have n4 : (fs.length : Int) ≤ 6 := by omega
 have hR := HR.out;subst hR;go_wp2_with (first
  | ((with_reducible refine Qab 3 ?_);refine Xc 3 (w.heap.size + 1) 1 67 (tilC Qau) (tilC { Qau with year := y }) (intV y) HX1.out QaE (Qjy _ _) ?_;intro w2 hf hb;have HX2 := Xi hb;have HZ2 := Xo hf HZ1;have HF2 := Xn HF1 hf;clear hf hb HX1 HZ1 HF1)
  | ((with_reducible refine Qam 67 ?_);refine Xl 67 (w.heap.size + 1) 0 67 (tilC { Qau with year := y }) (tilC { Qau with year := y }) HX2.out underlying67 (QaR _) (Qaf _) ?_)
  | ((with_reducible refine Qab 67 ?_);refine Xs 67 w.heap.size 0 67 (tilC tilZ) (tilC { Qau with year := y }) (tilC { Qau with year := y }) HZ2.out (QaR _) (Qaz _) (QbX _ _) ?_;intro w9 hf9 hb9;have HE9 := Xi hb9;have HF9 := Xn HF2 hf9;clear hf9 hb9))
 (try simp only [Exit.inBlock,Exit.then]);exact bodyPost_ret (Qav _ _ _ _ 0 0 rfl rfl rfl HE9.out) rfl ⟨HF9.out,rfl⟩
theorem runtil_5 (fs : List Qat) (hz : ∀ k,(gt (fs.map (·.1)) k).length ≤ 900) (h1 : 5 < fs.length) (h2 : fs.length ≤ 9) (b off c : Nat) (w : World) (hfd : S7.FdAt w (some ⟨b,off,none⟩) fs) : Calls Tryz.prog 74 #[.slice (some ⟨b,off,none⟩) fs.length c,intV 5] w (LnR tilC 0 (Qcs (fs.map (·.1)) 5) w) := by
 obtain ⟨R,hR⟩ : ∃ R,Qcs (fs.map (·.1)) 5 = R := ⟨_,rfl⟩;rw [hR];unfold Qcs QdG QgD QeT at hR;simp only [Nat.reduceAdd,List.length_map] at hR;obtain ⟨x5,hx5⟩ : ∃ x,gt (fs.map (·.1)) 5 = x := ⟨_,rfl⟩;have hg5 := hz 5;rw [hx5] at hg5;simp only [hx5] at hR;have Q5 := Xi hx5;clear hx5;obtain ⟨x6,hx6⟩ : ∃ x,gt (fs.map (·.1)) 6 = x := ⟨_,rfl⟩;have hg6 := hz 6;rw [hx6] at hg6;simp only [hx6] at hR;have Q6 := Xi hx6;clear hx6;obtain ⟨x7,hx7⟩ : ∃ x,gt (fs.map (·.1)) 7 = x := ⟨_,rfl⟩;have hg7 := hz 7;rw [hx7] at hg7;simp only [hx7] at hR;have Q7 := Xi hx7;clear hx7;obtain ⟨x8,hx8⟩ : ∃ x,gt (fs.map (·.1)) 8 = x := ⟨_,rfl⟩;have hg8 := hz 8;rw [hx8] at hg8;simp only [hx8] at hR;have Q8 := Xi hx8;clear hx8;have HR := Xi hR;have HD := Xi hfd;have hf1 := Fr.new w (.cells Z01 67) (fun _ => False);have s1 : (w.alloc (.cells Z01 67)).heap.size = w.heap.size + 1 := by simp
 have hf2 := Fr.new (w.alloc (.cells Z01 67)) (.cells Z01 67) (fun _ => False);have hm := Blk.made (w.alloc (.cells Z01 67)) 67 Z01;rw [s1] at hm;have HM := Xi (show Blk _ (w.heap.size + 1) 67 (tilC tilZ) from hm);have HZa := Xi (show Blk _ w.heap.size 67 (tilC tilZ) from hf2.blk (Blk.made w 67 Z01) (fun h => h));have HFa := Xi (ff hf1 hf2);have n1 : (5 : Int) < (fs.length : Int) := by omega
 clear hf1 s1 hf2 hm hR hz hfd;go_enter func74,ntmps74;go_wp2_with (first
  | ((with_reducible refine Qab 67 ?_);refine Xs 67 (w.heap.size + 1) 0 67 (tilC tilZ) (tilC Qau) (tilC Qau) HM.out (QaR _) (Qaz _) (QbX _ _) ?_;intro w0 hf0 hb0;have HX0 := Xi hb0;have HZ0 := Xo hf0 HZa;have HF0 := Xn HFa hf0;have ck5 := (Qai (HD.out.fr HF0.out) (k := 5) (by omega)).1;simp only [Nat.reduceMul] at ck5;rw [Q5.out] at ck5;clear hf0 hb0 HZa HFa HM))
 clear ck5;rcases (QdA x5).symm with ⟨hv,hp⟩ | ⟨y,hv,hp⟩
 ·have hR := HR.out;rw [hp] at hR;simp only [QaH,Qap] at hR;subst hR;refine (Qdu x5 hg5 _ _ _ hv).mono ?_;rintro e w1 ⟨rfl,hf⟩;have HX1 := Xb hf HX0;have HZ1 := Xb hf HZ0;have HF1 := Xf HF0 hf;clear hf HX0 HZ0 HF0;go_wp2_with (first
   | ((with_reducible refine Qam 67 ?_);refine Xl 67 (w.heap.size + 1) 0 67 (tilC Qau) (tilC Qau) HX1.out underlying67 (QaR _) (Qaf _) ?_)
   | ((with_reducible refine Qab 67 ?_);refine Xs 67 w.heap.size 0 67 (tilC tilZ) (tilC Qau) (tilC Qau) HZ1.out (QaR _) (Qaz _) (QbX _ _) ?_;intro w9 hf9 hb9;have HE9 := Xi hb9;have HF9 := Xn HF1 hf9;clear hf9 hb9))
  (try simp only [Exit.inBlock,Exit.then]);exact bodyPost_ret (Qav _ _ _ _ 8 5 rfl rfl rfl HE9.out) rfl ⟨HF9.out,⟨Qau,rfl⟩⟩
 have hR := HR.out;rw [hp] at hR;simp only [QaD,Qan] at hR;have HR := Xi hR;clear hR;refine (Qdu x5 hg5 _ _ _ hv).mono ?_;rintro e w1 ⟨rfl,hf⟩;have HX1 := Xb hf HX0;have HZ1 := Xb hf HZ0;have HF1 := Xf HF0 hf;clear hf HX0 HZ0 HF0;clear hv hp;by_cases hn1 : 6 < fs.length
 ·have hR := HR.out;simp only [if_pos hn1] at hR;have HR := Xi hR;clear hR;have n2 : (6 : Int) < (fs.length : Int) := by omega
  go_wp2_with (first
   | ((with_reducible refine Qab 3 ?_);refine Xc 3 (w.heap.size + 1) 1 67 (tilC Qau) (tilC { Qau with year := y }) (intV y) HX1.out QaE (Qjy _ _) ?_;intro w2 hf hb;have HX2 := Xi hb;have HZ2 := Xo hf HZ1;have HF2 := Xn HF1 hf;have ck6 := (Qai (HD.out.fr HF2.out) (k := 6) (by omega)).1;simp only [Nat.reduceMul] at ck6;rw [Q6.out] at ck6;clear hf hb HX1 HZ1 HF1))
  clear ck6;obtain ⟨n,hm⟩ : ∃ n : Nat,Go.Kwd.Qcw x6 = n := ⟨_,rfl⟩;by_cases hn0 : n = 0
  ·subst hn0;have hp : Qb2 x6 = none := by unfold Qb2; rw [hm]; rfl
   have hR := HR.out;rw [hp] at hR;simp only [QaH,Qap] at hR;subst hR;refine (QcX x6 hg6 _ 0 hm).mono ?_;rintro e w3 ⟨rfl,hf⟩;have HX3 := Xb hf HX2;have HZ3 := Xb hf HZ2;have HF3 := Xf HF2 hf;clear hf HX2 HZ2 HF2;go_wp2_with (first
    | ((with_reducible refine Qab 3 ?_);refine Xc 3 (w.heap.size + 1) 2 67 (tilC { Qau with year := y }) (tilC { Qau with year := y,month := 0 }) (intV 0) HX3.out QaE (Qg0 _ _) ?_;intro w4 hf hb;have HX4 := Xi hb;have HZ4 := Xo hf HZ3;have HF4 := Xn HF3 hf;have cm : w4.cell? ⟨w.heap.size + 1,2,none⟩ = some (intV 0) := blkc hb 2 _ rfl;clear hf hb HX3 HZ3 HF3)
    | ((with_reducible refine Qam 67 ?_);refine Xl 67 (w.heap.size + 1) 0 67 (tilC { Qau with year := y,month := 0 }) (tilC { Qau with year := y,month := 0 }) HX4.out underlying67 (QaR _) (Qaf _) ?_)
    | ((with_reducible refine Qab 67 ?_);refine Xs 67 w.heap.size 0 67 (tilC tilZ) (tilC { Qau with year := y,month := 0 }) (tilC { Qau with year := y,month := 0 }) HZ4.out (QaR _) (Qaz _) (QbX _ _) ?_;intro w9 hf9 hb9;have HE9 := Xi hb9;have HF9 := Xn HF4 hf9;clear hf9 hb9))
   (try simp only [Exit.inBlock,Exit.then]);exact bodyPost_ret (Qav _ _ _ _ 6 6 rfl rfl rfl HE9.out) rfl ⟨HF9.out,⟨{ Qau with year := y,month := 0 },rfl⟩⟩
  have hp : Qb2 x6 = some (n : Int) := by unfold Qb2; rw [hm,if_neg hn0]
  have hR := HR.out;rw [hp] at hR;simp only [QaD,Qan] at hR;have HR := Xi hR;clear hR;refine (QcX x6 hg6 _ n hm).mono ?_;rintro e w3 ⟨rfl,hf⟩;have HX3 := Xb hf HX2;have HZ3 := Xb hf HZ2;have HF3 := Xf HF2 hf;clear hf HX2 HZ2 HF2;have hn00 : ((n : Int) == 0) = false := by rw [beq_eq_false_iff_ne]; omega
  clear hm hp hn0;by_cases hn2 : 7 < fs.length
  ·have hR := HR.out;simp only [if_pos hn2] at hR;have HR := Xi hR;clear hR;have n3 : (7 : Int) < (fs.length : Int) := by omega
   go_wp2_with (first
    | ((with_reducible refine Qab 3 ?_);refine Xc 3 (w.heap.size + 1) 2 67 (tilC { Qau with year := y }) (tilC { Qau with year := y,month := (n : Int) }) (intV (n : Int)) HX3.out QaE (Qg0 _ _) ?_;intro w4 hf hb;have HX4 := Xi hb;have HZ4 := Xo hf HZ3;have HF4 := Xn HF3 hf;have ck7 := (Qai (HD.out.fr HF4.out) (k := 7) (by omega)).1;simp only [Nat.reduceMul] at ck7;rw [Q7.out] at ck7;have cm : w4.cell? ⟨w.heap.size + 1,2,none⟩ = some (intV (n : Int)) := blkc hb 2 _ rfl;clear hf hb HX3 HZ3 HF3))
   clear ck7 cm hn00;obtain ⟨d,hv⟩ : ∃ d,dayW x7 = d := ⟨_,rfl⟩;obtain ⟨d,k⟩ := d;have hdc : (k = 0 ∧ dayP x7 = some d) ∨ (k = 6 ∧ dayP x7 = none) := by
    unfold dayW at hv;cases hp : dayP x7 with
    | none => rw [hp] at hv; obtain ⟨rfl,rfl⟩ := Prod.mk.inj hv; exact .inr ⟨rfl,rfl⟩
    | some x => rw [hp] at hv; obtain ⟨rfl,rfl⟩ := Prod.mk.inj hv; exact .inl ⟨rfl,rfl⟩
   rcases hdc.symm with ⟨rfl,hp⟩ | ⟨rfl,hp⟩
   ·have hR := HR.out;rw [hp] at hR;simp only [QaH,Qap] at hR;subst hR;refine (Qex x7 hg7 _ d _ hv).mono ?_;rintro e w5 ⟨rfl,hf⟩;have HX5 := Xb hf HX4;have HZ5 := Xb hf HZ4;have HF5 := Xf HF4 hf;clear hf HX4 HZ4 HF4;go_wp2_with (first
     | ((with_reducible refine Qab 61 ?_);refine Xs 61 w5.heap.size 0 61 (dayC dayZ) (dayC d) (dayC d) (Blk.made w5 61 #[intV 0,intV 0,intV 0]) (Qcb _) (Qbq _) (QaG rfl) ?_;intro w6 hf hb;have hf' := (Fr.new w5 (.cells #[intV 0,intV 0,intV 0] 61) (fun _ => False)).fresh hf (fun i e => by omega);have HX6 := Xi (hf'.blk HX5.out (fun h => h));have HZ6 := Xi (hf'.blk HZ5.out (fun h => h));have HF6 := Xi (ff HF5.out hf');have HV6 := Xi hb;clear hf hb hf' HX5 HZ5 HF5)
     | ((with_reducible refine Qam 67 ?_);refine Xl 67 (w.heap.size + 1) 0 67 (tilC { Qau with year := y,month := (n : Int) }) (tilC { Qau with year := y,month := (n : Int) }) HX6.out underlying67 (QaR _) (Qaf _) ?_)
     | ((with_reducible refine Qab 67 ?_);refine Xs 67 w.heap.size 0 67 (tilC tilZ) (tilC { Qau with year := y,month := (n : Int) }) (tilC { Qau with year := y,month := (n : Int) }) HZ6.out (QaR _) (Qaz _) (QbX _ _) ?_;intro w9 hf9 hb9;have HE9 := Xi hb9;have HF9 := Xn HF6 hf9;clear hf9 hb9))
    (try simp only [Exit.inBlock,Exit.then]);exact bodyPost_ret (Qav _ _ _ _ 6 7 rfl rfl rfl HE9.out) rfl ⟨HF9.out,⟨{ Qau with year := y,month := (n : Int) },rfl⟩⟩
   have hdk := QdD hp;have hR := HR.out;rw [hp] at hR;simp only [QaD,Qan] at hR;have HR := Xi hR;clear hR;refine (Qex x7 hg7 _ d _ hv).mono ?_;rintro e w5 ⟨rfl,hf⟩;have HX5 := Xb hf HX4;have HZ5 := Xb hf HZ4;have HF5 := Xf HF4 hf;clear hf HX4 HZ4 HF4;clear hv hp hdc;go_wp2_with (first
    | ((with_reducible refine Qab 61 ?_);refine Xs 61 w5.heap.size 0 61 (dayC dayZ) (dayC d) (dayC d) (Blk.made w5 61 #[intV 0,intV 0,intV 0]) (Qcb _) (Qbq _) (QaG rfl) ?_;intro w6 hf hb;have hf' := (Fr.new w5 (.cells #[intV 0,intV 0,intV 0] 61) (fun _ => False)).fresh hf (fun i e => by omega);have HX6 := Xi (hf'.blk HX5.out (fun h => h));have HZ6 := Xi (hf'.blk HZ5.out (fun h => h));have HF6 := Xi (ff HF5.out hf');have HV6 := Xi hb;have cy : w6.cell? ⟨w.heap.size + 1,1,none⟩ = some (intV y) := blkc HX6.out 1 _ rfl;have cm : w6.cell? ⟨w.heap.size + 1,2,none⟩ = some (intV (n : Int)) := blkc HX6.out 2 _ rfl;clear hf hb hf' HX5 HZ5 HF5)
    | ((with_reducible refine Qam 61 ?_);refine Xl 61 w5.heap.size 0 61 (dayC d) (dayC d) HV6.out underlying61 (Qcb _) (Qaf _) ?_))
   clear cy cm;obtain ⟨q,hq⟩ : ∃ q,canB d y (n : Int) = q := ⟨_,rfl⟩;have HO := Xi (fun W => QkF d hdk y (n : Int) W);rw [hq] at HO;have hR := HR.out;rw [hq] at hR;clear hq HR;cases q with
   | false =>
    simp only [Qa5,Qap] at hR;subst hR;refine (HO.out _).mono ?_;rintro e w7 ⟨n9,rfl,hf⟩;have HX7 := Xb hf HX6;have HZ7 := Xb hf HZ6;have HF7 := Xf HF6 hf;clear hf HX6 HZ6 HF6;go_wp2_with (first
     | ((with_reducible refine Qam 67 ?_);refine Xl 67 (w.heap.size + 1) 0 67 (tilC { Qau with year := y,month := (n : Int) }) (tilC { Qau with year := y,month := (n : Int) }) HX7.out underlying67 (QaR _) (Qaf _) ?_)
     | ((with_reducible refine Qab 67 ?_);refine Xs 67 w.heap.size 0 67 (tilC tilZ) (tilC { Qau with year := y,month := (n : Int) }) (tilC { Qau with year := y,month := (n : Int) }) HZ7.out (QaR _) (Qaz _) (QbX _ _) ?_;intro w9 hf9 hb9;have HE9 := Xi hb9;have HF9 := Xn HF7 hf9;clear hf9 hb9))
    (try simp only [Exit.inBlock,Exit.then]);exact bodyPost_ret (Qav _ _ _ _ 6 7 rfl rfl rfl HE9.out) rfl ⟨HF9.out,⟨{ Qau with year := y,month := (n : Int) },rfl⟩⟩
   | true =>
    simp only [Qbr,Qan] at hR;have HR := Xi hR;clear hR;refine (HO.out _).mono ?_;rintro e w7 ⟨n9,rfl,hf⟩;have HX7 := Xb hf HX6;have HZ7 := Xb hf HZ6;have HF7 := Xf HF6 hf;have HV7 := Xb hf HV6;have hs7 := hf.size;have hs6 := HV6.out.lt;clear hf HX6 HZ6 HF6;by_cases hn3 : 8 < fs.length
    ·have hR := HR.out;simp only [if_pos hn3] at hR;have HR := Xi hR;clear hR;have n4 : (8 : Int) < (fs.length : Int) := by omega
     go_wp2_with (first
      | ((with_reducible refine Qam 61 ?_);refine Xl 61 w5.heap.size 0 61 (dayC d) (dayC d) HV7.out underlying61 (Qcb _) (Qaf _) ?_)
      | ((with_reducible refine Qab 61 ?_);refine Xs 61 (w.heap.size + 1) 3 67 (tilC { Qau with year := y,month := (n : Int) }) (dayC d) (tilC { Qau with year := y,month := (n : Int),on := d }) HX7.out (Qcb _) (Qbq _) (Ql9 _ _) ?_;intro w8 hf hb;have HX8 := Xi hb;have HZ8 := Xo hf HZ7;have HF8 := Xn HF7 hf;have ck8 := (Qai (HD.out.fr HF8.out) (k := 8) (by omega)).1;simp only [Nat.reduceMul] at ck8;rw [Q8.out] at ck8;clear hf hb HX7 HZ7 HF7))
     clear ck8;rcases (Qdr x8).symm with ⟨hv,hp⟩ | ⟨t,hv,hp⟩
     ·have hR := HR.out;rw [hp] at hR;simp only [QaH,Qap] at hR;subst hR;refine (Qbu x8 hg8 _ _ _ hv).mono ?_;rintro e w9 ⟨rfl,hf⟩;have HX9 := Xb hf HX8;have HZ9 := Xb hf HZ8;have HF9 := Xf HF8 hf;clear hf HX8 HZ8 HF8;go_wp2_with (first
       | ((with_reducible refine Qab 63 ?_);refine Xs 63 w9.heap.size 0 63 (atC atZ) (atC atZ) (atC atZ) (Blk.made w9 63 #[intV 0,intV 0]) (Qeg _) (QcH _) (QaG rfl) ?_;intro w10 hf hb;have hf' := (Fr.new w9 (.cells #[intV 0,intV 0] 63) (fun _ => False)).fresh hf (fun i e => by omega);have HX10 := Xi (hf'.blk HX9.out (fun h => h));have HZ10 := Xi (hf'.blk HZ9.out (fun h => h));have HF10 := Xi (ff HF9.out hf');have HV10 := Xi hb;clear hf hb hf' HX9 HZ9 HF9)
       | ((with_reducible refine Qam 67 ?_);refine Xl 67 (w.heap.size + 1) 0 67 (tilC { Qau with year := y,month := (n : Int),on := d }) (tilC { Qau with year := y,month := (n : Int),on := d }) HX10.out underlying67 (QaR _) (Qaf _) ?_)
       | ((with_reducible refine Qab 67 ?_);refine Xs 67 w.heap.size 0 67 (tilC tilZ) (tilC { Qau with year := y,month := (n : Int),on := d }) (tilC { Qau with year := y,month := (n : Int),on := d }) HZ10.out (QaR _) (Qaz _) (QbX _ _) ?_;intro w9 hf9 hb9;have HE9 := Xi hb9;have HF9 := Xn HF10 hf9;clear hf9 hb9))
      (try simp only [Exit.inBlock,Exit.then]);exact bodyPost_ret (Qav _ _ _ _ 7 8 rfl rfl rfl HE9.out) rfl ⟨HF9.out,⟨{ Qau with year := y,month := (n : Int),on := d },rfl⟩⟩
     have hR := HR.out;rw [hp] at hR;simp only [QaD,Qan] at hR;have HR := Xi hR;clear hR;refine (Qbu x8 hg8 _ _ _ hv).mono ?_;rintro e w9 ⟨rfl,hf⟩;have HX9 := Xb hf HX8;have HZ9 := Xb hf HZ8;have HF9 := Xf HF8 hf;clear hf HX8 HZ8 HF8;clear hv hp;have hR := HR.out;subst hR;go_wp2_with (first
      | ((with_reducible refine Qab 63 ?_);refine Xs 63 w9.heap.size 0 63 (atC atZ) (atC t) (atC t) (Blk.made w9 63 #[intV 0,intV 0]) (Qeg _) (QcH _) (QaG rfl) ?_;intro w10 hf hb;have hf' := (Fr.new w9 (.cells #[intV 0,intV 0] 63) (fun _ => False)).fresh hf (fun i e => by omega);have HX10 := Xi (hf'.blk HX9.out (fun h => h));have HZ10 := Xi (hf'.blk HZ9.out (fun h => h));have HF10 := Xi (ff HF9.out hf');have HV10 := Xi hb;have vw := HV10.out.lt;clear hf hb hf' HX9 HZ9 HF9)
      | ((with_reducible refine Qam 63 ?_);refine Xl 63 w9.heap.size 0 63 (atC t) (atC t) HV10.out underlying63 (Qeg _) (Qaf _) ?_)
      | ((with_reducible refine Qab 63 ?_);refine Xs 63 (w.heap.size + 1) 6 67 (tilC { Qau with year := y,month := (n : Int),on := d }) (atC t) (tilC { Qau with year := y,month := (n : Int),on := d,at_ := t }) HX10.out (Qeg _) (QcH _) (Qph _ _) ?_;intro w11 hf hb;have HX11 := Xi hb;have HZ11 := Xo hf HZ10;have HF11 := Xn HF10 hf;clear hf hb HX10 HZ10 HF10)
      | ((with_reducible refine Qam 67 ?_);refine Xl 67 (w.heap.size + 1) 0 67 (tilC { Qau with year := y,month := (n : Int),on := d,at_ := t }) (tilC { Qau with year := y,month := (n : Int),on := d,at_ := t }) HX11.out underlying67 (QaR _) (Qaf _) ?_)
      | ((with_reducible refine Qab 67 ?_);refine Xs 67 w.heap.size 0 67 (tilC tilZ) (tilC { Qau with year := y,month := (n : Int),on := d,at_ := t }) (tilC { Qau with year := y,month := (n : Int),on := d,at_ := t }) HZ11.out (QaR _) (Qaz _) (QbX _ _) ?_;intro w9 hf9 hb9;have HE9 := Xi hb9;have HF9 := Xn HF11 hf9;clear hf9 hb9))
     (try simp only [Exit.inBlock,Exit.then]);exact bodyPost_ret (Qav _ _ _ _ 0 0 rfl rfl rfl HE9.out) rfl ⟨HF9.out,rfl⟩
    have hR := HR.out;simp only [if_neg hn3,Qan] at hR;have HR := Xi hR;clear hR;have n4 : (fs.length : Int) ≤ 8 := by omega
    have hR := HR.out;subst hR;go_wp2_with (first
     | ((with_reducible refine Qam 61 ?_);refine Xl 61 w5.heap.size 0 61 (dayC d) (dayC d) HV7.out underlying61 (Qcb _) (Qaf _) ?_)
     | ((with_reducible refine Qab 61 ?_);refine Xs 61 (w.heap.size + 1) 3 67 (tilC { Qau with year := y,month := (n : Int) }) (dayC d) (tilC { Qau with year := y,month := (n : Int),on := d }) HX7.out (Qcb _) (Qbq _) (Ql9 _ _) ?_;intro w8 hf hb;have HX8 := Xi hb;have HZ8 := Xo hf HZ7;have HF8 := Xn HF7 hf;clear hf hb HX7 HZ7 HF7)
     | ((with_reducible refine Qam 67 ?_);refine Xl 67 (w.heap.size + 1) 0 67 (tilC { Qau with year := y,month := (n : Int),on := d }) (tilC { Qau with year := y,month := (n : Int),on := d }) HX8.out underlying67 (QaR _) (Qaf _) ?_)
     | ((with_reducible refine Qab 67 ?_);refine Xs 67 w.heap.size 0 67 (tilC tilZ) (tilC { Qau with year := y,month := (n : Int),on := d }) (tilC { Qau with year := y,month := (n : Int),on := d }) HZ8.out (QaR _) (Qaz _) (QbX _ _) ?_;intro w9 hf9 hb9;have HE9 := Xi hb9;have HF9 := Xn HF8 hf9;clear hf9 hb9))
    (try simp only [Exit.inBlock,Exit.then]);exact bodyPost_ret (Qav _ _ _ _ 0 0 rfl rfl rfl HE9.out) rfl ⟨HF9.out,rfl⟩
  have hR := HR.out;simp only [if_neg hn2,if_neg (show ¬ 8 < fs.length by omega),Qan] at hR;have HR := Xi hR;clear hR;have n3 : (fs.length : Int) ≤ 7 := by omega
  have n4 : (fs.length : Int) ≤ 8 := by omega
  have hR := HR.out;subst hR;go_wp2_with (first
   | ((with_reducible refine Qab 3 ?_);refine Xc 3 (w.heap.size + 1) 2 67 (tilC { Qau with year := y }) (tilC { Qau with year := y,month := (n : Int) }) (intV (n : Int)) HX3.out QaE (Qg0 _ _) ?_;intro w4 hf hb;have HX4 := Xi hb;have HZ4 := Xo hf HZ3;have HF4 := Xn HF3 hf;have cm : w4.cell? ⟨w.heap.size + 1,2,none⟩ = some (intV (n : Int)) := blkc hb 2 _ rfl;clear hf hb HX3 HZ3 HF3)
   | ((with_reducible refine Qam 67 ?_);refine Xl 67 (w.heap.size + 1) 0 67 (tilC { Qau with year := y,month := (n : Int) }) (tilC { Qau with year := y,month := (n : Int) }) HX4.out underlying67 (QaR _) (Qaf _) ?_)
   | ((with_reducible refine Qab 67 ?_);refine Xs 67 w.heap.size 0 67 (tilC tilZ) (tilC { Qau with year := y,month := (n : Int) }) (tilC { Qau with year := y,month := (n : Int) }) HZ4.out (QaR _) (Qaz _) (QbX _ _) ?_;intro w9 hf9 hb9;have HE9 := Xi hb9;have HF9 := Xn HF4 hf9;clear hf9 hb9))
  (try simp only [Exit.inBlock,Exit.then]);exact bodyPost_ret (Qav _ _ _ _ 0 0 rfl rfl rfl HE9.out) rfl ⟨HF9.out,rfl⟩
 have hR := HR.out;simp only [if_neg hn1,if_neg (show ¬ 7 < fs.length by omega),if_neg (show ¬ 8 < fs.length by omega),Qan] at hR;have HR := Xi hR;clear hR;have n2 : (fs.length : Int) ≤ 6 := by omega
 have n3 : (fs.length : Int) ≤ 7 := by omega
 have n4 : (fs.length : Int) ≤ 8 := by omega
 have hR := HR.out;subst hR;go_wp2_with (first
  | ((with_reducible refine Qab 3 ?_);refine Xc 3 (w.heap.size + 1) 1 67 (tilC Qau) (tilC { Qau with year := y }) (intV y) HX1.out QaE (Qjy _ _) ?_;intro w2 hf hb;have HX2 := Xi hb;have HZ2 := Xo hf HZ1;have HF2 := Xn HF1 hf;clear hf hb HX1 HZ1 HF1)
  | ((with_reducible refine Qam 67 ?_);refine Xl 67 (w.heap.size + 1) 0 67 (tilC { Qau with year := y }) (tilC { Qau with year := y }) HX2.out underlying67 (QaR _) (Qaf _) ?_)
  | ((with_reducible refine Qab 67 ?_);refine Xs 67 w.heap.size 0 67 (tilC tilZ) (tilC { Qau with year := y }) (tilC { Qau with year := y }) HZ2.out (QaR _) (Qaz _) (QbX _ _) ?_;intro w9 hf9 hb9;have HE9 := Xi hb9;have HF9 := Xn HF2 hf9;clear hf9 hb9))
 (try simp only [Exit.inBlock,Exit.then]);exact bodyPost_ret (Qav _ _ _ _ 0 0 rfl rfl rfl HE9.out) rfl ⟨HF9.out,rfl⟩
end Go.Proofs.YtodcnbejnchmhaaGreatDoor
