import Derived.Test.YtodcnbejnchmhaaGreatDoorYc34
set_option maxRecDepth 100000
set_option maxHeartbeats 3200000
namespace Go.Proofs.YtodcnbejnchmhaaGreatDoor
open _root_.Go.Proofs.Tryz
open Go.RowKit Go.Mem Go.Lin

theorem Qcl (l : Bs) (hl : l.length ≤ 100000) (W : World) (hw : LOk W) (k : Int) (h : (if Go.Kwd.Qcd l = true then 0 else 5) = k) : Calls Tryz.prog 143 #[strV l] W fun e w' => e = .returned (.tuple #[strV l,intV k]) ∧ Fr W w' (fun _ => False) := by
 obtain ⟨b,hb⟩ : ∃ b,Go.Kwd.Qcd l = b := ⟨_,rfl⟩;have HZ := Xi (zone_any l (by omega) W hw b hb);have HU := Xi (fun W => QcC b 5 W);rw [hb] at h;rw [h] at HU;clear hw h hb;go_enter func143,ntmps143;go_wp2_with fail;refine HZ.out.mono ?_;rintro e w2 ⟨rfl,hf2⟩;have HF2 := Xi hf2;clear hf2;go_wp2_with fail;refine (HU.out _).mono ?_;rintro e w3 ⟨rfl,rfl⟩;go_wp2_with fail
 go_ret2
 exact ⟨rfl,HF2.out⟩
theorem Qf1 (l : Bs) (hl : l.length ≤ 100000) (W : World) (k : Int) (h : (if Go.Kwd.Qc4 l = true then 0 else 5) = k) : Calls Tryz.prog 159 #[strV l] W fun e w' => e = .returned (.tuple #[strV l,intV k]) ∧ Fr W w' (fun _ => False) := by
 obtain ⟨b,hb⟩ : ∃ b,Go.Kwd.Qc4 l = b := ⟨_,rfl⟩;have HZ := Xi (Ql6 l (by omega) W b hb);have HU := Xi (fun W => QcC b 5 W);rw [hb] at h;rw [h] at HU;clear h hb;go_enter func159,ntmps159;go_wp2_with fail;refine HZ.out.mono ?_;rintro e w2 ⟨rfl,hf2⟩;have HF2 := Xi hf2;clear hf2;go_wp2_with fail;refine (HU.out _).mono ?_;rintro e w3 ⟨rfl,rfl⟩;go_wp2_with fail
 go_ret2
 exact ⟨rfl,HF2.out⟩
theorem QmB (l : Bs) (W : World) (k : Int) (h : (if l = [45] then 0 else 3) = k) : Calls Tryz.prog 164 #[strV l] W fun e w' => e = .returned (.tuple #[strV l,intV k]) ∧ Fr W w' (fun _ => False) := by
 obtain ⟨b,hb⟩ : ∃ b,(l == [45]) = b := ⟨_,rfl⟩;have HU := Xi (fun W => QcC b 3 W);rw [show (if b = true then (0 : Int) else 3) = k by
  rw [← h,← hb];by_cases e : l = [45]
  ·simp [e]
  ·rw [if_neg e,if_neg (by simpa using e)]] at HU
 clear h;go_enter func164,ntmps164;go_wp2_with fail;refine (HU.out _).mono ?_;rintro e w3 ⟨rfl,rfl⟩;go_wp2_with fail
 go_ret2
 exact ⟨rfl,Fr.refl _ _⟩
theorem Qez (l : Bs) (hl : l.length ≤ 100000) (W : World) (n : Nat) (hn : Go.Kwd.Qcw l = n) (k : Int) (h : (if n = 0 then 6 else 0) = k) : Calls Tryz.prog 165 #[strV l] W fun e w' => e = .returned (.tuple #[intV (n : Int),intV k]) ∧ Fr W w' (fun _ => False) := by
 have HZ := Xi (QpA l (by omega) W n hn);obtain ⟨b,hb⟩ : ∃ b,((n : Int) != 0) = b := ⟨_,rfl⟩;have HU := Xi (fun W => QcC b 6 W);rw [show (if b = true then (0 : Int) else 6) = k by
  rw [← h,← hb];by_cases e : n = 0
  ·simp [e]
  ·rw [if_neg e,if_pos (by simpa using e)]] at HU
 have hb2 : ((n : Int) == 0) = !b := by rw [← hb]; simp [bne]
 clear h hn;cases b
 all_goals
  go_enter func165,ntmps165;go_wp2_with fail;refine HZ.out.mono ?_;rintro e w2 ⟨rfl,hf2⟩;have HF2 := Xi hf2;clear hf2;go_wp2_with fail;refine (HU.out _).mono ?_;rintro e w3 ⟨rfl,rfl⟩;go_wp2_with fail
  go_ret2
  exact ⟨rfl,HF2.out⟩
def Qhg (l : Bs) : Bs × Int := match QcE l with
 | some v => (v,0)
 | none => (l,15)
theorem Qh5 (l : Bs) (hl : l.length ≤ 100000) (W : World) (v : Bs) (k : Int) (h : Qhg l = (v,k)) : Calls Tryz.prog 171 #[strV l] W fun e w' => e = .returned (.tuple #[strV v,intV k]) ∧ Fr W w' (fun _ => False) := by
 unfold Qhg QcE at h;by_cases h1 : l = [45]
 ·rw [if_pos h1] at h;obtain ⟨rfl,rfl⟩ := Prod.mk.inj h;subst h1;clear h;go_enter func171,ntmps171;go_wp2_with fail
  go_ret2
  exact ⟨rfl,Fr.refl _ _⟩
 ·rw [if_neg h1] at h;have hne : (l == [45]) = false := beq_eq_false_iff_ne.2 h1;obtain ⟨b,hb⟩ : ∃ b,(decide (1 ≤ l.length) && decide ((l.length : Int) ≤ 6)) = b := ⟨_,rfl⟩;obtain ⟨a,ha⟩ : ∃ a,l.all letB = a := ⟨_,rfl⟩;have HB := Xi (fun W => Qmx l 6 W b hb);have HA := Xi (fun W => conL_any ⟨l.toArray⟩ W (by rw [Qal]; omega) a ha);have hv : v = l ∧ k = if (b && a) = true then 0 else 15 := by
   by_cases h2 : 1 ≤ l.length ∧ l.length ≤ 6 ∧ l.all letB = true
   ·rw [if_pos h2] at h;obtain ⟨rfl,rfl⟩ := Prod.mk.inj h;refine ⟨rfl,?_⟩;rw [← hb,← ha,h2.2.2,decide_eq_true h2.1,decide_eq_true (show (l.length : Int) ≤ 6 by omega)];rfl
   ·rw [if_neg h2] at h;obtain ⟨rfl,rfl⟩ := Prod.mk.inj h;refine ⟨rfl,?_⟩;rw [if_neg (fun e => h2 ?_)];rw [← hb,← ha] at e;simp only [Bool.and_eq_true,decide_eq_true_eq] at e;exact ⟨e.1.1,by omega,e.2⟩
  obtain ⟨rfl,rfl⟩ := hv;have HU := Xi (fun W => QcC (b && a) 15 W);obtain ⟨k,hk⟩ : ∃ k,(if (b && a) = true then (0 : Int) else 15) = k := ⟨_,rfl⟩;rw [hk] at HU ⊢;clear h hb ha h1 hk;cases b with
  | false =>
   clear HA;go_enter func171,ntmps171;go_wp2_with fail;refine (HB.out _).mono ?_;rintro e w2 ⟨rfl,rfl⟩;go_wp2_with fail;refine (HU.out _).mono ?_;rintro e w3 ⟨rfl,rfl⟩;go_wp2_with fail
   go_ret2
   exact ⟨rfl,Fr.refl _ _⟩
  | true =>
   rw [Bool.true_and] at HU;go_enter func171,ntmps171;go_wp2_with fail;refine (HB.out _).mono ?_;rintro e w2 ⟨rfl,rfl⟩;go_wp2_with fail;refine (HA.out _).mono ?_;rintro e w2 ⟨rfl,rfl⟩;go_wp2_with fail;refine (HU.out _).mono ?_;rintro e w3 ⟨rfl,rfl⟩;go_wp2_with fail
   go_ret2
   exact ⟨rfl,Fr.refl _ _⟩
theorem Qh9 (l : Bs) (hl : l.length ≤ 100000) (W : World) (hw : LOk W) (k : Int) (h : (if Qck l = true then 0 else 15) = k) : Calls Tryz.prog 176 #[strV l] W fun e w' => e = .returned (.tuple #[strV l,intV k]) ∧ Fr W w' (fun _ => False) := by
 obtain ⟨b,hb⟩ : ∃ b,(decide (1 ≤ l.length) && decide ((l.length : Int) ≤ 20)) = b := ⟨_,rfl⟩;obtain ⟨t,ht⟩ : ∃ t,QbL QcR l = t := ⟨_,rfl⟩;obtain ⟨a,ha⟩ : ∃ a,t.all QcS = a := ⟨_,rfl⟩;have htl : t.length ≤ 100000 := by rw [← ht]; exact Nat.le_trans (Qgy l QcR) hl
 have HB := Xi (fun W => Qmx l 20 W b hb);have HT := Xi (Qkf l hl W hw t ht);have HA := Xi (fun W => conF_any ⟨t.toArray⟩ W (by rw [Qal]; omega) a ha);have HU := Xi (fun W => QcC (b && a) 15 W);rw [show (if (b && a) = true then (0 : Int) else 15) = k by
  rw [← h,QpX,← hb,ht,ha];congr 1;by_cases h1 : 1 ≤ l.length
  ·by_cases h2 : l.length ≤ 20
   ·simp [h1,h2,show (l.length : Int) ≤ 20 by omega]
   ·simp [h2,show ¬ (l.length : Int) ≤ 20 by omega]
  ·simp [h1]] at HU
 clear h hb ha ht hw;cases b with
 | false =>
  clear HA HT;go_enter func176,ntmps176;go_wp2_with fail;refine (HB.out _).mono ?_;rintro e w2 ⟨rfl,rfl⟩;go_wp2_with fail;refine (HU.out _).mono ?_;rintro e w3 ⟨rfl,rfl⟩;go_wp2_with fail
  go_ret2
  exact ⟨rfl,Fr.refl _ _⟩
 | true =>
  rw [Bool.true_and] at HU;go_enter func176,ntmps176;go_wp2_with fail;refine (HB.out _).mono ?_;rintro e w2 ⟨rfl,rfl⟩;go_wp2_with fail;refine HT.out.mono ?_;rintro e w2 ⟨rfl,hf2⟩;have HF2 := Xi hf2;clear hf2;go_wp2_with fail;refine (HA.out _).mono ?_;rintro e w4 ⟨rfl,rfl⟩;go_wp2_with fail;refine (HU.out _).mono ?_;rintro e w3 ⟨rfl,rfl⟩;go_wp2_with fail
  go_ret2
  exact ⟨rfl,HF2.out⟩
theorem QgU (l : Bs) (hl : l.length ≤ 100000) (r : RuleL) (q : Nat) (W : World) (hw : LOk W) (hb : Blk W q 65 (Qaq r)) (y k : Int) (h : toV l r.fr = (y,k)) : Calls Tryz.prog 162 #[strV l,.pointer (some ⟨q,0,none⟩)] W fun e w' => e = .returned (.tuple #[intV y,intV k]) ∧ Fr W w' (fun _ => False) := by
 have HC := Xi (to_any l r.fr hl W hw y k h);have c1 := Qaj hb 1 (intV r.fr) rfl;clear hw hb h;go_enter func162,ntmps162;go_wp2_with fail;refine HC.out.mono ?_;rintro e w2 ⟨rfl,hf2⟩;have HF2 := Xi hf2;clear hf2;go_wp2_with fail
 go_ret2
 exact ⟨rfl,HF2.out⟩
def QcL (r : Int × Int × Bs) : EraL := ⟨0,r.1,r.2.1,r.2.2,[],tilZ⟩
def Qjn (l : Bs) : EraL × Int := match QbU l with
 | some r => (QcL r,0)
 | none => (QcL (1,0,[]),5)
theorem QdL (tmps : Array Value) (w : World) (q : Nat) (x : EraL) (k : Int) (h2 : tmps.getD 2 undef = .pointer (some ⟨q,0,none⟩)) (h3 : tmps.getD 3 undef = intV k)
  (hb : Blk w q 69 (eraC x)) : (results f175 tmps).run Tryz.prog w = .ok (.tuple #[.agg (eraC x),intV k]) w := by
 have h2' : tmps[2]?.getD undef = .pointer (some ⟨q,0,none⟩) := by simpa using h2
 have h3' : tmps[3]?.getD undef = intV k := by simpa using h3
 have hL := run_loadVar_row w q 69 69 (eraC x) (0,0) _ hb underlying69 rfl (QaK x);simp [results,Tryz.results175,h2',h3',asAddr,hL]
theorem Qjm (l : Bs) (hl : l.length ≤ 100000) (w : World) (v : EraL) (k : Int) (h : Qjn l = (v,k)) : Calls Tryz.prog 175 #[strV l] w fun e w' => e = .returned (.tuple #[.agg (eraC v),intV k]) ∧ Fr w w' (fun _ => False) := by
 have hf0 := Fr.new w (.cells Z03 69) (fun _ => False);have HF0 := Xi hf0;have HZ := Xi (show Blk (w.alloc (.cells Z03 69)) w.heap.size 69 (eraC eraZ) from Blk.made w 69 Z03);unfold Qjn at h;rw [Qne] at h;by_cases h1 : l = [45]
 ·rw [if_pos h1] at h;obtain ⟨rfl,rfl⟩ := Prod.mk.inj h;subst h1;clear h hf0;go_enter func175,ntmps175;go_wp2_with (
   refine Xs 69 w.heap.size 0 69 (eraC eraZ) (eraC (QcL (0,0,[]))) (eraC (QcL (0,0,[]))) HZ.out (QaK _) (Qax _) (QaG rfl) ?_;intro w3 hf3 hb3;have HS3 := Xi hf3;have HB3 := Xi hb3;clear hf3 hb3)
  (try simp only [Exit.inBlock,Exit.then]);exact bodyPost_ret (QdL _ _ _ _ 0 rfl rfl HB3.out) rfl ⟨rfl,HF0.out.fresh HS3.out (fun i e => by omega)⟩
 ·rw [if_neg h1] at h;have hne : (l == [45]) = false := beq_eq_false_iff_ne.2 h1;obtain ⟨b,hb⟩ : ∃ b,Go.Kwd.Qc4 l = b := ⟨_,rfl⟩;have HR := Xi (fun W => Ql6 l (by omega) W b hb);rw [hb] at h;cases b with
  | true =>
   rw [if_pos rfl] at h;obtain ⟨rfl,rfl⟩ := Prod.mk.inj h;clear h hf0 hb h1;go_enter func175,ntmps175;go_wp2_with fail;refine (HR.out _).mono ?_;rintro e w2 ⟨rfl,hf2⟩;have HF2 := Xf HF0 hf2;have HZ2 := Xb hf2 HZ;clear hf2;go_wp2_with (
   refine Xs 69 w.heap.size 0 69 (eraC eraZ) (eraC (QcL (2,0,l))) (eraC (QcL (2,0,l))) HZ2.out (QaK _) (Qax _) (QaG rfl) ?_;intro w3 hf3 hb3;have HS3 := Xi hf3;have HB3 := Xi hb3;clear hf3 hb3)
   (try simp only [Exit.inBlock,Exit.then]);exact bodyPost_ret (QdL _ _ _ _ 0 rfl rfl HB3.out) rfl ⟨rfl,HF2.out.fresh HS3.out (fun i e => by omega)⟩
  | false =>
   rw [if_neg (by decide)] at h;obtain ⟨a,ha⟩ : ∃ a,amtV l = a := ⟨_,rfl⟩;have HA := Xi (fun W => QcI l (by omega) W a.1 a.2 ha);have hva : (v,k) = (QcL (1,a.1,[]),if a.2 = 0 then 0 else 5) ∧ (a.2 = 0 ∨ a.2 = 7) := by
    unfold amtV at ha;rw [← h];cases hx : Go.Clk.amtD l with
    | none =>
     rw [hx] at ha;subst ha;exact ⟨rfl,.inr rfl⟩
    | some n =>
     rw [hx] at ha;subst ha;exact ⟨rfl,.inl rfl⟩
   obtain ⟨hv,h07⟩ := hva;obtain ⟨rfl,rfl⟩ := Prod.mk.inj hv;obtain ⟨n,j⟩ := a;have HU := Xi (fun c W => QcC c 5 W);clear h hf0 hb h1 hv ha;rcases h07 with h07 | h07
   all_goals
    have h07 : j = _ := h07;subst h07;go_enter func175,ntmps175;go_wp2_with fail;refine (HR.out _).mono ?_;rintro e w2 ⟨rfl,hf2⟩;have HF2 := Xf HF0 hf2;have HZ2 := Xb hf2 HZ;clear hf2;go_wp2_with fail;refine (HA.out _).mono ?_;rintro e w4 ⟨rfl,hf4⟩;have HF4 := Xf HF2 hf4;have HZ4 := Xb hf4 HZ2;clear hf4;go_wp2_with fail;refine (HU.out _ _).mono ?_;rintro e w5 ⟨rfl,rfl⟩;go_wp2_with (
    refine Xs 69 w.heap.size 0 69 (eraC eraZ) (eraC (QcL (1,n,[]))) (eraC (QcL (1,n,[]))) HZ4.out (QaK _) (Qax _) (QaG rfl) ?_;intro w3 hf3 hb3;have HS3 := Xi hf3;have HB3 := Xi hb3;clear hf3 hb3)
    (try simp only [Exit.inBlock,Exit.then]);exact bodyPost_ret (QdL _ _ _ _ _ rfl rfl HB3.out) rfl ⟨rfl,HF4.out.fresh HS3.out (fun i e => by omega)⟩
theorem Qf3 (tmps : Array Value) (w : World) (q : Nat) (x : DayL) (k : Int) (h2 : tmps.getD 4 undef = .pointer (some ⟨q,0,none⟩)) (h3 : tmps.getD 5 undef = intV k)
  (hb : Blk w q 61 (dayC x)) : (results f189 tmps).run Tryz.prog w = .ok (.tuple #[.agg (dayC x),intV k]) w := by
 have h2' : tmps[4]?.getD undef = .pointer (some ⟨q,0,none⟩) := by simpa using h2
 have h3' : tmps[5]?.getD undef = intV k := by simpa using h3
 have hL := run_loadVar_row w q 61 61 (dayC x) (0,0) _ hb underlying61 rfl (Qcb x);simp [results,Tryz.results189,h2',h3',asAddr,hL]
/-- what tells a day that can be -/
def dayK (l : Bs) (y m : Int) : DayL × Int := match dayP l with
 | some d => (d,if canB d y m = true then 0 else 6)
 | none => (dayZ,6)
theorem Qgu (l : Bs) (hl : l.length ≤ 100000) (y m : Int) (q1 q2 : Nat) (w : World) (hw : LOk w) (hc1 : w.cell? ⟨q1,0,none⟩ = some (intV y)) (hc2 : w.cell? ⟨q2,0,none⟩ = some (intV m)) (d : DayL) (k : Int) (h : dayK l y m = (d,k)) :
  Calls Tryz.prog 189 #[strV l,.pointer (some ⟨q1,0,none⟩),.pointer (some ⟨q2,0,none⟩)] w fun e w' => e = .returned (.tuple #[.agg (dayC d),intV k]) ∧ Fr w w' (fun _ => False) := by
 have hf0 := Fr.new w (.cells #[intV 0,intV 0,intV 0] 61) (fun _ => False);have HF0 := Xi hf0;have HZ := Xi (show Blk (w.alloc (.cells #[intV 0,intV 0,intV 0] 61)) w.heap.size 61 (dayC dayZ) from Blk.made w 61 #[intV 0,intV 0,intV 0]);have HC := Xi (fun d k h => day_any l hl (w.alloc (.cells #[intV 0,intV 0,intV 0] 61)) (hw.fr hf0) d k h);have HW := Xi (fun W (f : Fr w W (fun _ => False)) => hw.fr f);have hd1 := hf0.cell0 hc1;have hd2 := hf0.cell0 hc2;unfold dayK at h;cases hp : dayP l with
 | none =>
  rw [hp] at h;obtain ⟨rfl,rfl⟩ := Prod.mk.inj h;have HC := Xi (HC.out dayZ 6 (by unfold dayW; rw [hp]));obtain ⟨d,hd⟩ : ∃ d,dayZ = d := ⟨_,rfl⟩;rw [hd] at HC ⊢;clear h hf0 hp hw HW;go_enter func189,ntmps189;go_wp2_with fail;refine HC.out.mono ?_;rintro e w2 ⟨rfl,hf2⟩;have HF2 := Xf HF0 hf2;have HZ2 := Xb hf2 HZ;have c1 := hf2.cell0 hd1;have c2 := hf2.cell0 hd2;have hs2 := hf2.size;simp at hs2;clear hf2;go_wp2_with (first
   | (
    refine Xs 61 w2.heap.size 0 61 (dayC dayZ) (dayC d) (dayC d) (Blk.made w2 61 (dayC dayZ)) (Qcb _) (Qbq _) (QaG rfl) ?_;intro w3 hf3 hb3;have hf23 := (Fr.new w2 (.cells (dayC dayZ) 61) (fun _ => False)).fresh hf3 (fun i e => by omega);have HF3 := Xf HF2 hf23;have HZ3 := Xb hf23 HZ2;have HV3 := Xi hb3;have d1 := hf23.cell0 c1;have d2 := hf23.cell0 c2;clear hf3 hb3 hf23)
   | (refine Xl 61 w2.heap.size 0 61 (dayC d) (dayC d) HV3.out underlying61 (Qcb _) (Qaf _) ?_)
   | (
    refine Xs 61 w.heap.size 0 61 (dayC dayZ) (dayC d) (dayC d) HZ3.out (Qcb _) (Qbq _) (QaG rfl) ?_;intro w5 hf5 hb5;have HS5 := Xi hf5;have HB5 := Xi hb5;clear hf5 hb5))
  (try simp only [Exit.inBlock,Exit.then]);exact bodyPost_ret (Qf3 _ _ _ _ 6 rfl rfl HB5.out) rfl ⟨rfl,HF3.out.fresh HS5.out (fun i e => by omega)⟩
 | some d' =>
  rw [hp] at h;obtain ⟨rfl,hk⟩ := Prod.mk.inj h;have hk' : (if canB d' y m = true then (0 : Int) else 6) = k := hk;have HC := Xi (HC.out d' 0 (by unfold dayW; rw [hp]));have hok := QdD hp;have HK := Xi hk';have HO := Xi (fun W (f : Fr w W (fun _ => False)) => of_can d' hok y m W (HW.out W f));obtain ⟨d,hd⟩ : ∃ d,d' = d := ⟨_,rfl⟩;rw [hd] at HC HO HK ⊢;clear h hf0 hp hw HW hk hk' hok;go_enter func189,ntmps189;go_wp2_with fail;refine HC.out.mono ?_;rintro e w2 ⟨rfl,hf2⟩;have HF2 := Xf HF0 hf2;have HZ2 := Xb hf2 HZ;have c1 := hf2.cell0 hd1;have c2 := hf2.cell0 hd2;have hs2 := hf2.size;simp at hs2;clear hf2;go_wp2_with (first
   | (
    refine Xs 61 w2.heap.size 0 61 (dayC dayZ) (dayC d) (dayC d) (Blk.made w2 61 (dayC dayZ)) (Qcb _) (Qbq _) (QaG rfl) ?_;intro w3 hf3 hb3;have hf23 := (Fr.new w2 (.cells (dayC dayZ) 61) (fun _ => False)).fresh hf3 (fun i e => by omega);have HF3 := Xf HF2 hf23;have HZ3 := Xb hf23 HZ2;have HV3 := Xi hb3;have d1 := hf23.cell0 c1;have d2 := hf23.cell0 c2;clear hf3 hb3 hf23)
   | (refine Xl 61 w2.heap.size 0 61 (dayC d) (dayC d) HV3.out underlying61 (Qcb _) (Qaf _) ?_))
  obtain ⟨n,j,hj1,hj2,hO⟩ := HO.out _ HF3.out;have HJ := Xi hj1;refine hO.mono ?_;rintro e w4 ⟨rfl,hf4⟩;have HF4 := Xf HF3 hf4;have HZ4 := Xb hf4 HZ3;have HV4 := Xb hf4 HV3;have hkj : k = j := by
   rw [← HK.out];rcases hj2 with e | e
   ·rw [if_pos (HJ.out.1 e),e]
   ·rw [if_neg (fun c => by have := HJ.out.2 c; omega),e.2]
  subst hkj;clear hf4 hj2 hO hj1;go_wp2_with (first
   | (refine Xl 61 w2.heap.size 0 61 (dayC d) (dayC d) HV4.out underlying61 (Qcb _) (Qaf _) ?_)
   | (
    refine Xs 61 w.heap.size 0 61 (dayC dayZ) (dayC d) (dayC d) HZ4.out (Qcb _) (Qbq _) (QaG rfl) ?_;intro w5 hf5 hb5;have HS5 := Xi hf5;have HB5 := Xi hb5;clear hf5 hb5))
  (try simp only [Exit.inBlock,Exit.then]);exact bodyPost_ret (Qf3 _ _ _ _ _ rfl rfl HB5.out) rfl ⟨rfl,HF4.out.fresh HS5.out (fun i e => by omega)⟩
theorem Qho (y m : Int) (w : World) : Calls Tryz.prog 167 #[intV y,intV m] w fun e w' => ∃ q1 q2 : Nat,e = .returned (.func (.func 189) #[] #[.pointer (some ⟨q1,0,none⟩),.pointer (some ⟨q2,0,none⟩)]) ∧ w'.cell? ⟨q1,0,none⟩ = some (intV y) ∧ w'.cell? ⟨q2,0,none⟩ = some (intV m) ∧ Fr w w' (fun _ => False) := by
 have hb1 := Blk.made w 3 #[intV y];have hb2 := Blk.made (w.alloc (.cells #[intV y] 3)) 3 #[intV m];have hf1 := Fr.new w (.cells #[intV y] 3) (fun _ => False);have hf2 := Fr.new (w.alloc (.cells #[intV y] 3)) (.cells #[intV m] 3) (fun _ => False);have hsz : (w.alloc (.cells #[intV y] 3)).heap.size = w.heap.size + 1 := by simp
 rw [hsz] at hb2;have H1 := Xi (Qaj (hf2.blk hb1 (fun h => h)) 0 (intV y) rfl);have H2 := Xi (Qaj hb2 0 (intV m) rfl);have HF := Xi (ff hf1 hf2);clear hb1 hb2 hf1 hf2;go_enter func167,ntmps167;go_wp2_with fail;go_ret;exact ⟨_,_,rfl,H1.out,H2.out,HF.out⟩
end Go.Proofs.YtodcnbejnchmhaaGreatDoor
namespace Go.Proofs.YtodcnbejnchmhaaGreatDoor
open Go.RowKit Go.Mem Go.Lin

/-- a world Qak w0,in which the listed variables stand as there; b: the reader's block,made Qak w0; g: the fields' -/
structure Ok (w0 w : World) (b g : Nat) : Prop where
 lok : LOk w0
 fr : Fr w0 w (fun _ => False)
 hb : w0.heap.size ≤ b
 hg : g ≠ b
theorem Ok.on {w0 w W : World} {b g : Nat} (h : Ok w0 w b g) (hf : Fr w W (· = b)) : Ok w0 W b g := ⟨h.lok,h.fr.fresh hf (fun i e => by have := h.hb; have e : i = b := e; omega),h.hb,h.hg⟩
theorem Ok.at_ {w0 w W : World} {b g : Nat} (h : Ok w0 w b g) (hf : Fr w W (fun _ => False)) : LOk W := h.lok.fr (ff h.fr hf)
theorem fr_b {a c : World} {b : Nat} (h : Fr a c (fun _ => False)) : Fr a c (· = b) := h.mono (fun _ _ h => h.elim)
theorem Qbp {a c d : World} {b : Nat} (h : Fr a c (· = b)) (h2 : Fr c d (· = b)) : Fr a d (· = b) := h.trans h2 (fun _ _ h => h) (fun _ _ h => h)
theorem Qeh {fs : List Qat} (hz : ∀ x ∈ fs,x.1.length ≤ 100000) (p : Nat) : (gt (fs.map (·.1)) p).length ≤ 100000 := by
 unfold gt;rw [List.getD_eq_getElem?_getD,List.getElem?_map];cases h : fs[p]? with
 | none => simp
 | some x => exact hz x (List.mem_of_getElem? h)
/-- what a method of the reader answers: a value,with n fields gone by,or the panic with the wrong line -/
def Ran {α : Type} (fs : List Qat) (g b n : Nat) (r : Except Er α) (V : α → Value) (w : World) (e : Ending) (w' : World) : Prop := match r with
 | .ok v => e = .returned (V v) ∧ LeftAt w' b g (fs.drop n) ∧ Fr w w' (· = b)
 | .error x => e = QcN (QaC x.2 (QbW fs x.1)) ∧ Fr w w' (· = b)
theorem Qfd (l : Bs) (hl : l.length ≤ 1000000) (W : World) (t : AtL) (k : Int) (h : Qi9 l = (t,k)) : Calls Tryz.prog 169 #[strV l] W fun e w' => e = .returned (.tuple #[.agg (atC t),intV k]) ∧ Fr W w' (fun _ => False) := Qii l hl W t k h
theorem QdA (l : Bs) : (∃ y,Qlm l = (y,0) ∧ Qe4 l = some y) ∨ (Qlm l = (0,8) ∧ Qe4 l = none) := by
 unfold Qlm;cases h : Qe4 l with
 | none => exact .inr ⟨rfl,rfl⟩
 | some y => exact .inl ⟨y,rfl,rfl⟩
theorem QlU (l : Bs) (fr : Int) : (∃ y,toV l fr = (y,0) ∧ toP l fr = some y) ∨ (toV l fr = (0,8) ∧ toP l fr = none) := by
 unfold toV;cases h : toP l fr with
 | none => exact .inr ⟨rfl,rfl⟩
 | some y => exact .inl ⟨y,rfl,rfl⟩
theorem Qdr (l : Bs) : (∃ y,Qi9 l = (y,0) ∧ Qga l = some y) ∨ (Qi9 l = (atZ,7) ∧ Qga l = none) := by
 unfold Qi9;cases h : Qga l with
 | none => exact .inr ⟨rfl,rfl⟩
 | some y => exact .inl ⟨y,rfl,rfl⟩
theorem Qdf (l : Bs) : (∃ y,amtV l = (y,0) ∧ Go.Clk.amtD l = some y) ∨ (amtV l = (0,7) ∧ Go.Clk.amtD l = none) := by
 unfold amtV;cases h : Go.Clk.amtD l with
 | none => exact .inr ⟨rfl,rfl⟩
 | some y => exact .inl ⟨y,rfl,rfl⟩
theorem QjJ (l : Bs) : (∃ y,Qhg l = (y,0) ∧ QcE l = some y) ∨ (Qhg l = (l,15) ∧ QcE l = none) := by
 unfold Qhg;cases h : QcE l with
 | none => exact .inr ⟨rfl,rfl⟩
 | some y => exact .inl ⟨y,rfl,rfl⟩
theorem Qky (l : Bs) : (∃ y,Qjn l = (QcL y,0) ∧ QbU l = some y) ∨ (Qjn l = (QcL (1,0,[]),5) ∧ QbU l = none) := by
 unfold Qjn;cases h : QbU l with
 | none => exact .inr ⟨rfl,rfl⟩
 | some y => exact .inl ⟨y,rfl,rfl⟩
theorem Qhc (l : Bs) : (∃ n : Nat,Go.Kwd.Qcw l = n ∧ (if n = 0 then (6 : Int) else 0) = 0 ∧ Qb2 l = some (n : Int)) ∨ (Go.Kwd.Qcw l = 0 ∧ Qb2 l = none) := by
 unfold Qb2;by_cases h : Go.Kwd.Qcw l = 0
 ·exact .inr ⟨h,if_pos h⟩
 ·exact .inl ⟨_,rfl,if_neg h,if_neg h⟩
/-- a day,and that it can be -/
theorem Qj0 (l : Bs) (y m : Int) : (∃ d,dayK l y m = (d,0) ∧ dayP l = some d ∧ canB d y m = true) ∨ (∃ d,dayK l y m = (d,6) ∧ (dayP l = none ∨ (dayP l = some d ∧ canB d y m = false))) := by
 unfold dayK;cases h : dayP l with
 | none => exact .inr ⟨_,rfl,.inl rfl⟩
 | some d =>
  cases hc : canB d y m with
  | true => exact .inl ⟨d,by simp [hc],rfl,hc⟩
  | false => exact .inr ⟨d,by simp [hc],.inr ⟨rfl,hc⟩⟩
theorem QdH (F : FuncId) (hF : ∀ args w,(callFunc F args).run Tryz.prog w = .ok (.enter F args) w) (caps args : Array Value) (w : World) (b g : Nat) (fs : List Qat) (p : Nat) (hp : p < fs.length) (h : LeftAt w b g (fs.drop p)) (ha : #[strV (gt (fs.map (·.1)) p)] ++ caps = args) (hbg : g ≠ b) (v : Bs)
  (hT : ∀ W,Fr w W (fun _ => False) → Calls Tryz.prog F args W fun e w' => e = .returned (.tuple #[(strV v),intV 0]) ∧ Fr W w' (fun _ => False)) :
  Calls Tryz.prog 142 #[.pointer (some ⟨b,0,none⟩),.func (.func F) #[] caps] w fun e w' => e = .returned (strV v) ∧ LeftAt w' b g (fs.drop (p + 1)) ∧ Fr w w' (· = b) := by
 subst ha;rw [Qgd fs p hp] at h;exact takeS_ok F hF caps w b g _ _ h hbg v hT
theorem Qc2 (F : FuncId) (hF : ∀ args w,(callFunc F args).run Tryz.prog w = .ok (.enter F args) w) (caps args : Array Value) (w : World) (b g : Nat) (fs : List Qat) (p : Nat) (hp : p < fs.length) (h : LeftAt w b g (fs.drop p)) (ha : #[strV (gt (fs.map (·.1)) p)] ++ caps = args) (v : Bs) (k : Int) (hk : k ≠ 0)
  (hT : ∀ W,Fr w W (fun _ => False) → Calls Tryz.prog F args W fun e w' => e = .returned (.tuple #[(strV v),intV k]) ∧ Fr W w' (fun _ => False)) :
  Calls Tryz.prog 142 #[.pointer (some ⟨b,0,none⟩),.func (.func F) #[] caps] w fun e w' => e = QcN (QaC k (QbW fs p)) ∧ Fr w w' (fun _ => False) := by
 subst ha;rw [Qgd fs p hp] at h;exact takeS_no F hF caps w b g _ _ h v k hk hT
theorem QdI (F : FuncId) (hF : ∀ args w,(callFunc F args).run Tryz.prog w = .ok (.enter F args) w) (caps args : Array Value) (w : World) (b g : Nat) (fs : List Qat) (p : Nat) (hp : p < fs.length) (h : LeftAt w b g (fs.drop p)) (ha : #[strV (gt (fs.map (·.1)) p)] ++ caps = args) (hbg : g ≠ b) (v : Int)
  (hT : ∀ W,Fr w W (fun _ => False) → Calls Tryz.prog F args W fun e w' => e = .returned (.tuple #[(intV v),intV 0]) ∧ Fr W w' (fun _ => False)) :
  Calls Tryz.prog 160 #[.pointer (some ⟨b,0,none⟩),.func (.func F) #[] caps] w fun e w' => e = .returned (intV v) ∧ LeftAt w' b g (fs.drop (p + 1)) ∧ Fr w w' (· = b) := by
 subst ha;rw [Qgd fs p hp] at h;exact takeI_ok F hF caps w b g _ _ h hbg v hT
theorem Qc3 (F : FuncId) (hF : ∀ args w,(callFunc F args).run Tryz.prog w = .ok (.enter F args) w) (caps args : Array Value) (w : World) (b g : Nat) (fs : List Qat) (p : Nat) (hp : p < fs.length) (h : LeftAt w b g (fs.drop p)) (ha : #[strV (gt (fs.map (·.1)) p)] ++ caps = args) (v : Int) (k : Int) (hk : k ≠ 0)
  (hT : ∀ W,Fr w W (fun _ => False) → Calls Tryz.prog F args W fun e w' => e = .returned (.tuple #[(intV v),intV k]) ∧ Fr W w' (fun _ => False)) :
  Calls Tryz.prog 160 #[.pointer (some ⟨b,0,none⟩),.func (.func F) #[] caps] w fun e w' => e = QcN (QaC k (QbW fs p)) ∧ Fr w w' (fun _ => False) := by
 subst ha;rw [Qgd fs p hp] at h;exact takeI_no F hF caps w b g _ _ h v k hk hT
theorem QlV (F : FuncId) (hF : ∀ args w,(callFunc F args).run Tryz.prog w = .ok (.enter F args) w) (caps args : Array Value) (w : World) (b g : Nat) (fs : List Qat) (p : Nat) (hp : p < fs.length) (h : LeftAt w b g (fs.drop p)) (ha : #[strV (gt (fs.map (·.1)) p)] ++ caps = args) (hbg : g ≠ b) (v : DayL)
  (hT : ∀ W,Fr w W (fun _ => False) → Calls Tryz.prog F args W fun e w' => e = .returned (.tuple #[(.agg (dayC v)),intV 0]) ∧ Fr W w' (fun _ => False)) :
  Calls Tryz.prog 166 #[.pointer (some ⟨b,0,none⟩),.func (.func F) #[] caps] w fun e w' => e = .returned (.agg (dayC v)) ∧ LeftAt w' b g (fs.drop (p + 1)) ∧ Fr w w' (· = b) := by
 subst ha;rw [Qgd fs p hp] at h;exact takeD_ok F hF caps w b g _ _ h hbg v hT
theorem Qjc (F : FuncId) (hF : ∀ args w,(callFunc F args).run Tryz.prog w = .ok (.enter F args) w) (caps args : Array Value) (w : World) (b g : Nat) (fs : List Qat) (p : Nat) (hp : p < fs.length) (h : LeftAt w b g (fs.drop p)) (ha : #[strV (gt (fs.map (·.1)) p)] ++ caps = args) (v : DayL) (k : Int) (hk : k ≠ 0)
  (hT : ∀ W,Fr w W (fun _ => False) → Calls Tryz.prog F args W fun e w' => e = .returned (.tuple #[(.agg (dayC v)),intV k]) ∧ Fr W w' (fun _ => False)) :
  Calls Tryz.prog 166 #[.pointer (some ⟨b,0,none⟩),.func (.func F) #[] caps] w fun e w' => e = QcN (QaC k (QbW fs p)) ∧ Fr w w' (fun _ => False) := by
 subst ha;rw [Qgd fs p hp] at h;exact takeD_no F hF caps w b g _ _ h v k hk hT
theorem QlW (F : FuncId) (hF : ∀ args w,(callFunc F args).run Tryz.prog w = .ok (.enter F args) w) (caps args : Array Value) (w : World) (b g : Nat) (fs : List Qat) (p : Nat) (hp : p < fs.length) (h : LeftAt w b g (fs.drop p)) (ha : #[strV (gt (fs.map (·.1)) p)] ++ caps = args) (hbg : g ≠ b) (v : AtL)
  (hT : ∀ W,Fr w W (fun _ => False) → Calls Tryz.prog F args W fun e w' => e = .returned (.tuple #[(.agg (atC v)),intV 0]) ∧ Fr W w' (fun _ => False)) :
  Calls Tryz.prog 168 #[.pointer (some ⟨b,0,none⟩),.func (.func F) #[] caps] w fun e w' => e = .returned (.agg (atC v)) ∧ LeftAt w' b g (fs.drop (p + 1)) ∧ Fr w w' (· = b) := by
 subst ha;rw [Qgd fs p hp] at h;exact takeA_ok F hF caps w b g _ _ h hbg v hT
theorem Qjd (F : FuncId) (hF : ∀ args w,(callFunc F args).run Tryz.prog w = .ok (.enter F args) w) (caps args : Array Value) (w : World) (b g : Nat) (fs : List Qat) (p : Nat) (hp : p < fs.length) (h : LeftAt w b g (fs.drop p)) (ha : #[strV (gt (fs.map (·.1)) p)] ++ caps = args) (v : AtL) (k : Int) (hk : k ≠ 0)
  (hT : ∀ W,Fr w W (fun _ => False) → Calls Tryz.prog F args W fun e w' => e = .returned (.tuple #[(.agg (atC v)),intV k]) ∧ Fr W w' (fun _ => False)) :
  Calls Tryz.prog 168 #[.pointer (some ⟨b,0,none⟩),.func (.func F) #[] caps] w fun e w' => e = QcN (QaC k (QbW fs p)) ∧ Fr w w' (fun _ => False) := by
 subst ha;rw [Qgd fs p hp] at h;exact takeA_no F hF caps w b g _ _ h v k hk hT
theorem takeE_at (F : FuncId) (hF : ∀ args w,(callFunc F args).run Tryz.prog w = .ok (.enter F args) w) (caps args : Array Value) (w : World) (b g : Nat) (fs : List Qat) (p : Nat) (hp : p < fs.length) (h : LeftAt w b g (fs.drop p)) (ha : #[strV (gt (fs.map (·.1)) p)] ++ caps = args) (hbg : g ≠ b) (v : EraL)
  (hT : ∀ W,Fr w W (fun _ => False) → Calls Tryz.prog F args W fun e w' => e = .returned (.tuple #[(.agg (eraC v)),intV 0]) ∧ Fr W w' (fun _ => False)) :
  Calls Tryz.prog 174 #[.pointer (some ⟨b,0,none⟩),.func (.func F) #[] caps] w fun e w' => e = .returned (.agg (eraC v)) ∧ LeftAt w' b g (fs.drop (p + 1)) ∧ Fr w w' (· = b) := by
 subst ha;rw [Qgd fs p hp] at h;exact takeE_ok F hF caps w b g _ _ h hbg v hT
theorem Qov (F : FuncId) (hF : ∀ args w,(callFunc F args).run Tryz.prog w = .ok (.enter F args) w) (caps args : Array Value) (w : World) (b g : Nat) (fs : List Qat) (p : Nat) (hp : p < fs.length) (h : LeftAt w b g (fs.drop p)) (ha : #[strV (gt (fs.map (·.1)) p)] ++ caps = args) (v : EraL) (k : Int) (hk : k ≠ 0)
  (hT : ∀ W,Fr w W (fun _ => False) → Calls Tryz.prog F args W fun e w' => e = .returned (.tuple #[(.agg (eraC v)),intV k]) ∧ Fr W w' (fun _ => False)) :
  Calls Tryz.prog 174 #[.pointer (some ⟨b,0,none⟩),.func (.func F) #[] caps] w fun e w' => e = QcN (QaC k (QbW fs p)) ∧ Fr w w' (fun _ => False) := by
 subst ha;rw [Qgd fs p hp] at h;exact takeE_no F hF caps w b g _ _ h v k hk hT
end Go.Proofs.YtodcnbejnchmhaaGreatDoor
