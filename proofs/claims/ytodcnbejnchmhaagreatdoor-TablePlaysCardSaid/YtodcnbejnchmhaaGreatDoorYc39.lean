import Derived.Test.YtodcnbejnchmhaaGreatDoorYc38
import Derived.Defers
import Derived.Recover
import Derived.Test.YtodcnbejnchmhaaGreatDoorYc31
import Derived.Test.YtodcnbejnchmhaaGreatDoorYc33
import Derived.Test.YtodcnbejnchmhaaGreatDoorYc09
set_option maxRecDepth 100000
set_option maxHeartbeats 6400000
namespace Go.Proofs.YtodcnbejnchmhaaGreatDoor
open _root_.Go.Proofs.Tryz
open Go.RowKit Go.Mem Go.Lin

theorem QlJ {fs : List Qat} {k : Nat} (h : Qd4 fs = .ok k) : (k = 1 ∧ fs.length = 10) ∨ (k = 2 ∧ 5 ≤ fs.length ∧ fs.length ≤ 9) ∨ (k = 3 ∧ 3 ≤ fs.length ∧ fs.length ≤ 7) ∨ (k = 4 ∧ fs.length = 3) := by
 unfold Qd4 at h;rcases Qh6 (gt (fs.map (·.1)) 0) with hk | hk | hk | hk | hk
 ·rw [hk,if_pos rfl] at h;cases h
 all_goals
  rw [hk,if_neg (by decide)] at h;split at h
  ·cases h
  ·rename_i hn;simp only [Qef,Qg8,Nat.reduceEqDiff,if_false,if_true] at hn;injection h with h;omega
theorem Qgi {w : World} {q : Nat} {v : LineL} (hb : Blk w q 71 (Qad v)) (tmps : Array Value) (hp : tmps.getD 2 undef = .pointer (some ⟨q,0,none⟩)) : (results f108 tmps).run Tryz.prog w = .ok (.agg (Qad v)) w :=
 results_cell_row (P := Tryz.prog) (fn := f108) (p := 2) (ty := 71) rfl tmps _ q 71 (Qad v) (0,0) _ hp hb underlying71 rfl (Qa7 v)
/-- what line answers -/
def Qoc (fs : List Qat) (b : Nat) (r : Except Er LineL) (w : World) (e : Ending) (w' : World) : Prop := match r with
 | .ok l => e = .returned (.agg (Qad l)) ∧ Fr w w' (· = b)
 | .error x => e = QcN (QaC x.2 (QbW fs x.1)) ∧ Fr w w' (· = b)
theorem line_err (fs : List Qat) (hz : ∀ x ∈ fs,x.1.length ≤ 100000) (hl : 1 ≤ fs.length) (w0 w : World) (b g : Nat) (ho : Ok w0 w b g) (h : LeftAt w b g fs) (x : Er) (hk : Qd4 fs = .error x) :
  Calls Tryz.prog 108 #[.pointer (some ⟨b,0,none⟩)] w (Qoc fs b (.error x) w) := by
 have hbs := h.lt;have hgs : g < w.heap.size := by
  have h2 := h;obtain ⟨x,r,rfl⟩ : ∃ x r,fs = x :: r := by
   cases fs with
   | nil => simp at hl
   | cons x r => exact ⟨x,r,rfl⟩
  obtain ⟨_,_,_,_,cg,_,_⟩ := h2.open;exact World.block_lt_of_cell? w _ cg
 have hf1 := Fr.new w (.cells Z02 71) (fun _ => False);have HZ := Xi (show Blk _ w.heap.size 71 (Qad Qae) from Blk.made w 71 Z02);have HL := Xi (h.fr hf1 (fun h => h) (fun h => h));have HF := Xi (fr_b (b := b) hf1);have HO := Xi (ho.on HF.out);have HG := Xi (Qeh hz);have HN := Xi hz;have HB := Xi (Qb6 fs hz (fun e => by rw [e] at hl; simp at hl) w0 _ b g HO.out HL.out);rw [hk] at HB;clear hf1 h ho hz hk;go_enter func108,ntmps108;go_wp2_with fail;refine HB.out.mono ?_;rintro e wn ⟨rfl,hfn⟩;have HFn := Xi hfn;clear hfn;go_wp2_with fail;exact ⟨rfl,rfl,Qbp HF.out HFn.out⟩
theorem line_ok1 (fs : List Qat) (hz : ∀ x ∈ fs,x.1.length ≤ 100000) (hl : fs.length = 10) (w0 w : World) (b g : Nat) (ho : Ok w0 w b g) (h : LeftAt w b g fs) (hk : Qd4 fs = .ok 1) :
  Calls Tryz.prog 108 #[.pointer (some ⟨b,0,none⟩)] w (Qoc fs b (QfZ 1 (fs.map (·.1))) w) := by
 have hbs := h.lt;have hgs : g < w.heap.size := by
  have h2 := h;obtain ⟨x,r,rfl⟩ : ∃ x r,fs = x :: r := by
   cases fs with
   | nil => simp at hl
   | cons x r => exact ⟨x,r,rfl⟩
  obtain ⟨_,_,_,_,cg,_,_⟩ := h2.open;exact World.block_lt_of_cell? w _ cg
 have hf1 := Fr.new w (.cells Z02 71) (fun _ => False);have HZ := Xi (show Blk _ w.heap.size 71 (Qad Qae) from Blk.made w 71 Z02);have HL := Xi (h.fr hf1 (fun h => h) (fun h => h));have HF := Xi (fr_b (b := b) hf1);have HO := Xi (ho.on HF.out);have HG := Xi (Qeh hz);have HN := Xi hz;have HB := Xi (Qb6 fs hz (fun e => by rw [e] at hl; simp at hl) w0 _ b g HO.out HL.out);rw [hk] at HB;obtain ⟨R,hR⟩ : ∃ R,QfZ 1 (fs.map (·.1)) = R := ⟨_,rfl⟩;rw [hR];unfold QfZ at hR;simp only [Nat.reduceEqDiff,if_false,if_true] at hR;have HR := Xi hR;clear hf1 h ho hz hk hR;go_enter func108,ntmps108;go_wp2_with fail;refine HB.out.mono ?_;rintro e w2 ⟨rfl,hl2,hf2⟩;have hs2 := hf2.size;simp at hs2;have HL2 := Xi hl2;have HF2 := Xi (Qbp HF.out hf2);have HO2 := Xi (HO.out.on hf2);have HZ2 := Xo hf2 HZ;clear hl2 hf2 HL HF HO HZ HB;go_wp2_with (
   refine Xs 71 w2.heap.size 0 71 (Qad Qae) (Qad { Qae with kind := 1 }) (Qad { Qae with kind := 1 }) (Blk.made w2 71 (Qad Qae)) (Qa7 _) (Qar _) (Qaw _ _) ?_;intro w3 hf3 hb3;have hf23 := (Fr.new w2 (.cells (Qad Qae) 71) (fun _ => False)).fresh hf3 (fun i e => by omega);have hs3 : w2.heap.size + 1 ≤ w3.heap.size := by have := hf3.size; simp at this; exact this
   have HX3 := Xi hb3;have x0 := Qaj hb3 0 (intV 1) rfl;have HZ3 := Xb hf23 HZ2;have HL3 := Xi (HL2.out.fr hf23 (fun h => h) (fun h => h));have HF3 := Xi (Qbp HF2.out (fr_b hf23));have HO3 := Xi (HO2.out.on (fr_b hf23));clear hf3 hb3 hf23 HZ2 HL2 HF2 HO2)
 have HU := Xi (QoR fs HN.out hl w0 w3 b g HO3.out HL3.out);obtain ⟨S,hS⟩ : ∃ S,QeK (fs.map (·.1)) = S := ⟨_,rfl⟩;have hR := HR.out;rw [hS] at hR HU;clear hS HR;cases S with
 | error x =>
  have hR : Except.error x = R := hR;subst hR;refine HU.out.mono ?_;rintro e wn ⟨rfl,hfn⟩;have HFn := Xi hfn;clear hfn;go_wp2_with fail;exact ⟨rfl,rfl,Qbp HF3.out HFn.out⟩
 | ok v =>
  have hR : Except.ok ({ Qae with kind := 1,rule := v }) = R := hR;subst hR;refine HU.out.mono ?_;rintro e w4c ⟨rfl,hl4,hf4⟩;have hsc4 := hf4.size;have HX4 := Xo hf4 HX3;have HZ4 := Xo hf4 HZ3;have HF4 := Xi (Qbp HF3.out hf4);clear hl4 hf4 HX3 HZ3 HF3 HL3 HU;go_wp2_with (first
   | (
    refine Xs 65 w2.heap.size 1 71 (Qad { Qae with kind := 1 }) (Qaq v) (Qad { Qae with kind := 1,rule := v }) HX4.out (Qcg _) (Qbo _) (QiC _ _) ?_;intro w5 hf5 hb5;have hs5 := hf5.size;have HX5 := Xi hb5;have HZ5 := Xo hf5 HZ4;have HF5 := Xi (Qbd HF4.out hf5 (fun i e => by omega));clear hf5 hb5 HX4 HZ4 HF4)
   | (refine Xl 71 w2.heap.size 0 71 (Qad { Qae with kind := 1,rule := v }) (Qad { Qae with kind := 1,rule := v }) HX5.out underlying71 (Qa7 _) (Qaf _) ?_)
   | (
    refine Xs 71 w.heap.size 0 71 (Qad Qae) (Qad { Qae with kind := 1,rule := v }) (Qad { Qae with kind := 1,rule := v }) HZ5.out (Qa7 _) (Qar _) (Qaw _ _) ?_;intro w9 hf9 hb9;have HE := Xi hb9;have HFe := Xi (Qbd HF5.out hf9 (fun i e => by omega));clear hf9 hb9))
  (try simp only [Exit.inBlock,Exit.then]);exact bodyPost_ret (Qgi HE.out _ rfl) rfl ⟨rfl,HFe.out⟩
theorem line_ok3 (fs : List Qat) (hz : ∀ x ∈ fs,x.1.length ≤ 100000) (hl : 3 ≤ fs.length ∧ fs.length ≤ 7) (w0 w : World) (b g : Nat) (ho : Ok w0 w b g) (h : LeftAt w b g fs) (hk : Qd4 fs = .ok 3) :
  Calls Tryz.prog 108 #[.pointer (some ⟨b,0,none⟩)] w (Qoc fs b (QfZ 3 (fs.map (·.1))) w) := by
 have hbs := h.lt;have hgs : g < w.heap.size := by
  have h2 := h;obtain ⟨x,r,rfl⟩ : ∃ x r,fs = x :: r := by
   cases fs with
   | nil => simp at hl
   | cons x r => exact ⟨x,r,rfl⟩
  obtain ⟨_,_,_,_,cg,_,_⟩ := h2.open;exact World.block_lt_of_cell? w _ cg
 have hf1 := Fr.new w (.cells Z02 71) (fun _ => False);have HZ := Xi (show Blk _ w.heap.size 71 (Qad Qae) from Blk.made w 71 Z02);have HL := Xi (h.fr hf1 (fun h => h) (fun h => h));have HF := Xi (fr_b (b := b) hf1);have HO := Xi (ho.on HF.out);have HG := Xi (Qeh hz);have HN := Xi hz;have HB := Xi (Qb6 fs hz (fun e => by rw [e] at hl; simp at hl) w0 _ b g HO.out HL.out);rw [hk] at HB;obtain ⟨R,hR⟩ : ∃ R,QfZ 3 (fs.map (·.1)) = R := ⟨_,rfl⟩;rw [hR];unfold QfZ at hR;simp only [Nat.reduceEqDiff,if_false,if_true] at hR;have HR := Xi hR;clear hf1 h ho hz hk hR;go_enter func108,ntmps108;go_wp2_with fail;refine HB.out.mono ?_;rintro e w2 ⟨rfl,hl2,hf2⟩;have hs2 := hf2.size;simp at hs2;have HL2 := Xi hl2;have HF2 := Xi (Qbp HF.out hf2);have HO2 := Xi (HO.out.on hf2);have HZ2 := Xo hf2 HZ;clear hl2 hf2 HL HF HO HZ HB;go_wp2_with (
   refine Xs 71 w2.heap.size 0 71 (Qad Qae) (Qad { Qae with kind := 3 }) (Qad { Qae with kind := 3 }) (Blk.made w2 71 (Qad Qae)) (Qa7 _) (Qar _) (Qaw _ _) ?_;intro w3 hf3 hb3;have hf23 := (Fr.new w2 (.cells (Qad Qae) 71) (fun _ => False)).fresh hf3 (fun i e => by omega);have hs3 : w2.heap.size + 1 ≤ w3.heap.size := by have := hf3.size; simp at this; exact this
   have HX3 := Xi hb3;have x0 := Qaj hb3 0 (intV 3) rfl;have HZ3 := Xb hf23 HZ2;have HL3 := Xi (HL2.out.fr hf23 (fun h => h) (fun h => h));have HF3 := Xi (Qbp HF2.out (fr_b hf23));have HO3 := Xi (HO2.out.on (fr_b hf23));clear hf3 hb3 hf23 HZ2 HL2 HF2 HO2)
 have HU := Xi (Ql7 fs HN.out 0 (by omega) (by omega) w0 w3 b g HO3.out HL3.out);obtain ⟨S,hS⟩ : ∃ S,eraP (fs.map (·.1)) 0 = S := ⟨_,rfl⟩;have hR := HR.out;rw [hS] at hR HU;clear hS HR;cases S with
 | error x =>
  have hR : Except.error x = R := hR;subst hR;refine HU.out.mono ?_;rintro e wn ⟨rfl,hfn⟩;have HFn := Xi hfn;clear hfn;go_wp2_with fail;exact ⟨rfl,rfl,Qbp HF3.out HFn.out⟩
 | ok v =>
  have hR : Except.ok ({ Qae with kind := 3,era := v }) = R := hR;subst hR;refine HU.out.mono ?_;rintro e w4c ⟨rfl,hl4,hf4⟩;have hsc4 := hf4.size;have HX4 := Xo hf4 HX3;have HZ4 := Xo hf4 HZ3;have HF4 := Xi (Qbp HF3.out hf4);clear hl4 hf4 HX3 HZ3 HF3 HL3 HU;go_wp2_with (first
   | (
    refine Xs 69 w2.heap.size 14 71 (Qad { Qae with kind := 3 }) (eraC v) (Qad { Qae with kind := 3,era := v }) HX4.out (QaK _) (Qax _) (QfQ _ _) ?_;intro w5 hf5 hb5;have hs5 := hf5.size;have HX5 := Xi hb5;have HZ5 := Xo hf5 HZ4;have HF5 := Xi (Qbd HF4.out hf5 (fun i e => by omega));clear hf5 hb5 HX4 HZ4 HF4)
   | (refine Xl 71 w2.heap.size 0 71 (Qad { Qae with kind := 3,era := v }) (Qad { Qae with kind := 3,era := v }) HX5.out underlying71 (Qa7 _) (Qaf _) ?_)
   | (
    refine Xs 71 w.heap.size 0 71 (Qad Qae) (Qad { Qae with kind := 3,era := v }) (Qad { Qae with kind := 3,era := v }) HZ5.out (Qa7 _) (Qar _) (Qaw _ _) ?_;intro w9 hf9 hb9;have HE := Xi hb9;have HFe := Xi (Qbd HF5.out hf9 (fun i e => by omega));clear hf9 hb9))
  (try simp only [Exit.inBlock,Exit.then]);exact bodyPost_ret (Qgi HE.out _ rfl) rfl ⟨rfl,HFe.out⟩
theorem line_ok2 (fs : List Qat) (hz : ∀ x ∈ fs,x.1.length ≤ 100000) (hl : 5 ≤ fs.length ∧ fs.length ≤ 9) (w0 w : World) (b g : Nat) (ho : Ok w0 w b g) (h : LeftAt w b g fs) (hk : Qd4 fs = .ok 2) :
  Calls Tryz.prog 108 #[.pointer (some ⟨b,0,none⟩)] w (Qoc fs b (QfZ 2 (fs.map (·.1))) w) := by
 have hbs := h.lt;have hgs : g < w.heap.size := by
  have h2 := h;obtain ⟨x,r,rfl⟩ : ∃ x r,fs = x :: r := by
   cases fs with
   | nil => simp at hl
   | cons x r => exact ⟨x,r,rfl⟩
  obtain ⟨_,_,_,_,cg,_,_⟩ := h2.open;exact World.block_lt_of_cell? w _ cg
 have hf1 := Fr.new w (.cells Z02 71) (fun _ => False);have HZ := Xi (show Blk _ w.heap.size 71 (Qad Qae) from Blk.made w 71 Z02);have HL := Xi (h.fr hf1 (fun h => h) (fun h => h));have HF := Xi (fr_b (b := b) hf1);have HO := Xi (ho.on HF.out);have HG := Xi (Qeh hz);have HN := Xi hz;have HB := Xi (Qb6 fs hz (fun e => by rw [e] at hl; simp at hl) w0 _ b g HO.out HL.out);rw [hk] at HB;obtain ⟨R,hR⟩ : ∃ R,QfZ 2 (fs.map (·.1)) = R := ⟨_,rfl⟩;rw [hR];unfold QfZ at hR;simp only [Nat.reduceEqDiff,if_false,if_true] at hR;have HR := Xi hR;clear hf1 h ho hz hk hR;go_enter func108,ntmps108;go_wp2_with fail;refine HB.out.mono ?_;rintro e w2 ⟨rfl,hl2,hf2⟩;have hs2 := hf2.size;simp at hs2;have HL2 := Xi hl2;have HF2 := Xi (Qbp HF.out hf2);have HO2 := Xi (HO.out.on hf2);have HZ2 := Xo hf2 HZ;clear hl2 hf2 HL HF HO HZ HB;go_wp2_with (
   refine Xs 71 w2.heap.size 0 71 (Qad Qae) (Qad { Qae with kind := 2 }) (Qad { Qae with kind := 2 }) (Blk.made w2 71 (Qad Qae)) (Qa7 _) (Qar _) (Qaw _ _) ?_;intro w3 hf3 hb3;have hf23 := (Fr.new w2 (.cells (Qad Qae) 71) (fun _ => False)).fresh hf3 (fun i e => by omega);have hs3 : w2.heap.size + 1 ≤ w3.heap.size := by have := hf3.size; simp at this; exact this
   have HX3 := Xi hb3;have x0 := Qaj hb3 0 (intV 2) rfl;have HZ3 := Xb hf23 HZ2;have HL3 := Xi (HL2.out.fr hf23 (fun h => h) (fun h => h));have HF3 := Xi (Qbp HF2.out (fr_b hf23));have HO3 := Xi (HO2.out.on (fr_b hf23));clear hf3 hb3 hf23 HZ2 HL2 HF2 HO2)
 cases hp : Go.Kwd.Qcd (gt (fs.map (·.1)) 1)
 ·have hR := HR.out;rw [hp] at hR;simp only [Qa5,Qap] at hR;subst hR;refine (Qc2 143 (fun a W => Tryz.call143 a W) #[] #[strV (gt (fs.map (·.1)) 1)] _ b g fs 1 (by omega) HL3.out rfl (gt (fs.map (·.1)) 1) 5 (by decide) (by intro W f; with_reducible exact Qcl _ (HG.out 1) W (HO3.out.at_ f) 5 (by simp [hp]))).mono ?_;rintro e wn ⟨rfl,hfn⟩;have HFn := Xi hfn;clear hfn;go_wp2_with fail;exact ⟨rfl,rfl,Qbp HF3.out (fr_b HFn.out)⟩
 have hR := HR.out;rw [hp] at hR;simp only [Qbr,Qan] at hR;have HR := Xi hR;clear hR;refine (QdH 143 (fun a W => Tryz.call143 a W) #[] #[strV (gt (fs.map (·.1)) 1)] _ b g fs 1 (by omega) HL3.out rfl HO3.out.hg (gt (fs.map (·.1)) 1) (by intro W f; with_reducible exact Qcl _ (HG.out 1) W (HO3.out.at_ f) 0 (by simp [hp]))).mono ?_;rintro e w4c ⟨rfl,hl4,hf4⟩;have hsc4 := hf4.size;have HL4 := Xi hl4;have HX4 := Xo hf4 HX3;have HZ4 := Xo hf4 HZ3;have HF4 := Xi (Qbp HF3.out hf4);have HO4 := Xi (HO3.out.on hf4);clear hl4 hf4 HX3 HZ3 HF3 HL3 HO3 hp;go_wp2_with (first
  | (
   refine Xc 9 w2.heap.size 12 71 (Qad { Qae with kind := 2 }) (Qad { Qae with kind := 2,name := (gt (fs.map (·.1)) 1) }) (strV (gt (fs.map (·.1)) 1)) HX4.out QaN (QhZ _ _) ?_;intro w5 hf5 hb5;have hs5 := hf5.size;have HX5 := Xi hb5;have HZ5 := Xo hf5 HZ4;have HF5 := Xi (Qbd HF4.out hf5 (fun i e => by omega));have HL5 := Xi (HL4.out.fr hf5 (by omega) (by omega));have HO5 := Xi (show Ok w0 w5 b g from ⟨HO4.out.lok,HO4.out.fr.fresh hf5 (fun i e => by have := HO4.out.hb; omega),HO4.out.hb,HO4.out.hg⟩);clear hf5 hb5 HX4 HZ4 HF4 HL4 HO4))
 have HU := Xi (Ql7 fs HN.out 2 (by omega) (by omega) w0 w5 b g HO5.out HL5.out);obtain ⟨S,hS⟩ : ∃ S,eraP (fs.map (·.1)) 2 = S := ⟨_,rfl⟩;have hR := HR.out;rw [hS] at hR HU;clear hS HR;cases S with
 | error x =>
  have hR : Except.error x = R := hR;subst hR;refine HU.out.mono ?_;rintro e wn ⟨rfl,hfn⟩;have HFn := Xi hfn;clear hfn;go_wp2_with fail;exact ⟨rfl,rfl,Qbp HF5.out HFn.out⟩
 | ok v =>
  have hR : Except.ok ({ Qae with kind := 2,name := (gt (fs.map (·.1)) 1),era := v }) = R := hR;subst hR;refine HU.out.mono ?_;rintro e w6c ⟨rfl,hl6,hf6⟩;have hsc6 := hf6.size;have HX6 := Xo hf6 HX5;have HZ6 := Xo hf6 HZ5;have HF6 := Xi (Qbp HF5.out hf6);clear hl6 hf6 HX5 HZ5 HF5 HL5 HU;go_wp2_with (first
   | (
    refine Xs 69 w2.heap.size 14 71 (Qad { Qae with kind := 2,name := (gt (fs.map (·.1)) 1) }) (eraC v) (Qad { Qae with kind := 2,name := (gt (fs.map (·.1)) 1),era := v }) HX6.out (QaK _) (Qax _) (QfQ _ _) ?_;intro w7 hf7 hb7;have hs7 := hf7.size;have HX7 := Xi hb7;have HZ7 := Xo hf7 HZ6;have HF7 := Xi (Qbd HF6.out hf7 (fun i e => by omega));clear hf7 hb7 HX6 HZ6 HF6)
   | (refine Xl 71 w2.heap.size 0 71 (Qad { Qae with kind := 2,name := (gt (fs.map (·.1)) 1),era := v }) (Qad { Qae with kind := 2,name := (gt (fs.map (·.1)) 1),era := v }) HX7.out underlying71 (Qa7 _) (Qaf _) ?_)
   | (
    refine Xs 71 w.heap.size 0 71 (Qad Qae) (Qad { Qae with kind := 2,name := (gt (fs.map (·.1)) 1),era := v }) (Qad { Qae with kind := 2,name := (gt (fs.map (·.1)) 1),era := v }) HZ7.out (Qa7 _) (Qar _) (Qaw _ _) ?_;intro w9 hf9 hb9;have HE := Xi hb9;have HFe := Xi (Qbd HF7.out hf9 (fun i e => by omega));clear hf9 hb9))
  (try simp only [Exit.inBlock,Exit.then]);exact bodyPost_ret (Qgi HE.out _ rfl) rfl ⟨rfl,HFe.out⟩
theorem line_ok4 (fs : List Qat) (hz : ∀ x ∈ fs,x.1.length ≤ 100000) (hl : fs.length = 3) (w0 w : World) (b g : Nat) (ho : Ok w0 w b g) (h : LeftAt w b g fs) (hk : Qd4 fs = .ok 4) :
  Calls Tryz.prog 108 #[.pointer (some ⟨b,0,none⟩)] w (Qoc fs b (QfZ 4 (fs.map (·.1))) w) := by
 have hbs := h.lt;have hgs : g < w.heap.size := by
  have h2 := h;obtain ⟨x,r,rfl⟩ : ∃ x r,fs = x :: r := by
   cases fs with
   | nil => simp at hl
   | cons x r => exact ⟨x,r,rfl⟩
  obtain ⟨_,_,_,_,cg,_,_⟩ := h2.open;exact World.block_lt_of_cell? w _ cg
 have hf1 := Fr.new w (.cells Z02 71) (fun _ => False);have HZ := Xi (show Blk _ w.heap.size 71 (Qad Qae) from Blk.made w 71 Z02);have HL := Xi (h.fr hf1 (fun h => h) (fun h => h));have HF := Xi (fr_b (b := b) hf1);have HO := Xi (ho.on HF.out);have HG := Xi (Qeh hz);have HN := Xi hz;have HB := Xi (Qb6 fs hz (fun e => by rw [e] at hl; simp at hl) w0 _ b g HO.out HL.out);rw [hk] at HB;obtain ⟨R,hR⟩ : ∃ R,QfZ 4 (fs.map (·.1)) = R := ⟨_,rfl⟩;rw [hR];unfold QfZ at hR;simp only [Nat.reduceEqDiff,if_false] at hR;have HR := Xi hR;clear hf1 h ho hz hk hR;go_enter func108,ntmps108;go_wp2_with fail;refine HB.out.mono ?_;rintro e w2 ⟨rfl,hl2,hf2⟩;have hs2 := hf2.size;simp at hs2;have HL2 := Xi hl2;have HF2 := Xi (Qbp HF.out hf2);have HO2 := Xi (HO.out.on hf2);have HZ2 := Xo hf2 HZ;clear hl2 hf2 HL HF HO HZ HB;go_wp2_with (
   refine Xs 71 w2.heap.size 0 71 (Qad Qae) (Qad { Qae with kind := 4 }) (Qad { Qae with kind := 4 }) (Blk.made w2 71 (Qad Qae)) (Qa7 _) (Qar _) (Qaw _ _) ?_;intro w3 hf3 hb3;have hf23 := (Fr.new w2 (.cells (Qad Qae) 71) (fun _ => False)).fresh hf3 (fun i e => by omega);have hs3 : w2.heap.size + 1 ≤ w3.heap.size := by have := hf3.size; simp at this; exact this
   have HX3 := Xi hb3;have x0 := Qaj hb3 0 (intV 4) rfl;have HZ3 := Xb hf23 HZ2;have HL3 := Xi (HL2.out.fr hf23 (fun h => h) (fun h => h));have HF3 := Xi (Qbp HF2.out (fr_b hf23));have HO3 := Xi (HO2.out.on (fr_b hf23));clear hf3 hb3 hf23 HZ2 HL2 HF2 HO2)
 cases hp : Go.Kwd.Qcd (gt (fs.map (·.1)) 1)
 ·have hR := HR.out;rw [hp] at hR;simp only [Qa5,Qap] at hR;subst hR;refine (Qc2 143 (fun a W => Tryz.call143 a W) #[] #[strV (gt (fs.map (·.1)) 1)] _ b g fs 1 (by omega) HL3.out rfl (gt (fs.map (·.1)) 1) 5 (by decide) (by intro W f; with_reducible exact Qcl _ (HG.out 1) W (HO3.out.at_ f) 5 (by simp [hp]))).mono ?_;rintro e wn ⟨rfl,hfn⟩;have HFn := Xi hfn;clear hfn;go_wp2_with fail;exact ⟨rfl,rfl,Qbp HF3.out (fr_b HFn.out)⟩
 have hR := HR.out;rw [hp] at hR;simp only [Qbr,Qan] at hR;have HR := Xi hR;clear hR;refine (QdH 143 (fun a W => Tryz.call143 a W) #[] #[strV (gt (fs.map (·.1)) 1)] _ b g fs 1 (by omega) HL3.out rfl HO3.out.hg (gt (fs.map (·.1)) 1) (by intro W f; with_reducible exact Qcl _ (HG.out 1) W (HO3.out.at_ f) 0 (by simp [hp]))).mono ?_;rintro e w4c ⟨rfl,hl4,hf4⟩;have hsc4 := hf4.size;have HL4 := Xi hl4;have HX4 := Xo hf4 HX3;have HZ4 := Xo hf4 HZ3;have HF4 := Xi (Qbp HF3.out hf4);have HO4 := Xi (HO3.out.on hf4);clear hl4 hf4 HX3 HZ3 HF3 HL3 HO3 hp;go_wp2_with (first
  | (
   refine Xc 9 w2.heap.size 13 71 (Qad { Qae with kind := 4 }) (Qad { Qae with kind := 4,target := (gt (fs.map (·.1)) 1) }) (strV (gt (fs.map (·.1)) 1)) HX4.out QaN (Qma _ _) ?_;intro w5 hf5 hb5;have hs5 := hf5.size;have HX5 := Xi hb5;have HZ5 := Xo hf5 HZ4;have HF5 := Xi (Qbd HF4.out hf5 (fun i e => by omega));have HL5 := Xi (HL4.out.fr hf5 (by omega) (by omega));have HO5 := Xi (show Ok w0 w5 b g from ⟨HO4.out.lok,HO4.out.fr.fresh hf5 (fun i e => by have := HO4.out.hb; omega),HO4.out.hb,HO4.out.hg⟩);clear hf5 hb5 HX4 HZ4 HF4 HL4 HO4))
 cases hp : Go.Kwd.Qcd (gt (fs.map (·.1)) 2)
 ·have hR := HR.out;rw [hp] at hR;simp only [Qa5,Qap] at hR;subst hR;refine (Qc2 143 (fun a W => Tryz.call143 a W) #[] #[strV (gt (fs.map (·.1)) 2)] _ b g fs 2 (by omega) HL5.out rfl (gt (fs.map (·.1)) 2) 5 (by decide) (by intro W f; with_reducible exact Qcl _ (HG.out 2) W (HO5.out.at_ f) 5 (by simp [hp]))).mono ?_;rintro e wn ⟨rfl,hfn⟩;have HFn := Xi hfn;clear hfn;go_wp2_with fail;exact ⟨rfl,rfl,Qbp HF5.out (fr_b HFn.out)⟩
 have hR := HR.out;rw [hp] at hR;simp only [Qbr,Qan] at hR;have HR := Xi hR;clear hR;refine (QdH 143 (fun a W => Tryz.call143 a W) #[] #[strV (gt (fs.map (·.1)) 2)] _ b g fs 2 (by omega) HL5.out rfl HO5.out.hg (gt (fs.map (·.1)) 2) (by intro W f; with_reducible exact Qcl _ (HG.out 2) W (HO5.out.at_ f) 0 (by simp [hp]))).mono ?_;rintro e w6c ⟨rfl,hl6,hf6⟩;have hsc6 := hf6.size;have HL6 := Xi hl6;have HX6 := Xo hf6 HX5;have HZ6 := Xo hf6 HZ5;have HF6 := Xi (Qbp HF5.out hf6);have HO6 := Xi (HO5.out.on hf6);clear hl6 hf6 HX5 HZ5 HF5 HL5 HO5 hp;have hR := HR.out;subst hR;go_wp2_with (first
  | (
   refine Xc 9 w2.heap.size 12 71 (Qad { Qae with kind := 4,target := (gt (fs.map (·.1)) 1) }) (Qad { Qae with kind := 4,target := (gt (fs.map (·.1)) 1),name := (gt (fs.map (·.1)) 2) }) (strV (gt (fs.map (·.1)) 2)) HX6.out QaN (QhZ _ _) ?_;intro w7 hf7 hb7;have hs7 := hf7.size;have HX7 := Xi hb7;have HZ7 := Xo hf7 HZ6;have HF7 := Xi (Qbd HF6.out hf7 (fun i e => by omega));clear hf7 hb7 HX6 HZ6 HF6)
  | (refine Xl 71 w2.heap.size 0 71 (Qad { Qae with kind := 4,target := (gt (fs.map (·.1)) 1),name := (gt (fs.map (·.1)) 2) }) (Qad { Qae with kind := 4,target := (gt (fs.map (·.1)) 1),name := (gt (fs.map (·.1)) 2) }) HX7.out underlying71 (Qa7 _) (Qaf _) ?_)
  | (
   refine Xs 71 w.heap.size 0 71 (Qad Qae) (Qad { Qae with kind := 4,target := (gt (fs.map (·.1)) 1),name := (gt (fs.map (·.1)) 2) }) (Qad { Qae with kind := 4,target := (gt (fs.map (·.1)) 1),name := (gt (fs.map (·.1)) 2) }) HZ7.out (Qa7 _) (Qar _) (Qaw _ _) ?_;intro w9 hf9 hb9;have HE := Xi hb9;have HFe := Xi (Qbd HF7.out hf9 (fun i e => by omega));clear hf9 hb9))
 (try simp only [Exit.inBlock,Exit.then]);exact bodyPost_ret (Qgi HE.out _ rfl) rfl ⟨rfl,HFe.out⟩
theorem QoY (fs : List Qat) (hz : ∀ x ∈ fs,x.1.length ≤ 100000) (hne : fs ≠ []) (w0 w : World) (b g : Nat) (ho : Ok w0 w b g) (h : LeftAt w b g fs) :
  Calls Tryz.prog 108 #[.pointer (some ⟨b,0,none⟩)] w (Qoc fs b (QkK fs) w) := by
 have hl : 1 ≤ fs.length := by
  cases fs with
  | nil => exact absurd rfl hne
  | cons x r => simp
 unfold QkK;cases hk : Qd4 fs with
 | error x => exact line_err fs hz hl w0 w b g ho h x hk
 | ok k =>
  rcases QlJ hk with ⟨rfl,h1⟩ | ⟨rfl,h1⟩ | ⟨rfl,h1⟩ | ⟨rfl,h1⟩
  ·exact line_ok1 fs hz h1 w0 w b g ho h hk
  ·exact line_ok2 fs hz h1 w0 w b g ho h hk
  ·exact line_ok3 fs hz h1 w0 w b g ho h hk
  ·exact line_ok4 fs hz h1 w0 w b g ho h hk
theorem Qht (q : Nat) (x y : LineL) (w : World) (hb : Blk w q 71 (Qad y)) :
  CallsD Tryz.prog 107 #[.pointer (some ⟨q,0,none⟩)] (.panicking [{ v := .iface 71 (.agg (Qad x)),recovered := false }]) w fun e u' w' =>
   e = .returned (.tuple #[]) ∧ u' = .panicking [{ v := .iface 71 (.agg (Qad x)),recovered := true }] ∧ w' = w.setCells q 0 (Qad x).toList := by
 have ht : w.there q 0 (Qad x).size := fun j hj => ⟨by rw [Qaa hb,Array.getElem?_eq_getElem (by show 0 + j < 29; have : j < 29 := hj; omega)]; rfl,Qac hb _⟩;have hsc : (storeCells ⟨q,0,none⟩ (Qad x).toList 0).run Tryz.prog w = .ok () (w.setCells q (0 + 0) (Qad x).toList) := run_storeCells_cells (P := Tryz.prog) q 0 (Qad x).toList 0 w (fun j hj => (ht j hj).1) (fun j hj => (ht j hj).2) (fun v hv => by
  have h1 := Qar x;rw [Array.all_eq_true'] at h1;exact h1 v (Array.mem_toList_iff.1 hv))
 have hs9 : (Qad x).size = 29 := rfl;have hta : ∀ w : World,(Instr.typeAssert (.iface 71 (.agg (Qad x))) 20 71 false).run Tryz.prog w = .ok (.agg (Qad x)) w := fun w => by kernel_rfl
 have hne : ∀ w : World,(binOp .neq 20 (.iface 71 (.agg (Qad x))) .nilIface).run Tryz.prog w = .ok (.bool true) w := fun w => by kernel_rfl
 generalize Qad x = xs at *;rw [Nat.add_zero] at hsc;refine callsD_of_wpS func107 rfl fun c₀ cs hu => ?_;apply wpS_seq;apply wpS_region;simp [wpOpsS,go_sem,recoverD,hu,ntmps107,Exit.thenS];apply wpS_seq;apply wpS_region;simp [wpOpsS,go_sem,Exit.thenS,Act.eval,Array.replicate,hne];refine wpS_cond (t := true) (by simp [Act.eval]) ?_;simp only [if_true];apply wpS_region;simp [wpOpsS,go_sem,Act.eval,hta,hsc,hs9,bodyPostS,results,Tryz.results107]
theorem Qn2 (q : Nat) (w : World) :
  CallsD Tryz.prog 107 #[.pointer (some ⟨q,0,none⟩)] .returning w fun e u' w' => e = .returned (.tuple #[]) ∧ u' = .returning ∧ w' = w := by
 have hne : ∀ w : World,(binOp .neq 20 .nilIface .nilIface).run Tryz.prog w = .ok (.bool false) w := fun w => by kernel_rfl
 refine callsD_of_wpS func107 rfl fun c₀ cs hu => ?_;apply wpS_seq;apply wpS_region;simp [wpOpsS,go_sem,recoverD,hu,ntmps107,Exit.thenS];apply wpS_seq;apply wpS_region;simp [wpOpsS,go_sem,Exit.thenS,Act.eval,Array.replicate,hne];refine wpS_cond (t := false) (by simp [Act.eval]) ?_;simp only [Bool.false_eq_true,if_false];refine wpS_of_wp (wp_skip ?_);cases c₀
 simp_all [bodyPostS,results,Tryz.results107]
theorem QdN {w : World} {q : Nat} {v : LineL} (hb : Blk w q 71 (Qad v)) (tmps : Array Value) (hp : tmps.getD 2 undef = .pointer (some ⟨q,0,none⟩)) : (results f68 tmps).run Tryz.prog w = .ok (.agg (Qad v)) w :=
 results_cell_row (P := Tryz.prog) (fn := f68) (p := 2) (ty := 71) rfl tmps _ q 71 (Qad v) (0,0) _ hp hb underlying71 rfl (Qa7 v)
theorem Qiy (fs : List Qat) (hz : ∀ x ∈ fs,x.1.length ≤ 100000) (hne : fs ≠ []) (A : Option Addr) (c : Nat) (w : World) (hw : LOk w) (hfd : S7.FdAt w A fs) (hc : fs.length ≤ c) :
  Calls Tryz.prog 68 #[.slice A fs.length c] w fun e w' => e = .returned (.agg (Qad (outL fs (QkK fs) id))) ∧ Fr w w' (fun _ => False) := by
 have hpos : 0 < fs.length := by
  cases fs with
  | nil => exact absurd rfl hne
  | cons x r => simp
 obtain ⟨g,off,x,rfl,-,hcell,-⟩ := hfd.at_ hpos;have hgs : g < w.heap.size := World.block_lt_of_cell? w _ hcell;have hrd : Rd w 2 (some ⟨g,off,none⟩) fs.length (fs.flatMap QeP) := hfd;have hf1 := Fr.new w (.cells (Qad Qae) 71) (fun _ => False);have hf2 := Fr.new (w.alloc (.cells (Qad Qae) 71)) (.cells #[.slice (some ⟨g,off,none⟩) fs.length c] 177) (fun _ => False);have hsz : (w.alloc (.cells (Qad Qae) 71)).heap.size = w.heap.size + 1 := by simp
 have hb2 := Blk.made (w.alloc (.cells (Qad Qae) 71)) 177 #[.slice (some ⟨g,off,none⟩) fs.length c];rw [hsz] at hb2;have HZ := Xi (hf2.blk (Blk.made w 71 (Qad Qae)) (fun h => h));have hL : LeftAt ((w.alloc (.cells (Qad Qae) 71)).alloc (.cells #[.slice (some ⟨g,off,none⟩) fs.length c] 177)) (w.heap.size + 1) g fs :=
  ⟨_,c,hb2,hrd.fr (ff hf1 hf2) (fun _ _ _ _ h => h),hc,fun b' o' e _ => by injection e with e; injection e with e1; exact e1.symm⟩
 have hO : Ok w ((w.alloc (.cells (Qad Qae) 71)).alloc (.cells #[.slice (some ⟨g,off,none⟩) fs.length c] 177)) (w.heap.size + 1) g := ⟨hw,ff hf1 hf2,by omega,by omega⟩;have HL := Xi (QoY fs hz hne w _ (w.heap.size + 1) g hO hL);have HF := Xi (ff hf1 hf2);obtain ⟨S,hS⟩ : ∃ S,QkK fs = S := ⟨_,rfl⟩;rw [hS] at HL ⊢;clear hS hf1 hf2 hsz hb2 hL hO hrd hfd hw hcell hz;cases S with
 | error x =>
  go_enter_defers func68,ntmps68
  go_wp2_with fail;refine HL.out.mono ?_;rintro e w2 ⟨rfl,hf2⟩;have hb2 := hf2.blk HZ.out (by omega);have HB2 := Xi hb2;have HF2 := Xn HF hf2;clear hf2 hb2;go_wp2_with fail;refine leaves_cons (f := 107) (args := #[.pointer (some ⟨w.heap.size,0,none⟩)]) (by simp) (by simp [go_sem]) ?_;refine (Qht w.heap.size _ _ _ HB2.out).mono ?_;rintro e u' w3 ⟨rfl,rfl,rfl⟩;have hm := Blk.many (Qad (QaC x.2 (QbW fs x.1))).toList 0 _ _ HB2.out;rw [Qaw] at hm;exact ⟨_,QdN hm _ rfl,rfl,HF2.out.fresh (Fr.many _ _ _) (fun i e => by omega)⟩
 | ok l =>
  go_enter_defers func68,ntmps68
  go_wp2_with fail;refine HL.out.mono ?_;rintro e w2 ⟨rfl,hf2⟩;have hb2 := hf2.blk HZ.out (by omega);have HB2 := Xi hb2;have HF2 := Xn HF hf2;clear hf2 hb2;go_wp2_with (
   refine Xs 71 w.heap.size 0 71 (Qad Qae) (Qad l) (Qad l) HB2.out (Qa7 _) (Qar _) (Qaw _ _) ?_;intro w9 hf9 hb9;have HE := Xi hb9;have HFe := Xn HF2 hf9;clear hf9 hb9)
  refine leaves_cons (f := 107) (args := #[.pointer (some ⟨w.heap.size,0,none⟩)]) (by simp) (by simp [go_sem]) ?_;refine (Qn2 w.heap.size _).mono ?_;rintro e u' w3 ⟨rfl,rfl,rfl⟩;exact ⟨_,QdN HE.out _ rfl,rfl,HFe.out⟩
def FOutC (o : List Qat × Int × Int) (w : World) (e : Ending) (w' : World) : Prop :=
 ∃ A c,e = .returned (.tuple #[.slice A o.1.length c,intV o.2.1,intV o.2.2]) ∧ S7.FdAt w' A o.1 ∧ o.1.length ≤ c ∧ Fr w w' (fun _ => False)
theorem QlP (l : Bs) (w : World) (hz : l.length ≤ 1000000) : Calls Tryz.prog 66 #[strV l] w (FOutC (S7.Qbi l) w) := by
 have hs : (⟨l.toArray⟩ : ByteArray).size = l.length := Qal l;by_cases h : 200 < l.length
 ·refine (S7.QlO ⟨l.toArray⟩ w (by omega) (by omega)).mono ?_;rintro e w' ⟨rfl,rfl⟩;unfold S7.Qbi;rw [if_pos h];exact ⟨none,0,rfl,Rd.zero _ _ _,Nat.le_refl _,Fr.refl _ _⟩
 ·refine (S7.Qj9 ⟨l.toArray⟩ l w rfl (by omega)).mono ?_;rintro e w' h2;unfold S7.Qbi;rw [if_neg h];cases hf : Go.Lxr.QaU 0 l with
  | error k =>
   rw [hf] at h2;obtain ⟨rfl,h3⟩ := h2;exact ⟨none,0,rfl,Rd.zero _ _ _,Nat.le_refl _,h3⟩
  | ok fs =>
   rw [hf] at h2;obtain ⟨v,rfl,hv,h3⟩ := h2;obtain ⟨A,c,rfl,h4,-,h5,-⟩ := Qed hv;exact ⟨A,c,rfl,h5,h4,h3⟩
theorem QgX {w : World} {q : Nat} {v : LineL} (hb : Blk w q 71 (Qad v)) (tmps : Array Value) (hp : tmps.getD 2 undef = .pointer (some ⟨q,0,none⟩)) : (results f43 tmps).run Tryz.prog w = .ok (.agg (Qad v)) w :=
 results_cell_row (P := Tryz.prog) (fn := f43) (p := 2) (ty := 71) rfl tmps _ q 71 (Qad v) (0,0) _ hp hb underlying71 rfl (Qa7 v)
theorem QkX : ParseC := by
 intro l x w hw hlen hx;subst hx;have hf1 := Fr.new w (.cells Z02 71) (fun _ => False);have HZ := Xi (show Blk _ w.heap.size 71 (Qad Qae) from Blk.made w 71 Z02);have HF := Xi hf1;have HP := Xi (QlP l (w.alloc (.cells Z02 71)) (by omega));have HT := Xi (Qf6 l);have HW := Xi (fun (W : World) (f : Fr w W (fun _ => False)) => hw.fr f);unfold Qb8;obtain ⟨⟨fs,c,k⟩,ho⟩ : ∃ o,S7.Qbi l = o := ⟨_,rfl⟩;rw [ho] at HP HT ⊢;clear hf1 hw ho;show Calls _ _ _ _ (fun e w' => e = .returned (QeL (if k ≠ 0 then QaC k c else Qdi fs)) ∧ _);by_cases hk : k = 0
 ·subst hk;rw [if_neg (by simp)];by_cases hne : fs = []
  ·subst hne;rw [show Qdi [] = Qae from rfl];go_enter func43,ntmps43;go_wp2_with fail;refine HP.out.mono ?_;rintro e w2 ⟨A,cap,rfl,-,-,hf2⟩;have HF2 := Xf HF hf2;have HZ2 := Xb hf2 HZ;clear hf2;go_wp2_with (
   refine Xs 71 w.heap.size 0 71 (Qad Qae) (Qad Qae) (Qad Qae) HZ2.out (Qa7 _) (Qar _) (Qaw _ _) ?_;intro w9 hf9 hb9;have HE := Xi hb9;have HFe := Xn HF2 hf9;clear hf9 hb9)
   (try simp only [Exit.inBlock,Exit.then]);exact bodyPost_ret (QgX HE.out _ rfl) rfl ⟨rfl,HFe.out⟩
  ·rw [QpJ fs hne];obtain ⟨X,hX⟩ : ∃ X,outL fs (QkK fs) id = X := ⟨_,rfl⟩;rw [hX];obtain ⟨n,hn⟩ : ∃ n,fs.length = n + 1 := by
    cases fs with
    | nil => exact absurd rfl hne
    | cons y r => exact ⟨r.length,rfl⟩
   have n0 : ((fs.length : Int) == 0) = false := by simp; omega
   clear hn;have HR := Xi (fun (A : Option Addr) (cap : Nat) (W : World) (hW : LOk W) (hfd : S7.FdAt W A fs) (hc : fs.length ≤ cap) => (show Calls Tryz.prog 68 #[.slice A fs.length cap] W fun e w' => e = .returned (.agg (Qad X)) ∧ Fr W w' (fun _ => False) by rw [← hX]; exact Qiy fs (fun y hy => Nat.le_trans (HT.out y hy) (by omega)) hne A cap W hW hfd hc));clear hX HT;go_enter func43,ntmps43;go_wp2_with fail;refine HP.out.mono ?_;rintro e w2 ⟨A,cap,rfl,hfd,hcap,hf2⟩;have HF2 := Xf HF hf2;have HZ2 := Xb hf2 HZ;have HR2 := Xi (HR.out A cap w2 (HW.out w2 HF2.out) hfd hcap);clear hf2 hfd;go_wp2_with fail;refine HR2.out.mono ?_;rintro e w3 ⟨rfl,hf3⟩;have HF3 := Xf HF2 hf3;have HZ3 := Xb hf3 HZ2;clear hf3;go_wp2_with (
   refine Xs 71 w.heap.size 0 71 (Qad Qae) (Qad X) (Qad X) HZ3.out (Qa7 _) (Qar _) (Qaw _ _) ?_;intro w9 hf9 hb9;have HE := Xi hb9;have HFe := Xn HF3 hf9;clear hf9 hb9)
   (try simp only [Exit.inBlock,Exit.then]);exact bodyPost_ret (QgX HE.out _ rfl) rfl ⟨rfl,HFe.out⟩
 ·rw [if_pos hk];have k0 : (k == 0) = false := by simpa using hk
  obtain ⟨X,hX⟩ : ∃ X,QaC k c = X := ⟨_,rfl⟩;rw [hX];have HQ := Xi (fun W => (show Calls Tryz.prog 67 #[intV k,intV c] W fun e w' => e = .returned (.agg (Qad X)) ∧ Fr W w' (fun _ => False) by rw [← hX]; exact Qbv k c W));clear hX;go_enter func43,ntmps43;go_wp2_with fail;refine HP.out.mono ?_;rintro e w2 ⟨A,cap,rfl,-,-,hf2⟩;have HF2 := Xf HF hf2;have HZ2 := Xb hf2 HZ;clear hf2;go_wp2_with fail;refine (HQ.out _).mono ?_;rintro e w3 ⟨rfl,hf3⟩;have HF3 := Xf HF2 hf3;have HZ3 := Xb hf3 HZ2;clear hf3;go_wp2_with (
   refine Xs 71 w.heap.size 0 71 (Qad Qae) (Qad X) (Qad X) HZ3.out (Qa7 _) (Qar _) (Qaw _ _) ?_;intro w9 hf9 hb9;have HE := Xi hb9;have HFe := Xn HF3 hf9;clear hf9 hb9)
  (try simp only [Exit.inBlock,Exit.then]);exact bodyPost_ret (QgX HE.out _ rfl) rfl ⟨rfl,HFe.out⟩
end Go.Proofs.YtodcnbejnchmhaaGreatDoor
namespace Go.Proofs.YtodcnbejnchmhaaGreatDoor
open _root_.Go.Proofs.Tryz
open Go.RowKit Go.Mem Go.Lin Go.Dcm

def strL (s : Bs) : List Value := [strV s]
theorem strL_len (s : Bs) : (strL s).length = 1 := rfl
theorem Qfv (l : List Bs) : l.flatMap strL = l.map strV := by
 induction l with
 | nil => rfl
 | cons x l ih => rw [List.flatMap_cons,ih]; rfl
/-- a row of the call's own,all of it just made -/
theorem own_all {X : Type} {w : World} {base : Nat} {e : TypeId} {k : Nat} {f : X → List Value} {l : List X} (cs : Array Value) (hb : base ≤ w.heap.size) (hc : cs.toList = l.flatMap f) (hk : ∀ x,(f x).length = k) (hl : l.length ≤ maxLen) : Own (w.alloc (.cells cs e)) base e k f (.slice (some ⟨w.heap.size,0,none⟩) l.length l.length) l := by
 have hs : cs.toList.length = l.length * k := by rw [hc,Qbk f k hk]
 refine ⟨by rw [← hc,hs],.inr ⟨w.heap.size,l.length,cs,rfl,hb,Blk.made w e cs,Nat.le_refl _,hl,by simpa using hs,?_⟩⟩;rw [hc,List.take_of_length_le (by rw [← hc,hs]; exact Nat.le_refl _)]
theorem QlM (l : Bs) (w : World) (hl : l.length ≤ 1000000) (hw : S8.WOk w) : Calls Tryz.prog 64 #[strV l,.string ⟨#[10]⟩] w fun e w' =>
  e = .returned (.slice (some ⟨w.heap.size,0,none⟩) (Go.Rope.Qas l).length (Go.Rope.Qas l).length) ∧ Own w' w.heap.size 9 1 strL (.slice (some ⟨w.heap.size,0,none⟩) (Go.Rope.Qas l).length (Go.Rope.Qas l).length) (Go.Rope.Qas l) ∧ Fr w w' (fun _ => False) := by
 obtain ⟨m,hm⟩ := hw.max;have hsz := Qal l;refine (Tryz.strings_Split ⟨l.toArray⟩ ⟨#[10]⟩ m w (by omega) hm (by decide)).mono ?_;rintro e w2 ⟨rfl,rfl⟩;have hd : (Lib.splitB ⟨#[10]⟩ 0 (Lib.countB ⟨l.toArray⟩ ⟨#[10]⟩) ⟨l.toArray⟩).map (·.data.toList) = Go.Rope.Qas l := by
  rw [Lib.splitB_data,← QgL];simp [Lib.split,Lib.countB]
 have hn : Lib.countB ⟨l.toArray⟩ ⟨#[10]⟩ + 1 = (Go.Rope.Qas l).length := by
  rw [← hd,List.length_map,Lib.splitB_all _ (by decide) 0 _ _ rfl]
 have hcs : (Lib.splitB ⟨#[10]⟩ 0 (Lib.countB ⟨l.toArray⟩ ⟨#[10]⟩) ⟨l.toArray⟩).map Value.string = (Go.Rope.Qas l).map strV := by
  rw [← hd,List.map_map];exact List.map_congr_left fun s _ => S8.QeU s
 rw [hcs,hn];have hle := (Qft l).1;exact ⟨rfl,own_all _ (Nat.le_refl _) (by rw [Qfv]) strL_len (by simp only [maxLen]; omega),Fr.new _ _ _⟩
theorem Trim_any (l x : Bs) (hx : Qcn l = x) (w : World) (hl : l.length ≤ 1000000) : Calls Tryz.prog 65 #[strV l,.string ⟨#[13]⟩] w fun e w' => e = .returned (strV x) ∧ w' = w := by
 have hsz := Qal l;refine (Tryz.strings_TrimSuffix ⟨l.toArray⟩ ⟨#[13]⟩ w (by omega)).mono ?_;rintro e w2 ⟨rfl,rfl⟩;refine ⟨?_,rfl⟩;have : Lib.trimSuffix l [13] = x := by rw [QmZ,hx]
 show Ending.returned (.string ⟨(Lib.trimSuffix l [13]).toArray⟩) = _;rw [this]
/-- lines,the first i of them cut -/
def upD (L : List Bs) (i : Nat) : List Bs := (L.take i).map Qcn ++ L.drop i
theorem Qfc (L : List Bs) (i : Nat) : (upD L i).length = L.length := by
 unfold upD;rw [List.length_append,List.length_map,List.length_take,List.length_drop];omega
theorem Qok (L : List Bs) (i : Nat) (h : i < L.length) : (upD L i).set i (Qcn L[i]) = upD L (i + 1) := by
 unfold upD;rw [List.drop_eq_getElem_cons h,List.set_append_right _ _ (by rw [List.length_map,List.length_take]; omega),List.length_map,List.length_take,Nat.min_eq_left (Nat.le_of_lt h),Nat.sub_self,List.set_cons_zero,List.take_succ_eq_append_getElem h,List.map_append,List.append_assoc];rfl
theorem up_at (L : List Bs) (i : Nat) (h : i < L.length) : (upD L i)[i]? = some L[i] := by
 unfold upD;rw [List.getElem?_append_right (by rw [List.length_map,List.length_take]; omega),List.length_map,List.length_take,Nat.min_eq_left (Nat.le_of_lt h),Nat.sub_self,List.drop_eq_getElem_cons h];rfl
theorem up_all (L : List Bs) : upD L L.length = L.map Qcn := by simp [upD]
/-- a row of texts,one of them turned -/
theorem QoB {w : World} {B b n c : Nat} {l : List Bs} (h : Own w B 9 1 strL (.slice (some ⟨b,0,none⟩) n c) l) (hn : n = l.length) (i : Nat) (x : Bs) : Own (w.setCell ⟨b,i,none⟩ (strV x)) B 9 1 strL (.slice (some ⟨b,0,none⟩) n c) (l.set i x) := by
 subst hn;have h1 := (World.ownsRow.stored h i (strV x)).1;show World.ownsRow _ _ _ _ _ (l.set i x).length _;rw [Qfv,List.length_set,List.map_set];rw [Qfv] at h1;exact h1
theorem Ql2 {w : World} {B b n c : Nat} {l : List Bs} (h : Own w B 9 1 strL (.slice (some ⟨b,0,none⟩) n c) l) (hn : n = l.length) {i : Nat} {x : Bs} (hx : l[i]? = some x) : w.cell? ⟨b,i,none⟩ = some (strV x) ∧ w.frozen? ⟨b,i,none⟩ = false := by
 subst hn;refine ⟨?_,World.ownsRow.frozenAt h i⟩;have := h.cells (g := b) rfl i (strV x) (by rw [Qfv,List.getElem?_map,hx]; rfl);have hadd : (⟨b,0,none⟩ : Addr).add i = ⟨b,0 + i,none⟩ := by unfold Addr.add; split <;> simp_all
 rw [hadd,Nat.zero_add] at this;exact this
def TPost (l : List Bs) (w : World) (e : Ending) (w' : World) : Prop := ∃ b c,e = .returned (.slice (some ⟨b,0,none⟩) l.length c) ∧ w.heap.size ≤ b ∧ Own w' w.heap.size 9 1 strL (.slice (some ⟨b,0,none⟩) l.length c) l ∧ Fr w w' (fun _ => False)
def LI (w : World) (L : List Bs) (H : Nat) (k : Nat) (v : Value) (wr : World) : Prop := ∃ i : Nat,i + k = L.length ∧ v = intV (i : Int) ∧ Own wr w.heap.size 9 1 strL (.slice (some ⟨H,0,none⟩) L.length L.length) (upD L i) ∧ Fr w wr (fun _ => False)
theorem Qn1 (l : Bs) (w : World) (hw : S8.WOk w) (hl : l.length ≤ 1000000) : Calls Tryz.prog 42 #[strV l] w (TPost (QdY l) w) := by
 have HS := Xi (QlM l w hl hw);obtain ⟨L,hL⟩ : ∃ L,Go.Rope.Qas l = L := ⟨_,rfl⟩;have hle := Qft l;rw [hL] at HS hle;have HD := Xi (show QdY l = upD L L.length by rw [up_all,← hL]; rfl);have HLE := Xi (show ∀ x ∈ L,x.length ≤ 1000000 from fun x hx => Nat.le_trans (hle.2 x hx) hl);have hn : L.length ≤ 1000001 := by omega
 rw [HD.out];clear hw hL hle hl;go_enter func42,ntmps42;go_wp2_with fail;refine HS.out.mono ?_;rintro e w2 ⟨rfl,ho,hf⟩;have HI := Xi (show LI w L w.heap.size L.length (intV 0) w2 from ⟨0,by simp,rfl,by simpa [upD] using ho,hf⟩);clear ho hf;go_wp2_with fail
 go_loopg [4,5,10] L.length (fun k _ _ v10 wr => LI w L w.heap.size k v10 wr)
 case atStart => exact HI.out
 case round =>
  obtain ⟨i,hik,rfl,ho,hf⟩ := hrel;by_cases hlt : i < L.length
  ·obtain ⟨c1,f1⟩ := Ql2 ho (Qfc L i).symm (up_at L i hlt);have HU := Xi (Qok L i hlt);have HO := Xi ho;have HF := Xi hf;have hi1 : (i : Int) < (L.length : Int) := by omega
   have hxl := HLE.out L[i] (List.getElem_mem hlt);obtain ⟨x,hx⟩ : ∃ x,L[i] = x := ⟨_,rfl⟩;rw [hx] at c1 HU hxl;obtain ⟨y,hy⟩ : ∃ y,Qcn x = y := ⟨_,rfl⟩;have HT := Xi (fun W => Trim_any x y hy W hxl);rw [hy] at HU;clear ho hf hx hy hxl;go_wp2_with fail;refine (HT.out _).mono ?_;rintro e w3 ⟨rfl,rfl⟩;go_wp2_with fail
   go_roundg (gk - 1)
   case measure => omega
   case rel =>
    refine ⟨i + 1,by omega,by go_num,?_,HF.out.fresh (Fr.set (S := fun k => k = w.heap.size) rfl) (fun i e => by omega)⟩;have := QoB HO.out (Qfc L i).symm i y;rw [HU.out] at this;exact this
  ·obtain rfl : i = L.length := by omega
   have hi1 : (L.length : Int) ≤ (L.length : Int) := Int.le_refl _;have HO := Xi ho;have HF := Xi hf;clear ho hf;go_wp2_with fail;go_ret;refine ⟨w.heap.size,L.length,by rw [Qfc]; rfl,Nat.le_refl _,by rw [Qfc]; exact HO.out,HF.out⟩
/- light -/
end Go.Proofs.YtodcnbejnchmhaaGreatDoor
