import Derived.Test.YtodcnbejnchmhaaGreatDoorYc36
import Derived.Deep.LoopGhost
import Derived.Laws.EntriesVeiled
set_option maxRecDepth 100000
set_option maxHeartbeats 6400000
namespace Go.Proofs.YtodcnbejnchmhaaGreatDoor
open _root_.Go.Proofs.Tryz
open Go.RowKit Go.Mem Go.Lin

theorem res_only {w : World} {q : Nat} {v : UntilL} (hb : Blk w q 67 (tilC v)) (tmps : Array Value) (hp : tmps.getD 2 undef = .pointer (some ⟨q,0,none⟩)) : (results f204 tmps).run Tryz.prog w = .ok (.agg (tilC v)) w :=
 results_cell_row (P := Tryz.prog) (fn := f204) (p := 2) (ty := 67) rfl tmps _ q 67 (tilC v) (0,0) _ hp hb underlying67 rfl (QaR v)
theorem Qjq {w : World} {q : Nat} {v : UntilL} (hb : Blk w q 67 (tilC v)) (tmps : Array Value) (hp : tmps.getD 2 undef = .pointer (some ⟨q,0,none⟩)) : (results f177 tmps).run Tryz.prog w = .ok (.agg (tilC v)) w :=
 results_cell_row (P := Tryz.prog) (fn := f177) (p := 2) (ty := 67) rfl tmps _ q 67 (tilC v) (0,0) _ hp hb underlying67 rfl (QaR v)
theorem QjB (y : Int) (w : World) : Calls Tryz.prog 204 #[intV y] w fun e w' => e = .returned (.agg (tilC ⟨true,y,1,day1,atZ⟩)) ∧ Fr w w' (fun _ => False) := by
 go_enter func204,ntmps204;go_wp2_with (
   refine Xs 67 w.heap.size 0 67 (tilC tilZ) (tilC ⟨true,y,1,day1,atZ⟩) (tilC ⟨true,y,1,day1,atZ⟩) (Blk.made w 67 (tilC tilZ)) (QaR _) (Qaz _) (QbX _ _) ?_;intro w3 hf3 hb3;have HF3 := Xi ((Fr.new w _ (fun _ => False)).fresh hf3 (fun i e => by omega));have HB3 := Xi hb3;clear hf3 hb3)
 (try simp only [Exit.inBlock,Exit.then]);exact bodyPost_ret (res_only HB3.out _ rfl) rfl ⟨rfl,HF3.out⟩
theorem QjR {a c d : World} {b u : Nat} (h : Fr a c (· = b)) (h2 : Fr c d (fun i => i = b ∨ i = u)) (hu : a.heap.size ≤ u) : Fr a d (· = b) := h.trans h2 (fun _ _ h => h) (fun i hi x => x.elim id (fun e => by omega))
abbrev ptrV (b : Nat) : Value := .pointer (some ⟨b,0,none⟩)
abbrev cloV (k q u : Nat) : Value := .func (.func k) #[] #[ptrV q,ptrV u]
theorem QmU (_fs : List Qat) (_w0 w : World) (b g : Nat) (h : LeftAt w b g []) (_hg : g < w.heap.size) :
  Calls Tryz.prog 177 #[ptrV b] w fun e w' => e = .returned (.agg (tilC tilZ)) ∧ LeftAt w' b g [] ∧ Fr w w' (fun _ => False) := by
 have hbs := h.lt;have hf1 := Fr.new w (.cells #[ptrV b] 175) (fun _ => False);have hf2 := Fr.new (w.alloc (.cells #[ptrV b] 175)) (.cells Z01 67) (fun _ => False);have hsz : (w.alloc (.cells #[ptrV b] 175)).heap.size = w.heap.size + 1 := by simp
 have hb2 := Blk.made (w.alloc (.cells #[ptrV b] 175)) 67 Z01;rw [hsz] at hb2;have HZ := Xi (show Blk _ (w.heap.size + 1) 67 (tilC tilZ) from hb2);have HQ := Xi (hf2.blk (Blk.made w 175 #[ptrV b]) (fun h => h));have HF := Xi (ff hf1 hf2);obtain ⟨A,c,hb,-,-,-⟩ := h.fr HF.out (fun h => h) (fun h => h);have d0 := Qaj hb 0 _ rfl;simp only [List.length_nil] at d0;have HL := Xi h;clear hf1 hf2 hb2 hsz hb h;go_enter func177,ntmps177;go_wp2_with (
   refine Xs 67 (w.heap.size + 1) 0 67 (tilC tilZ) (tilC tilZ) (tilC tilZ) HZ.out (QaR _) (Qaz _) (QbX _ _) ?_;intro w3 hf3 hb3;have HF3 := Xn HF hf3;have HB3 := Xi hb3;clear hf3 hb3)
 (try simp only [Exit.inBlock,Exit.then]);exact bodyPost_ret (Qjq HB3.out _ rfl) rfl ⟨rfl,HL.out.fr HF3.out (fun h => h) (fun h => h),HF3.out⟩
theorem QmS (fs : List Qat) (hz : ∀ x ∈ fs,x.1.length ≤ 100000) (a n : Nat) (hn : a + n = fs.length) (h1 : 1 ≤ n) (h4 : n ≤ 4) (w0 w : World) (b g : Nat) (ho : Ok w0 w b g) (h : LeftAt w b g (fs.drop a)) (hgs : g < w.heap.size) :
  Calls Tryz.prog 177 #[ptrV b] w (Ran fs g b fs.length (Qeb (fs.map (·.1)) a n 0 Qau) tilV w) := by
 obtain ⟨R,hR⟩ : ∃ R,Qeb (fs.map (·.1)) a n 0 Qau = R := ⟨_,rfl⟩;rw [hR];have HR := Xi hR;have hbs := h.lt;have hf1 := Fr.new w (.cells #[ptrV b] 175) (fun _ => False);have hf2 := Fr.new (w.alloc (.cells #[ptrV b] 175)) (.cells Z01 67) (fun _ => False);have hsz : (w.alloc (.cells #[ptrV b] 175)).heap.size = w.heap.size + 1 := by simp
 have hb2 := Blk.made (w.alloc (.cells #[ptrV b] 175)) 67 Z01;rw [hsz] at hb2;have HZ := Xi (show Blk _ (w.heap.size + 1) 67 (tilC tilZ) from hb2);have HQ := Xi (hf2.blk (Blk.made w 175 #[ptrV b]) (fun h => h));have HF := Xi (ff hf1 hf2);obtain ⟨A,c,hb,-,-,-⟩ := h.fr HF.out (fun h => h) (fun h => h);have d0 := Qaj hb 0 _ rfl;rw [show (fs.drop a).length = n by rw [List.length_drop]; omega] at d0 hb;have HB := Xi hb;have HL := Xi (h.fr HF.out (fun h => h) (fun h => h));have HO := Xi ho;have HY := Xi (fun W => QjB 0 W);have n0 : ((n : Int) == 0) = false := by simp; omega
 have n4 : (n : Int) ≤ 4 := by omega
 have n1 : (0 : Int) ≤ (n : Int) := by omega
 clear hR hf1 hf2 hb2 hsz hb h ho;go_enter func177,ntmps177;go_wp2_with fail;refine (HY.out _).mono ?_;rintro e w2 ⟨rfl,hf2⟩;have hs2 := hf2.size;simp at hs2;have HB2 := Xb hf2 HB;have HZ2 := Xb hf2 HZ;have HQ2 := Xb hf2 HQ;have HL2 := Xi (HL.out.fr hf2 (fun h => h) (fun h => h));have HF2 := Xf HF hf2;clear hf2 HB HZ HQ HL HF HY d0;go_wp2_with (
   refine Xs 67 w2.heap.size 0 67 (tilC tilZ) (tilC Qau) (tilC Qau) (Blk.made w2 67 (tilC tilZ)) (QaR _) (Qaz _) (QbX _ _) ?_;intro w3 hf3 hb3;have hf23 := (Fr.new w2 (.cells (tilC tilZ) 67) (fun _ => False)).fresh hf3 (fun i e => by omega);have hs3 : w2.heap.size + 1 ≤ w3.heap.size := by have := hf3.size; simp at this; exact this
   have hfa := Fr.new w3 (.cells #[cloV 205 w.heap.size w2.heap.size,cloV 206 w.heap.size w2.heap.size,cloV 207 w.heap.size w2.heap.size,cloV 208 w.heap.size w2.heap.size] 249) (fun _ => False);have d3 := Qaj (hfa.blk (hf23.blk HB2.out (fun h => h)) (fun h => h)) 0 _ rfl;have q3 := Qaj (hfa.blk (hf23.blk HQ2.out (fun h => h)) (fun h => h)) 0 _ rfl;have HQ4 := Xi (hfa.blk (hf23.blk HQ2.out (fun h => h)) (fun h => h));have HZ4 := Xi (hfa.blk (hf23.blk HZ2.out (fun h => h)) (fun h => h));have HU4 := Xi (hfa.blk hb3 (fun h => h));have HL4 := Xi ((HL2.out.fr hf23 (fun h => h) (fun h => h)).fr hfa (fun h => h) (fun h => h));have HF4 := Xi (ff (ff HF2.out hf23) hfa);have HA3 := Xi (Blk.made w3 249 #[cloV 205 w.heap.size w2.heap.size,cloV 206 w.heap.size w2.heap.size,cloV 207 w.heap.size w2.heap.size,cloV 208 w.heap.size w2.heap.size]);clear hf3 hb3 hf23 hfa HB2 HZ2 HQ2 HL2 HF2)
 go_loopg [6,27] n (fun k _ v27 wr => ∃ (j : Nat) (U : UntilL),j + k = n ∧ v27 = .int .i64 (j : Int) ∧ Qeb (fs.map (·.1)) a k j U = R ∧ Blk wr w2.heap.size 67 (tilC U) ∧ LeftAt wr b g (fs.drop (a + j)) ∧ Blk wr w3.heap.size 249 #[cloV 205 w.heap.size w2.heap.size,cloV 206 w.heap.size w2.heap.size,cloV 207 w.heap.size w2.heap.size,cloV 208 w.heap.size w2.heap.size] ∧ Blk wr w.heap.size 175 #[ptrV b] ∧ Blk wr (w.heap.size + 1) 67 (tilC tilZ) ∧ Fr w wr (· = b))
 case atStart => exact ⟨0,Qau,by omega,rfl,HR.out,HU4.out,HL4.out,HA3.out,HQ4.out,HZ4.out,fr_b HF4.out⟩
 case round =>
  obtain ⟨j,U,hj,rfl,hr,hu,hl,ha,hq,hzz,hf⟩ := hrel;have HU := Xi hu;have HL := Xi hl;have HA := Xi ha;have HQ := Xi hq;have HZ := Xi hzz;have HF := Xi hf;have HR1 := Xi hr;have ho := Ok.on HO.out hf;have HO1 := Xi ho;clear hu hl ha hq hzz hf hr ho HR d3 q3 HQ4 HZ4 HU4 HL4 HF4 HA3 HO;by_cases hlt : j < n
  ·obtain ⟨k',rfl⟩ : ∃ k',gk = k' + 1 := ⟨gk - 1,by omega⟩;have hj4 : j = 0 ∨ j = 1 ∨ j = 2 ∨ j = 3 := by omega
   have i0 : (j : Int) < (n : Int) := by omega
   rcases hj4 with rfl | rfl | rfl | rfl
   ·have a0 := Qaj HA.out 0 _ rfl;have hr := HR1.out;rw [Qeb] at hr;have HC := Xi (QmY fs hz a (by omega) U w0 wr b g w.heap.size w2.heap.size HO1.out HL.out (Qaj HQ.out 0 _ rfl) HU.out (by omega) (by omega));obtain ⟨S,hS⟩ : ∃ S,Qdl (fs.map (·.1)) a 0 U = S := ⟨_,rfl⟩;rw [hS] at hr HC;clear hS HR1;cases S with
    | error x =>
     have hr : Except.error x = R := hr;subst hr;go_wp2_with fail;refine HC.out.mono ?_;rintro e w5 ⟨rfl,hf5⟩;have HF5 := Xi hf5;clear hf5;go_wp2_with fail;exact ⟨rfl,rfl,QjR HF.out HF5.out (by omega)⟩
    | ok V =>
     have HV := Xi (show Qeb (fs.map (·.1)) a k' 1 V = R from hr);clear hr;go_wp2_with fail;refine HC.out.mono ?_;rintro e w5 ⟨rfl,hb5,hl5,hf5⟩;have HB5 := Xi hb5;have HL5 := Xi hl5;have HF5 := Xi hf5;clear hb5 hl5 hf5;go_wp2_with fail
     go_roundg k'
     case measure => omega
     case rel => exact ⟨1,V,by omega,by first | rfl | go_num,HV.out,HB5.out,HL5.out,HF5.out.blk HA.out (by omega),HF5.out.blk HQ.out (by omega),HF5.out.blk HZ.out (by omega),QjR HF.out HF5.out (by omega)⟩
   ·have a0 := Qaj HA.out 1 _ rfl;have hr := HR1.out;rw [Qeb] at hr;have HC := Xi (QmX fs hz a (by omega) U w0 wr b g w.heap.size w2.heap.size HO1.out HL.out (Qaj HQ.out 0 _ rfl) HU.out (by omega) (by omega));obtain ⟨S,hS⟩ : ∃ S,Qdl (fs.map (·.1)) a 1 U = S := ⟨_,rfl⟩;rw [hS] at hr HC;clear hS HR1;cases S with
    | error x =>
     have hr : Except.error x = R := hr;subst hr;go_wp2_with fail;refine HC.out.mono ?_;rintro e w5 ⟨rfl,hf5⟩;have HF5 := Xi hf5;clear hf5;go_wp2_with fail;exact ⟨rfl,rfl,QjR HF.out HF5.out (by omega)⟩
    | ok V =>
     have HV := Xi (show Qeb (fs.map (·.1)) a k' 2 V = R from hr);clear hr;go_wp2_with fail;refine HC.out.mono ?_;rintro e w5 ⟨rfl,hb5,hl5,hf5⟩;have HB5 := Xi hb5;have HL5 := Xi hl5;have HF5 := Xi hf5;clear hb5 hl5 hf5;go_wp2_with fail
     go_roundg k'
     case measure => omega
     case rel => exact ⟨2,V,by omega,by first | rfl | go_num,HV.out,HB5.out,HL5.out,HF5.out.blk HA.out (by omega),HF5.out.blk HQ.out (by omega),HF5.out.blk HZ.out (by omega),QjR HF.out HF5.out (by omega)⟩
   ·have a0 := Qaj HA.out 2 _ rfl;have hr := HR1.out;rw [Qeb] at hr;have HC := Xi (QmW fs hz a (by omega) U w0 wr b g w.heap.size w2.heap.size HO1.out HL.out (Qaj HQ.out 0 _ rfl) HU.out (by omega) (by omega));obtain ⟨S,hS⟩ : ∃ S,Qdl (fs.map (·.1)) a 2 U = S := ⟨_,rfl⟩;rw [hS] at hr HC;clear hS HR1;cases S with
    | error x =>
     have hr : Except.error x = R := hr;subst hr;go_wp2_with fail;refine HC.out.mono ?_;rintro e w5 ⟨rfl,hf5⟩;have HF5 := Xi hf5;clear hf5;go_wp2_with fail;exact ⟨rfl,rfl,QjR HF.out HF5.out (by omega)⟩
    | ok V =>
     have HV := Xi (show Qeb (fs.map (·.1)) a k' 3 V = R from hr);clear hr;go_wp2_with fail;refine HC.out.mono ?_;rintro e w5 ⟨rfl,hb5,hl5,hf5⟩;have HB5 := Xi hb5;have HL5 := Xi hl5;have HF5 := Xi hf5;clear hb5 hl5 hf5;go_wp2_with fail
     go_roundg k'
     case measure => omega
     case rel => exact ⟨3,V,by omega,by first | rfl | go_num,HV.out,HB5.out,HL5.out,HF5.out.blk HA.out (by omega),HF5.out.blk HQ.out (by omega),HF5.out.blk HZ.out (by omega),QjR HF.out HF5.out (by omega)⟩
   ·have a0 := Qaj HA.out 3 _ rfl;have hr := HR1.out;rw [Qeb] at hr;have HC := Xi (QmV fs hz a (by omega) U w0 wr b g w.heap.size w2.heap.size HO1.out HL.out (Qaj HQ.out 0 _ rfl) HU.out (by omega) (by omega));obtain ⟨S,hS⟩ : ∃ S,Qdl (fs.map (·.1)) a 3 U = S := ⟨_,rfl⟩;rw [hS] at hr HC;clear hS HR1;cases S with
    | error x =>
     have hr : Except.error x = R := hr;subst hr;go_wp2_with fail;refine HC.out.mono ?_;rintro e w5 ⟨rfl,hf5⟩;have HF5 := Xi hf5;clear hf5;go_wp2_with fail;exact ⟨rfl,rfl,QjR HF.out HF5.out (by omega)⟩
    | ok V =>
     have HV := Xi (show Qeb (fs.map (·.1)) a k' 4 V = R from hr);clear hr;go_wp2_with fail;refine HC.out.mono ?_;rintro e w5 ⟨rfl,hb5,hl5,hf5⟩;have HB5 := Xi hb5;have HL5 := Xi hl5;have HF5 := Xi hf5;clear hb5 hl5 hf5;go_wp2_with fail
     go_roundg k'
     case measure => omega
     case rel => exact ⟨4,V,by omega,by first | rfl | go_num,HV.out,HB5.out,HL5.out,HF5.out.blk HA.out (by omega),HF5.out.blk HQ.out (by omega),HF5.out.blk HZ.out (by omega),QjR HF.out HF5.out (by omega)⟩
  ·obtain rfl : j = n := by omega
   obtain rfl : gk = 0 := by omega
   have hr : Except.ok U = R := HR1.out;subst hr;clear HR1;go_wp2_with (first
    | (refine Xl 67 w2.heap.size 0 67 (tilC U) (tilC U) HU.out underlying67 (QaR _) (Qaf _) ?_)
    | (
     refine Xs 67 (w.heap.size + 1) 0 67 (tilC tilZ) (tilC U) (tilC U) HZ.out (QaR _) (Qaz _) (QbX _ _) ?_;intro w6 hf6 hb6;have HB6 := Xi hb6;have HF6 := Xi (Qbd HF.out hf6 (fun i e => by omega));have HL6 := Xi (HL.out.fr hf6 (by omega) (by omega));clear hf6 hb6))
   (try simp only [Exit.inBlock,Exit.then]);have hl6 := HL6.out;rw [hn] at hl6;exact bodyPost_ret (Qjq HB6.out _ rfl) rfl ⟨rfl,hl6,HF6.out⟩
theorem Qol (fs : List Qat) (hz : ∀ x ∈ fs,x.1.length ≤ 100000) (a : Nat) (h1 : a ≤ fs.length) (h2 : fs.length ≤ a + 4) (w0 w : World) (b g : Nat) (ho : Ok w0 w b g) (h : LeftAt w b g (fs.drop a)) (hgs : g < w.heap.size) :
  Calls Tryz.prog 177 #[ptrV b] w (Ran fs g b fs.length (if a < (fs.map (·.1)).length then Qcs (fs.map (·.1)) a else .ok tilZ) tilV w) := by
 have hl : (fs.map (·.1)).length = fs.length := List.length_map _;by_cases hlt : a < fs.length
 ·rw [if_pos (by rw [hl]; exact hlt),QmT (fs.map (·.1)) a (by rw [hl]; exact hlt) (by rw [hl]; exact h2),hl];exact QmS fs hz a (fs.length - a) (by omega) (by omega) (by omega) w0 w b g ho h hgs
 ·obtain rfl : a = fs.length := by omega
  rw [if_neg (by rw [hl]; exact hlt)];rw [List.drop_length] at h;refine (QmU fs w0 w b g h hgs).mono ?_;rintro e w' ⟨rfl,hl2,hf⟩;exact ⟨rfl,by rw [List.drop_length]; exact hl2,fr_b hf⟩
theorem res_era {w : World} {q : Nat} {v : EraL} (hb : Blk w q 69 (eraC v)) (tmps : Array Value) (hp : tmps.getD 2 undef = .pointer (some ⟨q,0,none⟩)) : (results f144 tmps).run Tryz.prog w = .ok (.agg (eraC v)) w :=
 results_cell_row (P := Tryz.prog) (fn := f144) (p := 2) (ty := 69) rfl tmps _ q 69 (eraC v) (0,0) _ hp hb underlying69 rfl (QaK v)
theorem Ql7 (fs : List Qat) (hz : ∀ x ∈ fs,x.1.length ≤ 100000) (a : Nat) (ha : a + 3 ≤ fs.length) (hb7 : fs.length ≤ a + 7) (w0 w : World) (b g : Nat) (ho : Ok w0 w b g) (h : LeftAt w b g (fs.drop a)) :
  Calls Tryz.prog 144 #[.pointer (some ⟨b,0,none⟩)] w (Ran fs g b fs.length (eraP (fs.map (·.1)) a) eraV w) := by
 have hbs := h.lt;have hgs : g < w.heap.size := by
  have h2 := h;rw [Qgd fs a (by omega)] at h2;obtain ⟨_,_,_,_,cg,_,_⟩ := h2.open;exact World.block_lt_of_cell? w _ cg
 obtain ⟨R,hR⟩ : ∃ R,eraP (fs.map (·.1)) a = R := ⟨_,rfl⟩;rw [hR];unfold eraP at hR;have hf1 := Fr.new w (.cells Z03 69) (fun _ => False);have HZ0 := Xi (show Blk _ w.heap.size 69 (eraC eraZ) from Blk.made w 69 Z03);have HL0 := Xi (h.fr hf1 (fun h => h) (fun h => h));have HF0 := Xi (fr_b (b := b) hf1);have HO0 := Xi (ho.on HF0.out);have HG := Xi (Qeh hz);have HN := Xi hz;clear hf1 h ho hz;have HR := Xi hR;clear hR;go_enter func144,ntmps144;go_wp2_with fail;rcases (Qdf (gt (fs.map (·.1)) a)).symm with ⟨hv,hp⟩ | ⟨off,hv,hp⟩
 ·
  have hR := HR.out;rw [hp] at hR;simp only [QaH,Qap] at hR;subst hR;refine (Qc3 170 (fun a W => Tryz.call170 a W) #[] #[strV (gt (fs.map (·.1)) a)] _ b g fs a (by omega) HL0.out rfl 0 7 (by decide) (by intro W f; with_reducible exact QcI _ (by have := HG.out a; omega) W _ _ hv)).mono ?_;rintro e wn ⟨rfl,hfn⟩;have HFn := Xi hfn;clear hfn;go_wp2_with fail;exact ⟨rfl,rfl,Qbp HF0.out (fr_b HFn.out)⟩
 have hR := HR.out;rw [hp] at hR;simp only [QaD,Qan] at hR;have HR := Xi hR;clear hR;refine (QdI 170 (fun a W => Tryz.call170 a W) #[] #[strV (gt (fs.map (·.1)) a)] _ b g fs a (by omega) HL0.out rfl HO0.out.hg off (by intro W f; with_reducible exact QcI _ (by have := HG.out a; omega) W _ _ hv)).mono ?_;rintro e wa0 ⟨rfl,hl0,hfa0⟩;have HL1 := Xi hl0;have HF1 := Xi (Qbp HF0.out hfa0);have HO1 := Xi (HO0.out.on hfa0);have hsa0 := hfa0.size;have HZ1 := Xo hfa0 HZ0;clear hl0 hfa0 HL0 HF0 HO0 HZ0;simp at hsa0;clear hv hp;go_wp2_with fail;rcases (Qky (gt (fs.map (·.1)) (a + 1))).symm with ⟨hv,hp⟩ | ⟨r,hv,hp⟩
 ·
  have hR := HR.out;rw [hp] at hR;simp only [QaH,Qap] at hR;subst hR;refine (Qov 175 (fun a W => Tryz.call175 a W) #[] #[strV (gt (fs.map (·.1)) (a + 1))] _ b g fs (a + 1) (by omega) HL1.out rfl (QcL (1,0,[])) 5 (by decide) (by intro W f; with_reducible exact Qjm _ (HG.out (a + 1)) W _ _ hv)).mono ?_;rintro e wn ⟨rfl,hfn⟩;have HFn := Xi hfn;clear hfn;go_wp2_with fail;exact ⟨rfl,rfl,Qbp HF1.out (fr_b HFn.out)⟩
 have hR := HR.out;rw [hp] at hR;simp only [QaD,Qan] at hR;have HR := Xi hR;clear hR;refine (takeE_at 175 (fun a W => Tryz.call175 a W) #[] #[strV (gt (fs.map (·.1)) (a + 1))] _ b g fs (a + 1) (by omega) HL1.out rfl HO1.out.hg (QcL r) (by intro W f; with_reducible exact Qjm _ (HG.out (a + 1)) W _ _ hv)).mono ?_;rintro e wa1 ⟨rfl,hl1,hfa1⟩;have HL2 := Xi hl1;have HF2 := Xi (Qbp HF1.out hfa1);have HO2 := Xi (HO1.out.on hfa1);have hsa1 := hfa1.size;have HZ2 := Xo hfa1 HZ1;clear hl1 hfa1 HL1 HF1 HO1 HZ1;clear hv hp;have e1 : eraC ⟨off,r.1,r.2.1,r.2.2,[],tilZ⟩ = eraC { QcL r with off := off } := rfl;go_wp2_with (first
  | (
   refine Xs 69 wa1.heap.size 0 69 (eraC eraZ) (eraC (QcL r)) (eraC (QcL r)) (Blk.made wa1 69 (eraC eraZ)) (QaK _) (Qax _) (Qbs _ _) ?_;intro w3 hf3 hb3;have hf23 := (Fr.new wa1 (.cells (eraC eraZ) 69) (fun _ => False)).fresh hf3 (fun i e => by omega);have hs3 : wa1.heap.size + 1 ≤ w3.heap.size := by have := hf3.size; simp at this; exact this
   have HX3 := Xi hb3;have HZ3 := Xb hf23 HZ2;have HL3 := Xi (HL2.out.fr hf23 (fun h => h) (fun h => h));have HF3 := Xi (Qbp HF2.out (fr_b hf23));have HO3 := Xi (HO2.out.on (fr_b hf23));clear hf3 hb3 hf23 HZ2 HL2 HF2 HO2)
  | (
   refine Xc 3 wa1.heap.size 0 69 (eraC (QcL r)) (eraC ⟨off,r.1,r.2.1,r.2.2,[],tilZ⟩) (intV off) HX3.out QaE (Qpn _ _) ?_;intro w4 hf4 hb4;have hs4 := hf4.size;have HX4 := Xi hb4;have HZ4 := Xo hf4 HZ3;have HL4 := Xi (HL3.out.fr hf4 (by omega) (by omega));have HF4 := Xi (Qbd HF3.out hf4 (fun i e => by omega));have HO4 := Xi (show Ok w0 w4 b g from ⟨HO3.out.lok,HO3.out.fr.fresh hf4 (fun i e => by have := HO3.out.hb; omega),HO3.out.hb,HO3.out.hg⟩);clear hf4 hb4 HX3 HZ3 HL3 HF3 HO3))
 clear e1;cases hp : Qck (gt (fs.map (·.1)) (a + 2))
 ·
  have hR := HR.out;rw [hp] at hR;simp only [Qa5,Qap] at hR;subst hR;refine (Qc2 176 (fun a W => Tryz.call176 a W) #[] #[strV (gt (fs.map (·.1)) (a + 2))] _ b g fs (a + 2) (by omega) HL4.out rfl (gt (fs.map (·.1)) (a + 2)) 15 (by decide) (by intro W f; with_reducible exact Qh9 _ (HG.out (a + 2)) W (HO4.out.at_ f) 15 (by simp [hp]))).mono ?_;rintro e wn ⟨rfl,hfn⟩;have HFn := Xi hfn;clear hfn;go_wp2_with fail;exact ⟨rfl,rfl,Qbp HF4.out (fr_b HFn.out)⟩
 have hR := HR.out;rw [hp] at hR;simp only [Qbr,Qan] at hR;have HR := Xi hR;clear hR;refine (QdH 176 (fun a W => Tryz.call176 a W) #[] #[strV (gt (fs.map (·.1)) (a + 2))] _ b g fs (a + 2) (by omega) HL4.out rfl HO4.out.hg (gt (fs.map (·.1)) (a + 2)) (by intro W f; with_reducible exact Qh9 _ (HG.out (a + 2)) W (HO4.out.at_ f) 0 (by simp [hp]))).mono ?_;rintro e wa4 ⟨rfl,hl4,hfa4⟩;have HL5 := Xi hl4;have HF5 := Xi (Qbp HF4.out hfa4);have HO5 := Xi (HO4.out.on hfa4);have hsa4 := hfa4.size;have HZ5 := Xo hfa4 HZ4;have HX5 := Xo hfa4 HX4;clear hl4 hfa4 HL4 HF4 HO4 HZ4 HX4;clear hp;go_wp2_with (
   refine Xc 9 wa1.heap.size 4 69 (eraC ⟨off,r.1,r.2.1,r.2.2,[],tilZ⟩) (eraC ⟨off,r.1,r.2.1,r.2.2,(gt (fs.map (·.1)) (a + 2)),tilZ⟩) (strV (gt (fs.map (·.1)) (a + 2))) HX5.out QaN (Qdw _ _) ?_;intro w6 hf6 hb6;have hs6 := hf6.size;have HX6 := Xi hb6;have HZ6 := Xo hf6 HZ5;have HL6 := Xi (HL5.out.fr hf6 (by omega) (by omega));have HF6 := Xi (Qbd HF5.out hf6 (fun i e => by omega));have HO6 := Xi (show Ok w0 w6 b g from ⟨HO5.out.lok,HO5.out.fr.fresh hf6 (fun i e => by have := HO5.out.hb; omega),HO5.out.hb,HO5.out.hg⟩);clear hf6 hb6 HX5 HZ5 HL5 HF5 HO5)
 have HU := Xi (Qol fs HN.out (a + 3) ha (by omega) w0 w6 b g HO6.out HL6.out (by omega));have hR := HR.out;obtain ⟨S,hS⟩ : ∃ S,(if a + 3 < (fs.map (·.1)).length then Qcs (fs.map (·.1)) (a + 3) else .ok tilZ) = S := ⟨_,rfl⟩;rw [hS] at hR HU;clear hS HR;cases S with
 | error x =>
  have hR : Except.error x = R := hR;subst hR;refine HU.out.mono ?_;rintro e wn ⟨rfl,hfn⟩;have HFn := Xi hfn;clear hfn;go_wp2_with fail;exact ⟨rfl,rfl,Qbp HF6.out HFn.out⟩
 | ok u =>
  have hR : Except.ok (⟨off,r.1,r.2.1,r.2.2,(gt (fs.map (·.1)) (a + 2)),u⟩ : EraL) = R := hR;subst hR;refine HU.out.mono ?_;rintro e w7 ⟨rfl,hl7,hf7⟩;have hs7 := hf7.size;have HX7 := Xo hf7 HX6;have HZ7 := Xo hf7 HZ6;have HL7 := Xi hl7;have HF7 := Xi (Qbp HF6.out hf7);clear hl7 hf7 HX6 HZ6 HL6 HF6 HU;go_wp2_with (first
   | (
    refine Xs 67 wa1.heap.size 5 69 (eraC ⟨off,r.1,r.2.1,r.2.2,(gt (fs.map (·.1)) (a + 2)),tilZ⟩) (tilC u) (eraC ⟨off,r.1,r.2.1,r.2.2,(gt (fs.map (·.1)) (a + 2)),u⟩) HX7.out (QaR _) (Qaz _) (Qg1 _ _) ?_;intro w8 hf8 hb8;have hs8 := hf8.size;have HX8 := Xi hb8;have HZ8 := Xo hf8 HZ7;have HL8 := Xi (HL7.out.fr hf8 (by omega) (by omega));have HF8 := Xi (Qbd HF7.out hf8 (fun i e => by omega));clear hf8 hb8 HX7 HZ7 HL7 HF7)
   | (refine Xl 69 wa1.heap.size 0 69 (eraC ⟨off,r.1,r.2.1,r.2.2,(gt (fs.map (·.1)) (a + 2)),u⟩) (eraC ⟨off,r.1,r.2.1,r.2.2,(gt (fs.map (·.1)) (a + 2)),u⟩) HX8.out underlying69 (QaK _) (Qaf _) ?_)
   | (
    refine Xs 69 w.heap.size 0 69 (eraC eraZ) (eraC ⟨off,r.1,r.2.1,r.2.2,(gt (fs.map (·.1)) (a + 2)),u⟩) (eraC ⟨off,r.1,r.2.1,r.2.2,(gt (fs.map (·.1)) (a + 2)),u⟩) HZ8.out (QaK _) (Qax _) (Qbs _ _) ?_;intro w9 hf9 hb9;have HE := Xi hb9;have HFe := Xi (Qbd HF8.out hf9 (fun i e => by omega));have HLe := Xi (HL8.out.fr hf9 (by omega) (by omega));clear hf9 hb9))
  (try simp only [Exit.inBlock,Exit.then]);exact bodyPost_ret (res_era HE.out _ rfl) rfl ⟨rfl,HLe.out,HFe.out⟩
end Go.Proofs.YtodcnbejnchmhaaGreatDoor
