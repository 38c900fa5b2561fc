import Derived.Test.YtlfjknndkjgciaaGreatDoorYd19
import Derived.Great.BuildSlice
set_option maxRecDepth 100000
set_option maxHeartbeats 3200000
namespace Go.Proofs.YtlfjknndkjgciaaGreatDoor
open _root_.Go.Proofs.Tryz
open Go.RowKit Go.Mem Go.Lin Go.Dcm

theorem info_r : (Tryz.prog.info? 33).map (·.size) = some 1 := by kernel_rfl
theorem Qgw : (Tryz.prog.info? 34).map (·.size) = some 1 := by kernel_rfl
theorem info_l : (Tryz.prog.info? 35).map (·.size) = some 1 := by kernel_rfl
theorem Qbt {s : StL} (h : size s ≤ 100000) : s.rules.length ≤ 100000 ∧ s.zones.length ≤ 100000 ∧ s.links.length ≤ 100000 ∧ s.diags.length ≤ 100000 := by
 unfold size at h;omega
theorem QhP (s : StL) (i : Int) : (brk s i).rules = s.rules ∧ (brk s i).links = s.links := by
 unfold brk;split <;> exact ⟨rfl,rfl⟩
/-- a row of one element is made -/
theorem QaT {P : Program} {o : Oper} {a : Act} {w : World} {K : Act → World → Prop} {Q : Exit → Act → World → Prop} {t e : TypeId} {y : Operand} {v : Value} {cs : Array Value} (ho : o.op = .buildSlice t 1 #[(0,y)]) (hy : a.eval y = v)
  (h : ∀ w,(Instr.buildSlice t 1 #[(0,v)]).run P w = .ok (.slice (some ⟨w.heap.size,0,none⟩) 1 1) (w.alloc (.cells cs e))) (hK : K (a.put o.dst (.slice (some ⟨w.heap.size,0,none⟩) 1 1)) (w.alloc (.cells cs e))) : o.wp P a w K Q := by
 unfold Oper.wp execOp;simp only [ho,Sem.run_bind,List.map_toArray,List.map_cons,List.map_nil,hy,h,Result.andThen_ok];exact hK
/-- a cell is read,or written -/
theorem QbP {P : Program} {o : Oper} {a : Act} {w : World} {K : Act → World → Prop} {Q : Exit → Act → World → Prop} {ty : TypeId} {x : Operand} {A : Addr} {v : Value} {d : TypeDesc} (ho : o.op = .load ty x) (hx : a.eval x = .pointer (some A)) (hc : w.cell? A = some v)
  (hu : P.underlying ty = some d) (hd : d.isRow = false) (hK : K (a.put o.dst v) w) : o.wp P a w K Q := by
 have hl : (loadVar ty A).run P w = .ok v w := by
  unfold loadVar isAgg;cases d <;> first | (simp [TypeDesc.isRow] at hd; done) | simp [run_underlying hu,hc]
 unfold Oper.wp execOp;simp only [ho,hx,Instr.loadAt,Instr.sureAddr,Sem.run_bind,Sem.run_pure,Result.andThen_ok,hl];exact hK
theorem Qbj {P : Program} {o : Oper} {a : Act} {w : World} {K : Act → World → Prop} {Q : Exit → Act → World → Prop} {ty t : TypeId} {x y : Operand} {g off : Nat} {old : Array Value} {v : Value} (ho : o.op = .store ty x y) (hd : o.dst = none) (hx : a.eval x = .pointer (some ⟨g,off,none⟩)) (hy : a.eval y = v) (hg : Blk w g t old)
  (hi : (P.info? ty).map (·.size) = some 1) (h1 : v.oneCell' = true) (hfit : off < old.size) (hK : K a (w.setCell ⟨g,off,none⟩ v)) : o.wp P a w K Q := by
 unfold Oper.wp execOp;simp only [ho,hx,hy,Instr.storeAt,Instr.sureAddr,Sem.run_bind,Sem.run_pure,Result.andThen_ok,QdX w g off t ty old v hg hi h1 hfit];simpa only [Oper.upon,hd,Act.put] using hK
/-- what a region's loads want of the world -/
def HS (g q : Nat) (i : Int) (x : LineL) (w : World) : Prop := w.cell? ⟨g,4,none⟩ = some (intV i) ∧ Blk w q 58 (Qad x)
theorem keep {g q : Nat} {i : Int} {x : LineL} {w w' : World} (hf : Fr w w' (fun _ => False)) (h : HS g q i x w) : HS g q i x w' := ⟨QaF hf h.1 (fun h => h),hf.blk h.2 (fun h => h)⟩
theorem ff0 {a c d : World} (h : Fr a c (fun _ => False)) (h2 : Fr c d (fun _ => False)) : Fr a d (fun _ => False) := h.trans h2 (fun _ _ h => h) (fun _ _ h => h)
theorem QpB {w : World} {g B : Nat} {i : Int} {s : StL} (h : GAt w g B i s) {q : Nat} {cs : Array Value} (hq : Blk w q 58 cs) : ¬ Gx g B w q := by
 obtain ⟨vr,vz,vl,vd,hb,-⟩ := h.open_;exact QcT hb hq
theorem QpD (w : World) (g B : Nat) (i : Int) (s : StL) (h : GAt w g B i s) (hs : size s ≤ 100000) (x : LineL) : Calls Tryz.prog 32 #[gP g,QdQ x] w (Qf7 w g B i (QcQ s i x)) := by
 have hlt := h.lt;have hn := Fr.new w (.cells (Qad x) 58) (fun _ => False);have hd := Qbt hs;have HT := Xi (QhQ _ g B i s (h.kept hn) (by omega));have HN := Xi hn;have HG := Xi (h.kept hn);have HQ := Xi (Blk.made w 58 (Qad x));obtain ⟨i0,hi0,hz0,hz1,hz2⟩ := info_parts Qpt;clear h hn hd;go_enter func32,ntmps32;go_wp2_with fail;refine HT.out.mono ?_;rintro e w2 ⟨rfl,hg2,hf2⟩;obtain ⟨vr,vz,vl,vd,hb,hr⟩ := hg2.open_;have HQ2 := Xi (hf2.blk HQ.out (QpB HG.out HQ.out));have HB := Xi hb;have HR := Xi hr;have HF2 := Xi (Qcw HN.out hf2);clear hb hr hg2 hf2;obtain ⟨A,cap,rfl⟩ := HR.out.r.slice;have HO := Xi (show (brk s i).rules = s.rules from (QhP s i).1);have hsz : s.rules.length ≤ 100000 := (Qbt hs).1;have H1 := Xi (QaZ (cs := (Qbu (x.rule,i)).toArray) (by simp [Qbu,Qam,Value.oneCell']));have HBW := Xi ((Fr.drew w2 (fun _ => False)).blk HB.out (fun h => h));go_wp2_with fail;refine wp_region_held_drew (S := HS g w.heap.size i x) (by kernel_rfl) (⟨blkc ((Fr.drew w2 (fun _ => False)).blk HB.out (fun h => h)) 4 _ rfl,(Fr.drew w2 (fun _ => False)).blk HQ2.out (fun h => h)⟩) (fun hHeld => ?_);refine Xt 0 (v := ?_) (fun w' hSw => ?_) ?_;rotate_left
 ·have k4 := hSw.1; go_simp; try with_reducible rfl
 try simp only [Act.put,Xa]
 refine Xt 1 (v := ?_) (fun w' hSw => ?_) ?_;rotate_left
 ·have k4 := hSw.1; go_simp; try with_reducible rfl
 try simp only [Act.put,Xa]
 refine Xt 2 (v := ?_) (fun w' hSw => ?_) ?_;rotate_left
 ·have k4 := hSw.1; go_simp; try with_reducible rfl
 try simp only [Act.put,Xa]
 refine Xt 3 (v := ?_) (fun w' hSw => ?_) ?_;rotate_left
 ·have k4 := hSw.1; go_simp; try with_reducible rfl
 try simp only [Act.put,Xa]
 refine Xt 4 (v := ?_) (fun w' hSw => ?_) ?_;rotate_left
 ·have k4 := hSw.1; go_simp; try with_reducible rfl
 try simp only [Act.put,Xa]
 refine Xt 6 (v := ?_) (fun w' hSw => ?_) ?_;rotate_left
 ·have k4 := hSw.1; go_simp; try with_reducible rfl
 try simp only [Act.put,Xa]
 refine wpAnyH_take (i := 7) (v := _) rfl (by kernel_rfl) (by kernel_rfl) (by kernel_rfl) (fun _ _ _ h => h) (Qe2 51 _ w.heap.size 1 58 (Qad x) (Qam x.rule) _ (by rfl) rfl rfl (fun _ h => h.2) underlying51 rfl (Qcg _) (Qho _)) (by assumption) ?_
 try simp only [Act.put,Xa]
 refine Xt 8 (v := ?_) (fun w' hSw => ?_) ?_;rotate_left
 ·have k4 := hSw.1; go_simp; try with_reducible rfl
 try simp only [Act.put,Xa]
 refine Xt 9 (v := ?_) (fun w' hSw => ?_) ?_;rotate_left
 ·have k4 := hSw.1; go_simp; try with_reducible rfl
 try simp only [Act.put,Xa]
 refine Xt 10 (v := ?_) (fun w' hSw => ?_) ?_;rotate_left
 ·have k4 := hSw.1; go_simp; try with_reducible rfl
 try simp only [Act.put,Xa]
 refine Xt 11 (v := ?_) (fun w' hSw => ?_) ?_;rotate_left
 ·have k4 := hSw.1; go_simp; try with_reducible rfl
 try simp only [Act.put,Xa]
 refine wpAnyH_take (i := 12) (v := _) rfl (by kernel_rfl) (by kernel_rfl) (by kernel_rfl) (fun _ _ _ h => h) ((Or.inl ⟨by rfl,fun w' _ => by kernel_rfl⟩ : YieldsIf _ _ _ _ (.agg (Qbu (x.rule,i)).toArray) _)) (by assumption) ?_
 try simp only [Act.put,Xa]
 refine wpAnyH_ready (rs := [5,13]) (by kernel_rfl) (by simp) ?_;refine AllReadyH.cons rfl (fun K hK => ?_) (AllReadyH.cons rfl (fun K hK => ?_) AllReadyH.nil)
 ·
  rw [if_pos (by rfl)];refine QbP rfl (by rfl) (blkc HBW.out 0 _ rfl) underlying33 rfl ?_;refine hK.out _ _ hHeld (fun hH2 => ?_);clear hK K
  try simp only [Act.put,Xa]
  refine wpAnyH_ready (rs := [13]) (by kernel_rfl) (by simp) ?_;refine AllReadyH.cons rfl (fun K hK => ?_) AllReadyH.nil;rw [if_pos (by rfl)];refine QaT (e := 72) (cs := (Qbu (x.rule,i)).toArray) rfl (by rfl) (fun _ => by kernel_rfl) ?_;have hfn := Fr.new w2.drew (.cells (Qbu (x.rule,i)).toArray 72) (fun _ => False);refine hK.out _ _ (keep hfn hH2) (fun hH3 => ?_);clear hK K
  try simp only [Act.put,Xa]
  have hr2 := (HR.out.kept (Fr.drew w2 (fun _ => False))).kept hfn;have hbA := hfn.blk HBW.out (fun h => h);have hx := Qb5 w2.drew 72 (Qbu (x.rule,i)).toArray;refine wpAnyH_ready (rs := [14]) (by kernel_rfl) (by simp) ?_;refine AllReadyH.cons rfl (fun K hK => ?_) AllReadyH.nil;rw [if_pos (by rfl)];refine QaH _ (.tmp 11) (.tmp 19) 33 rfl B 72 i0 _ 12 112 underlying33 hi0 hz0 hz1 hz2 rfl (by decide) _ _ _ rfl hr2.r _ 1 1 (Qbu (x.rule,i)).toArray.toList rfl hx H1.out (by have h : (brk s i).rules.length = s.rules.length := congrArg List.length HO.out; simp only [maxLen]; omega) (by have h : (brk s i).rules.length = s.rules.length := congrArg List.length HO.out; omega) hr2.base ?_;intro v9 w9 hown9 hg9 _;obtain ⟨A9,cap9,rfl⟩ := Go.Mem.QaJ hown9;have hf9 := Qbn hr2.r (Fr.ofGrown hg9);have hb9 := (Fr.ofGrown hg9).blk hbA (fun e => by have := (Qar hr2.r e.symm).1; omega);have hq9 := (Qcu (g := g) hf9 (by decide)).blk hH3.2 (QcT hbA hH3.2);have c9 := blkc hb9 0 _ rfl;have f9 := Qac hb9 0;have HO9 := Xi (Qbw (x := (x.rule,i)) hown9 rfl);refine hK.out _ _ ⟨blkc hb9 4 _ rfl,hq9⟩ (fun hH9 => ?_);clear hK K hx hown9
  try simp only [Act.put,Xa]
  refine Xt 15 (v := ?_) (fun w' hSw => ?_) ?_;rotate_left
  ·skip;go_simp
   try with_reducible rfl
  try simp only [Act.put,Xa]
  refine Xt 16 (v := ?_) (fun w' hSw => ?_) ?_;rotate_left
  ·skip;go_simp
   try with_reducible rfl
  try simp only [Act.put,Xa]
  refine Xt 17 (v := ?_) (fun w' hSw => ?_) ?_;rotate_left
  ·skip;go_simp
   try with_reducible rfl
  try simp only [Act.put,Xa]
  refine wpAnyH_ready (rs := [18]) (by kernel_rfl) (by simp) ?_;refine AllReadyH.cons rfl (fun K hK => ?_) AllReadyH.nil;rw [if_pos (by rfl)];refine Qbj (v := .slice A9 ((brk s i).rules.length + 1) cap9) rfl rfl (by rfl) (by rfl) hb9 info_r rfl (show 0 < 6 by decide) ?_;have hS := Fr.set (w := w9) (a := ⟨g,0,none⟩) (v := .slice A9 ((brk s i).rules.length + 1) cap9) (S := fun i => i = g) rfl;refine hK.out _ _ ⟨(World.cell?_setCell_other _ _ _ _ (by simp)).trans (blkc hb9 4 _ rfl),hS.blk hq9 (fun e => absurd (Qal hq9 (e ▸ hb9)) (by decide))⟩ (fun _ => ?_);clear hK K;refine wpAnyH_done (by kernel_rfl) ?_ _;go_wp2_with fail
  go_end0
  exact ⟨rfl,Qct hlt hb9 rfl ⟨(by show Own w9 B _ _ _ _ (s.rules ++ [(x.rule,i)]); rw [← HO.out]; exact HO9.out),Go.Proofs.YtlfjknndkjgciaaGreatDoor.QiD hr2.z hf9 (by decide) (by decide) (by decide),Qas hr2.l hf9 (by decide),Qas hr2.d hf9 (by decide)⟩,Qcc (Qau HF2.out (Qbl (Fr.drew w2 _) |> fun h => Qau h (Qcw hfn (Qcu hf9 (by decide)))))⟩
 ·
  rw [if_pos (by rfl)];refine QaT (e := 72) (cs := (Qbu (x.rule,i)).toArray) rfl (by rfl) (fun _ => by kernel_rfl) ?_;have hfn := Fr.new w2.drew (.cells (Qbu (x.rule,i)).toArray 72) (fun _ => False);refine hK.out _ _ (keep hfn hHeld) (fun hH2 => ?_);clear hK K
  try simp only [Act.put,Xa]
  have HBW2 := Xb hfn HBW;refine wpAnyH_ready (rs := [5]) (by kernel_rfl) (by simp) ?_;refine AllReadyH.cons rfl (fun K hK => ?_) AllReadyH.nil;rw [if_pos (by rfl)];refine QbP rfl (by rfl) (blkc HBW2.out 0 _ rfl) underlying33 rfl ?_;refine hK.out _ _ hH2 (fun hH3 => ?_);clear hK K
  try simp only [Act.put,Xa]
  have hr2 := (HR.out.kept (Fr.drew w2 (fun _ => False))).kept hfn;have hbA := hfn.blk HBW.out (fun h => h);have hx := Qb5 w2.drew 72 (Qbu (x.rule,i)).toArray;refine wpAnyH_ready (rs := [14]) (by kernel_rfl) (by simp) ?_;refine AllReadyH.cons rfl (fun K hK => ?_) AllReadyH.nil;rw [if_pos (by rfl)];refine QaH _ (.tmp 11) (.tmp 19) 33 rfl B 72 i0 _ 12 112 underlying33 hi0 hz0 hz1 hz2 rfl (by decide) _ _ _ rfl hr2.r _ 1 1 (Qbu (x.rule,i)).toArray.toList rfl hx H1.out (by have h : (brk s i).rules.length = s.rules.length := congrArg List.length HO.out; simp only [maxLen]; omega) (by have h : (brk s i).rules.length = s.rules.length := congrArg List.length HO.out; omega) hr2.base ?_;intro v9 w9 hown9 hg9 _;obtain ⟨A9,cap9,rfl⟩ := Go.Mem.QaJ hown9;have hf9 := Qbn hr2.r (Fr.ofGrown hg9);have hb9 := (Fr.ofGrown hg9).blk hbA (fun e => by have := (Qar hr2.r e.symm).1; omega);have hq9 := (Qcu (g := g) hf9 (by decide)).blk hH3.2 (QcT hbA hH3.2);have c9 := blkc hb9 0 _ rfl;have f9 := Qac hb9 0;have HO9 := Xi (Qbw (x := (x.rule,i)) hown9 rfl);refine hK.out _ _ ⟨blkc hb9 4 _ rfl,hq9⟩ (fun hH9 => ?_);clear hK K hx hown9
  try simp only [Act.put,Xa]
  refine Xt 15 (v := ?_) (fun w' hSw => ?_) ?_;rotate_left
  ·skip;go_simp
   try with_reducible rfl
  try simp only [Act.put,Xa]
  refine Xt 16 (v := ?_) (fun w' hSw => ?_) ?_;rotate_left
  ·skip;go_simp
   try with_reducible rfl
  try simp only [Act.put,Xa]
  refine Xt 17 (v := ?_) (fun w' hSw => ?_) ?_;rotate_left
  ·skip;go_simp
   try with_reducible rfl
  try simp only [Act.put,Xa]
  refine wpAnyH_ready (rs := [18]) (by kernel_rfl) (by simp) ?_;refine AllReadyH.cons rfl (fun K hK => ?_) AllReadyH.nil;rw [if_pos (by rfl)];refine Qbj (v := .slice A9 ((brk s i).rules.length + 1) cap9) rfl rfl (by rfl) (by rfl) hb9 info_r rfl (show 0 < 6 by decide) ?_;have hS := Fr.set (w := w9) (a := ⟨g,0,none⟩) (v := .slice A9 ((brk s i).rules.length + 1) cap9) (S := fun i => i = g) rfl;refine hK.out _ _ ⟨(World.cell?_setCell_other _ _ _ _ (by simp)).trans (blkc hb9 4 _ rfl),hS.blk hq9 (fun e => absurd (Qal hq9 (e ▸ hb9)) (by decide))⟩ (fun _ => ?_);clear hK K;refine wpAnyH_done (by kernel_rfl) ?_ _;go_wp2_with fail
  go_end0
  exact ⟨rfl,Qct hlt hb9 rfl ⟨(by show Own w9 B _ _ _ _ (s.rules ++ [(x.rule,i)]); rw [← HO.out]; exact HO9.out),Go.Proofs.YtlfjknndkjgciaaGreatDoor.QiD hr2.z hf9 (by decide) (by decide) (by decide),Qas hr2.l hf9 (by decide),Qas hr2.d hf9 (by decide)⟩,Qcc (Qau HF2.out (Qbl (Fr.drew w2 _) |> fun h => Qau h (Qcw hfn (Qcu hf9 (by decide)))))⟩
theorem QpE (w : World) (g B : Nat) (i : Int) (s : StL) (h : GAt w g B i s) (hs : size s ≤ 100000) (x : LineL) : Calls Tryz.prog 35 #[gP g,QdQ x] w (Qf7 w g B i (Qpc s i x)) := by
 have hlt := h.lt;have hn := Fr.new w (.cells (Qad x) 58) (fun _ => False);have hd := Qbt hs;have HT := Xi (QhQ _ g B i s (h.kept hn) (by omega));have HN := Xi hn;have HG := Xi (h.kept hn);have HQ := Xi (Blk.made w 58 (Qad x));obtain ⟨i0,hi0,hz0,hz1,hz2⟩ := info_parts Qpu;clear h hn hd;go_enter func35,ntmps35;go_wp2_with fail;refine HT.out.mono ?_;rintro e w2 ⟨rfl,hg2,hf2⟩;obtain ⟨vr,vz,vl,vd,hb,hr⟩ := hg2.open_;have HQ2 := Xi (hf2.blk HQ.out (QpB HG.out HQ.out));have HB := Xi hb;have HR := Xi hr;have HF2 := Xi (Qcw HN.out hf2);clear hb hr hg2 hf2;obtain ⟨A,cap,rfl⟩ := HR.out.l.slice;have HO := Xi (show (brk s i).links = s.links from (QhP s i).2);have hsz : s.links.length ≤ 100000 := (Qbt hs).2.2.1;have H1 := Xi (QaZ (cs := (Qcp ⟨x.target,x.name,i⟩).toArray) (by simp [Qcp,Value.oneCell']));have HBW := Xi ((Fr.drew w2 (fun _ => False)).blk HB.out (fun h => h));go_wp2_with fail;refine wp_region_held_drew (S := HS g w.heap.size i x) (by kernel_rfl) (⟨blkc ((Fr.drew w2 (fun _ => False)).blk HB.out (fun h => h)) 4 _ rfl,(Fr.drew w2 (fun _ => False)).blk HQ2.out (fun h => h)⟩) (fun hHeld => ?_);refine Xt 0 (v := ?_) (fun w' hSw => ?_) ?_;rotate_left
 ·have k4 := hSw.1; have k13 := blkc hSw.2 13 (strV x.target) rfl; have k12 := blkc hSw.2 12 (strV x.name) rfl; go_simp; try with_reducible rfl
 try simp only [Act.put,Xa]
 refine Xt 1 (v := ?_) (fun w' hSw => ?_) ?_;rotate_left
 ·have k4 := hSw.1; have k13 := blkc hSw.2 13 (strV x.target) rfl; have k12 := blkc hSw.2 12 (strV x.name) rfl; go_simp; try with_reducible rfl
 try simp only [Act.put,Xa]
 refine Xt 2 (v := ?_) (fun w' hSw => ?_) ?_;rotate_left
 ·have k4 := hSw.1; have k13 := blkc hSw.2 13 (strV x.target) rfl; have k12 := blkc hSw.2 12 (strV x.name) rfl; go_simp; try with_reducible rfl
 try simp only [Act.put,Xa]
 refine Xt 3 (v := ?_) (fun w' hSw => ?_) ?_;rotate_left
 ·have k4 := hSw.1; have k13 := blkc hSw.2 13 (strV x.target) rfl; have k12 := blkc hSw.2 12 (strV x.name) rfl; go_simp; try with_reducible rfl
 try simp only [Act.put,Xa]
 refine Xt 4 (v := ?_) (fun w' hSw => ?_) ?_;rotate_left
 ·have k4 := hSw.1; have k13 := blkc hSw.2 13 (strV x.target) rfl; have k12 := blkc hSw.2 12 (strV x.name) rfl; go_simp; try with_reducible rfl
 try simp only [Act.put,Xa]
 refine Xt 6 (v := ?_) (fun w' hSw => ?_) ?_;rotate_left
 ·have k4 := hSw.1; have k13 := blkc hSw.2 13 (strV x.target) rfl; have k12 := blkc hSw.2 12 (strV x.name) rfl; go_simp; try with_reducible rfl
 try simp only [Act.put,Xa]
 refine Xt 7 (v := ?_) (fun w' hSw => ?_) ?_;rotate_left
 ·have k4 := hSw.1; have k13 := blkc hSw.2 13 (strV x.target) rfl; have k12 := blkc hSw.2 12 (strV x.name) rfl; go_simp; try with_reducible rfl
 try simp only [Act.put,Xa]
 refine Xt 8 (v := ?_) (fun w' hSw => ?_) ?_;rotate_left
 ·have k4 := hSw.1; have k13 := blkc hSw.2 13 (strV x.target) rfl; have k12 := blkc hSw.2 12 (strV x.name) rfl; go_simp; try with_reducible rfl
 try simp only [Act.put,Xa]
 refine Xt 9 (v := ?_) (fun w' hSw => ?_) ?_;rotate_left
 ·have k4 := hSw.1; have k13 := blkc hSw.2 13 (strV x.target) rfl; have k12 := blkc hSw.2 12 (strV x.name) rfl; go_simp; try with_reducible rfl
 try simp only [Act.put,Xa]
 refine Xt 10 (v := ?_) (fun w' hSw => ?_) ?_;rotate_left
 ·have k4 := hSw.1; have k13 := blkc hSw.2 13 (strV x.target) rfl; have k12 := blkc hSw.2 12 (strV x.name) rfl; go_simp; try with_reducible rfl
 try simp only [Act.put,Xa]
 refine Xt 11 (v := ?_) (fun w' hSw => ?_) ?_;rotate_left
 ·have k4 := hSw.1; have k13 := blkc hSw.2 13 (strV x.target) rfl; have k12 := blkc hSw.2 12 (strV x.name) rfl; go_simp; try with_reducible rfl
 try simp only [Act.put,Xa]
 refine Xt 12 (v := ?_) (fun w' hSw => ?_) ?_;rotate_left
 ·have k4 := hSw.1; have k13 := blkc hSw.2 13 (strV x.target) rfl; have k12 := blkc hSw.2 12 (strV x.name) rfl; go_simp; try with_reducible rfl
 try simp only [Act.put,Xa]
 refine Xt 13 (v := ?_) (fun w' hSw => ?_) ?_;rotate_left
 ·have k4 := hSw.1; have k13 := blkc hSw.2 13 (strV x.target) rfl; have k12 := blkc hSw.2 12 (strV x.name) rfl; go_simp; try with_reducible rfl
 try simp only [Act.put,Xa]
 refine wpAnyH_take (i := 14) (v := _) rfl (by kernel_rfl) (by kernel_rfl) (by kernel_rfl) (fun _ _ _ h => h) ((Or.inl ⟨by rfl,fun w' _ => by kernel_rfl⟩ : YieldsIf _ _ _ _ (.agg (Qcp ⟨x.target,x.name,i⟩).toArray) _)) (by assumption) ?_
 try simp only [Act.put,Xa]
 refine wpAnyH_ready (rs := [5,15]) (by kernel_rfl) (by simp) ?_;refine AllReadyH.cons rfl (fun K hK => ?_) (AllReadyH.cons rfl (fun K hK => ?_) AllReadyH.nil)
 ·
  rw [if_pos (by rfl)];refine QbP rfl (by rfl) (blkc HBW.out 2 _ rfl) underlying35 rfl ?_;refine hK.out _ _ hHeld (fun hH2 => ?_);clear hK K
  try simp only [Act.put,Xa]
  refine wpAnyH_ready (rs := [15]) (by kernel_rfl) (by simp) ?_;refine AllReadyH.cons rfl (fun K hK => ?_) AllReadyH.nil;rw [if_pos (by rfl)];refine QaT (e := 78) (cs := (Qcp ⟨x.target,x.name,i⟩).toArray) rfl (by rfl) (fun _ => by kernel_rfl) ?_;have hfn := Fr.new w2.drew (.cells (Qcp ⟨x.target,x.name,i⟩).toArray 78) (fun _ => False);refine hK.out _ _ (keep hfn hH2) (fun hH3 => ?_);clear hK K
  try simp only [Act.put,Xa]
  have hr2 := (HR.out.kept (Fr.drew w2 (fun _ => False))).kept hfn;have hbA := hfn.blk HBW.out (fun h => h);have hx := Qb5 w2.drew 78 (Qcp ⟨x.target,x.name,i⟩).toArray;refine wpAnyH_ready (rs := [16]) (by kernel_rfl) (by simp) ?_;refine AllReadyH.cons rfl (fun K hK => ?_) AllReadyH.nil;rw [if_pos (by rfl)];refine QaH _ (.tmp 11) (.tmp 21) 35 rfl B 78 i0 _ 3 40 underlying35 hi0 hz0 hz1 hz2 rfl (by decide) _ _ _ rfl hr2.l _ 1 1 (Qcp ⟨x.target,x.name,i⟩).toArray.toList rfl hx H1.out (by have h : (brk s i).links.length = s.links.length := congrArg List.length HO.out; simp only [maxLen]; omega) (by have h : (brk s i).links.length = s.links.length := congrArg List.length HO.out; omega) hr2.base ?_;intro v9 w9 hown9 hg9 _;obtain ⟨A9,cap9,rfl⟩ := Go.Mem.QaJ hown9;have hf9 := Qbn hr2.l (Fr.ofGrown hg9);have hb9 := (Fr.ofGrown hg9).blk hbA (fun e => by have := (Qar hr2.l e.symm).1; omega);have hq9 := (Qcu (g := g) hf9 (by decide)).blk hH3.2 (QcT hbA hH3.2);have c9 := blkc hb9 2 _ rfl;have f9 := Qac hb9 2;have HO9 := Xi (Qbw (x := LinkL.mk x.target x.name i) hown9 rfl);refine hK.out _ _ ⟨blkc hb9 4 _ rfl,hq9⟩ (fun hH9 => ?_);clear hK K hx hown9
  try simp only [Act.put,Xa]
  refine Xt 17 (v := ?_) (fun w' hSw => ?_) ?_;rotate_left
  ·skip;go_simp
   try with_reducible rfl
  try simp only [Act.put,Xa]
  refine Xt 18 (v := ?_) (fun w' hSw => ?_) ?_;rotate_left
  ·skip;go_simp
   try with_reducible rfl
  try simp only [Act.put,Xa]
  refine Xt 19 (v := ?_) (fun w' hSw => ?_) ?_;rotate_left
  ·skip;go_simp
   try with_reducible rfl
  try simp only [Act.put,Xa]
  refine wpAnyH_ready (rs := [20]) (by kernel_rfl) (by simp) ?_;refine AllReadyH.cons rfl (fun K hK => ?_) AllReadyH.nil;rw [if_pos (by rfl)];refine Qbj (v := .slice A9 ((brk s i).links.length + 1) cap9) rfl rfl (by rfl) (by rfl) hb9 info_l rfl (show 2 < 6 by decide) ?_;have hS := Fr.set (w := w9) (a := ⟨g,2,none⟩) (v := .slice A9 ((brk s i).links.length + 1) cap9) (S := fun i => i = g) rfl;refine hK.out _ _ ⟨(World.cell?_setCell_other _ _ _ _ (by simp)).trans (blkc hb9 4 _ rfl),hS.blk hq9 (fun e => absurd (Qal hq9 (e ▸ hb9)) (by decide))⟩ (fun _ => ?_);clear hK K;refine wpAnyH_done (by kernel_rfl) ?_ _;go_wp2_with fail
  go_end0
  exact ⟨rfl,Qct hlt hb9 rfl ⟨Qas hr2.r hf9 (by decide),Go.Proofs.YtlfjknndkjgciaaGreatDoor.QiD hr2.z hf9 (by decide) (by decide) (by decide),(by show Own w9 B _ _ _ _ (s.links ++ [⟨x.target,x.name,i⟩]); rw [← HO.out]; exact HO9.out),Qas hr2.d hf9 (by decide)⟩,Qcc (Qau HF2.out (Qbl (Fr.drew w2 _) |> fun h => Qau h (Qcw hfn (Qcu hf9 (by decide)))))⟩
 ·
  rw [if_pos (by rfl)];refine QaT (e := 78) (cs := (Qcp ⟨x.target,x.name,i⟩).toArray) rfl (by rfl) (fun _ => by kernel_rfl) ?_;have hfn := Fr.new w2.drew (.cells (Qcp ⟨x.target,x.name,i⟩).toArray 78) (fun _ => False);refine hK.out _ _ (keep hfn hHeld) (fun hH2 => ?_);clear hK K
  try simp only [Act.put,Xa]
  have HBW2 := Xb hfn HBW;refine wpAnyH_ready (rs := [5]) (by kernel_rfl) (by simp) ?_;refine AllReadyH.cons rfl (fun K hK => ?_) AllReadyH.nil;rw [if_pos (by rfl)];refine QbP rfl (by rfl) (blkc HBW2.out 2 _ rfl) underlying35 rfl ?_;refine hK.out _ _ hH2 (fun hH3 => ?_);clear hK K
  try simp only [Act.put,Xa]
  have hr2 := (HR.out.kept (Fr.drew w2 (fun _ => False))).kept hfn;have hbA := hfn.blk HBW.out (fun h => h);have hx := Qb5 w2.drew 78 (Qcp ⟨x.target,x.name,i⟩).toArray;refine wpAnyH_ready (rs := [16]) (by kernel_rfl) (by simp) ?_;refine AllReadyH.cons rfl (fun K hK => ?_) AllReadyH.nil;rw [if_pos (by rfl)];refine QaH _ (.tmp 11) (.tmp 21) 35 rfl B 78 i0 _ 3 40 underlying35 hi0 hz0 hz1 hz2 rfl (by decide) _ _ _ rfl hr2.l _ 1 1 (Qcp ⟨x.target,x.name,i⟩).toArray.toList rfl hx H1.out (by have h : (brk s i).links.length = s.links.length := congrArg List.length HO.out; simp only [maxLen]; omega) (by have h : (brk s i).links.length = s.links.length := congrArg List.length HO.out; omega) hr2.base ?_;intro v9 w9 hown9 hg9 _;obtain ⟨A9,cap9,rfl⟩ := Go.Mem.QaJ hown9;have hf9 := Qbn hr2.l (Fr.ofGrown hg9);have hb9 := (Fr.ofGrown hg9).blk hbA (fun e => by have := (Qar hr2.l e.symm).1; omega);have hq9 := (Qcu (g := g) hf9 (by decide)).blk hH3.2 (QcT hbA hH3.2);have c9 := blkc hb9 2 _ rfl;have f9 := Qac hb9 2;have HO9 := Xi (Qbw (x := LinkL.mk x.target x.name i) hown9 rfl);refine hK.out _ _ ⟨blkc hb9 4 _ rfl,hq9⟩ (fun hH9 => ?_);clear hK K hx hown9
  try simp only [Act.put,Xa]
  refine Xt 17 (v := ?_) (fun w' hSw => ?_) ?_;rotate_left
  ·skip;go_simp
   try with_reducible rfl
  try simp only [Act.put,Xa]
  refine Xt 18 (v := ?_) (fun w' hSw => ?_) ?_;rotate_left
  ·skip;go_simp
   try with_reducible rfl
  try simp only [Act.put,Xa]
  refine Xt 19 (v := ?_) (fun w' hSw => ?_) ?_;rotate_left
  ·skip;go_simp
   try with_reducible rfl
  try simp only [Act.put,Xa]
  refine wpAnyH_ready (rs := [20]) (by kernel_rfl) (by simp) ?_;refine AllReadyH.cons rfl (fun K hK => ?_) AllReadyH.nil;rw [if_pos (by rfl)];refine Qbj (v := .slice A9 ((brk s i).links.length + 1) cap9) rfl rfl (by rfl) (by rfl) hb9 info_l rfl (show 2 < 6 by decide) ?_;have hS := Fr.set (w := w9) (a := ⟨g,2,none⟩) (v := .slice A9 ((brk s i).links.length + 1) cap9) (S := fun i => i = g) rfl;refine hK.out _ _ ⟨(World.cell?_setCell_other _ _ _ _ (by simp)).trans (blkc hb9 4 _ rfl),hS.blk hq9 (fun e => absurd (Qal hq9 (e ▸ hb9)) (by decide))⟩ (fun _ => ?_);clear hK K;refine wpAnyH_done (by kernel_rfl) ?_ _;go_wp2_with fail
  go_end0
  exact ⟨rfl,Qct hlt hb9 rfl ⟨Qas hr2.r hf9 (by decide),Go.Proofs.YtlfjknndkjgciaaGreatDoor.QiD hr2.z hf9 (by decide) (by decide) (by decide),(by show Own w9 B _ _ _ _ (s.links ++ [⟨x.target,x.name,i⟩]); rw [← HO.out]; exact HO9.out),Qas hr2.d hf9 (by decide)⟩,Qcc (Qau HF2.out (Qbl (Fr.drew w2 _) |> fun h => Qau h (Qcw hfn (Qcu hf9 (by decide)))))⟩
theorem Qnw (w : World) (g B : Nat) (i : Int) (s : StL) (h : GAt w g B i s) (hs : size s ≤ 100000) (x : LineL) : Calls Tryz.prog 36 #[gP g,QdQ x] w (Qf7 w g B i (tell s i x.col x.err)) := by
 have hn := Fr.new w (.cells (Qad x) 58) (fun _ => False);have hd := (Qbt hs).2.2.2;have HG := Xi ((h.kept hn).kept (Fr.drew _ (fun _ => False)));have HT := Xi (QfM _ g B i s HG.out hd i x.col x.err);have HN := Xi (Qbl (g := g) (B := B) hn);have HQ := Xi ((Fr.drew _ (fun _ => False)).blk (Blk.made w 58 (Qad x)) (fun h => h));have h0 : HS g w.heap.size i x (w.alloc (.cells (Qad x) 58)).drew := by
  obtain ⟨vr,vz,vl,vd,hb,-⟩ := HG.out.open_;exact ⟨blkc hb 4 _ rfl,HQ.out⟩
 clear h hn hd;go_enter func36,ntmps36;go_wp2_with fail;refine wp_region_held_drew (S := HS g w.heap.size i x) (by kernel_rfl) (h0) (fun hHeld => ?_);refine Xt 0 (v := ?_) (fun w' hSw => ?_) ?_;rotate_left
 ·have k4 := hSw.1; have k28 := blkc hSw.2 28 (intV x.col) rfl; have k27 := blkc hSw.2 27 (intV x.err) rfl; go_simp; try with_reducible rfl
 try simp only [Act.put,Xa]
 refine Xt 1 (v := ?_) (fun w' hSw => ?_) ?_;rotate_left
 ·have k4 := hSw.1; have k28 := blkc hSw.2 28 (intV x.col) rfl; have k27 := blkc hSw.2 27 (intV x.err) rfl; go_simp; try with_reducible rfl
 try simp only [Act.put,Xa]
 refine Xt 2 (v := ?_) (fun w' hSw => ?_) ?_;rotate_left
 ·have k4 := hSw.1; have k28 := blkc hSw.2 28 (intV x.col) rfl; have k27 := blkc hSw.2 27 (intV x.err) rfl; go_simp; try with_reducible rfl
 try simp only [Act.put,Xa]
 refine Xt 3 (v := ?_) (fun w' hSw => ?_) ?_;rotate_left
 ·have k4 := hSw.1; have k28 := blkc hSw.2 28 (intV x.col) rfl; have k27 := blkc hSw.2 27 (intV x.err) rfl; go_simp; try with_reducible rfl
 try simp only [Act.put,Xa]
 refine Xt 4 (v := ?_) (fun w' hSw => ?_) ?_;rotate_left
 ·have k4 := hSw.1; have k28 := blkc hSw.2 28 (intV x.col) rfl; have k27 := blkc hSw.2 27 (intV x.err) rfl; go_simp; try with_reducible rfl
 try simp only [Act.put,Xa]
 refine Xt 5 (v := ?_) (fun w' hSw => ?_) ?_;rotate_left
 ·have k4 := hSw.1; have k28 := blkc hSw.2 28 (intV x.col) rfl; have k27 := blkc hSw.2 27 (intV x.err) rfl; go_simp; try with_reducible rfl
 try simp only [Act.put,Xa]
 refine Xt 6 (v := ?_) (fun w' hSw => ?_) ?_;rotate_left
 ·have k4 := hSw.1; have k28 := blkc hSw.2 28 (intV x.col) rfl; have k27 := blkc hSw.2 27 (intV x.err) rfl; go_simp; try with_reducible rfl
 try simp only [Act.put,Xa]
 refine Xt 7 (v := ?_) (fun w' hSw => ?_) ?_;rotate_left
 ·have k4 := hSw.1; have k28 := blkc hSw.2 28 (intV x.col) rfl; have k27 := blkc hSw.2 27 (intV x.err) rfl; go_simp; try with_reducible rfl
 try simp only [Act.put,Xa]
 refine Xt 8 (v := ?_) (fun w' hSw => ?_) ?_;rotate_left
 ·have k4 := hSw.1; have k28 := blkc hSw.2 28 (intV x.col) rfl; have k27 := blkc hSw.2 27 (intV x.err) rfl; go_simp; try with_reducible rfl
 try simp only [Act.put,Xa]
 refine wpAnyH_ready (rs := [9]) (by kernel_rfl) (by simp) ?_;refine AllReadyH.cons rfl (fun K hK => ?_) AllReadyH.nil;go_simp;refine HT.out.mono ?_;rintro e w4 ⟨rfl,hg4,hf4⟩;have hq4 := hf4.blk HQ.out (QpB HG.out HQ.out);obtain ⟨vr,vz,vl,vd,hb4,hr4⟩ := hg4.open_;refine hK.out _ _ ⟨blkc hb4 4 _ rfl,hq4⟩ (fun hHeld2 => ?_);clear hK K;refine wpAnyH_done (by kernel_rfl) ?_ _;go_wp2_with fail
 go_end0
 exact ⟨rfl,hg4,Qau HN.out (Qau (Qbl (Fr.drew _ _)) hf4)⟩
end Go.Proofs.YtlfjknndkjgciaaGreatDoor
