import Derived.Test.YtodcnbejnchmhaaGreatDoorYc40
set_option maxRecDepth 100000
set_option maxHeartbeats 6400000
namespace Go.Proofs.YtodcnbejnchmhaaGreatDoor
open _root_.Go.Proofs.Tryz
open Go.Rope hiding Bs
open Go.RowKit Go.Mem Go.Lin Go.Dcm

theorem QpT : (Tryz.prog.info? 39).map (·.size) = some 5 := by kernel_rfl
theorem infoLns : (Tryz.prog.info? 31).map (·.size) = some 1 := by kernel_rfl
theorem infoPr : (Tryz.prog.info? 72).map (·.size) = some 1 := by kernel_rfl
theorem infoIn : (Tryz.prog.info? 3).map (·.size) = some 1 := by kernel_rfl
theorem Qj1 (s : Bs) (w : World) : Calls Tryz.prog 35 #[strV s,.string ⟨#[10]⟩] w fun e w' => e = .returned (intV (Qah s)) ∧ w' = w := by
 have h := Tryz.strings_Count_one ⟨s.toArray⟩ 10 w;rw [S3.Qik] at h;exact h.mono (by rintro e w' ⟨rfl,rfl⟩; exact ⟨rfl,rfl⟩)
/-- what Edit leaves -/
def Qkb (w : World) (g : Nat) (l : Bs) (n : Int) (e : EdL) (en : Ending) (w' : World) : Prop := en = .returned (intV (Qcc l e).2) ∧ TabAt w' g (Qcc l e).1 (Qb0 l e n) ∧ Fr w w' (fun k => k = g)
theorem Qjo {w : World} {v x : Value} {t : Bs} {h : Nat} (r : S3.RopeAt w v x t h) : ∃ a,v = .pointer a := by
 rcases r.2 with ⟨rfl,-⟩ | ⟨g,rfl,-⟩
 ·exact ⟨_,rfl⟩
 ·exact ⟨_,rfl⟩
theorem Qd8 {w : World} {g : Nat} {l : Bs} {n : Int} (h : TabAt w g l n) (e : EdL) (hz : e.s.length ≤ 20100) (k : Int) (hk : (Qcc l e).2 = k) (h0 : (k == 0) = false) : Calls Tryz.prog 17 #[pT g,edV e] w (Qkb w g l n e) := by
 have hs := Qid (l := l) (e := e) (by rw [hk]; intro e; rw [e] at h0; exact absurd h0 (by decide));have hr : Qb0 l e n = n := by unfold Qb0; rw [if_neg (by rw [hk]; intro e; rw [e] at h0; exact absurd h0 (by decide))]
 unfold Qkb;rw [hs,hr,hk];have HT := Xi h;obtain ⟨vr,vl,x,hh,h1,h2,h3⟩ := h.ex;have hne := fun w => Qco w g;have hmf := Qfs;obtain ⟨l1,c1,l2,c2,s⟩ := e;have HC := Xi (fun (W : World) (f : Fr w W (fun _ => False)) => Qhr (h2.keep f) h.fits.1 ⟨l1,c1,l2,c2,s⟩ hz);rw [hk] at HC;have C0 := Xi (blkc h1 0 _ rfl);clear h1 h2 h3 h hs hr hk hz;unfold edV edC;go_enter func17,ntmps17;go_wp2_with fail;obtain ⟨W1,hW1⟩ : ∃ W,w.alloc (.cells #[intV l1,intV c1,intV l2,intV c2,strV s] 39) = W := ⟨_,rfl⟩;have hf1 := Fr.new w (.cells #[intV l1,intV c1,intV l2,intV c2,strV s] 39) (fun _ => False);have hb1 := Blk.made w 39 #[intV l1,intV c1,intV l2,intV c2,strV s];rw [hW1] at hf1 hb1 ⊢;have hs1 : W1.heap.size = w.heap.size + 1 := by rw [← hW1]; simp
 have HF1 := Xi hf1;have HB1 := Xi hb1;have HG1 := Xi (hf1.cell0 C0.out);clear hW1 hf1 hb1;refine wp_region_held_drew (S := fun w' => Fr W1 w' (fun _ => False)) (by kernel_rfl) (Fr.drew W1 _) (fun hHeld => ?_);refine Xt 0 (v := ?_) (fun w' hSw => ?_) ?_;rotate_left
 ·go_simp
  try with_reducible rfl
 try simp only [Act.put,Xa]
 refine Xt 1 (v := ?_) (fun w' hSw => ?_) ?_;rotate_left
 ·go_simp
  try with_reducible rfl
 try simp only [Act.put,Xa]
 refine Xt 2 (v := ?_) (fun w' hSw => ?_) ?_;rotate_left
 ·go_simp
  try with_reducible rfl
 try simp only [Act.put,Xa]
 refine Xt 3 (v := ?_) (fun w' hSw => ?_) ?_;rotate_left
 ·have q0 := hSw.cell0 HG1.out; go_simp; try with_reducible rfl
 try simp only [Act.put,Xa]
 refine wpAnyH_take (i := 4) (v := _) rfl (by kernel_rfl) (by kernel_rfl) (by kernel_rfl) (fun _ _ _ h => h) (QhH 39 _ w.heap.size 0 39 #[intV l1,intV c1,intV l2,intV c2,strV s] #[intV l1,intV c1,intV l2,intV c2,strV s] _ (by rfl) rfl (by rfl) (fun w' h => h.blk HB1.out (fun h => h)) underlying39 rfl QpT (fun j _ => by rw [Nat.zero_add])) (by assumption) ?_
 try simp only [Act.put,Xa]
 refine wpAnyH_ready (rs := [5]) (by kernel_rfl) (by simp) ?_;refine AllReadyH.cons rfl (fun K hK => ?_) AllReadyH.nil;go_simp;refine (HC.out _ (ff0 HF1.out hHeld)).mono ?_;rintro e w2 ⟨v5,x5,h5,rfl,-,hf2⟩;refine hK.out _ _ (ff0 hHeld hf2) (fun hHeld2 => ?_);clear hK K hHeld;rename_i hHeld2;have hHeld := hHeld2;clear hHeld2;have HF2 := Xi (ff0 (ff0 HF1.out (Fr.drew W1 (fun _ => False))) hf2);clear hf2
 try simp only [Act.put,Xa]
 refine Xt 6 (v := ?_) (fun w' hSw => ?_) ?_;rotate_left
 ·go_simp
  try with_reducible rfl
 try simp only [Act.put,Xa]
 refine Xt 7 (v := ?_) (fun w' hSw => ?_) ?_;rotate_left
 ·go_simp
  try with_reducible rfl
 try simp only [Act.put,Xa]
 refine Xt 8 (v := ?_) (fun w' hSw => ?_) ?_;rotate_left
 ·go_simp
  try with_reducible rfl
 try simp only [Act.put,Xa]
 refine Xt 9 (v := ?_) (fun w' hSw => ?_) ?_;rotate_left
 ·go_simp
  try with_reducible rfl
 try simp only [Act.put,Xa]
 refine Xt 10 (v := ?_) (fun w' hSw => ?_) ?_;rotate_left
 ·go_simp
  try with_reducible rfl
 try simp only [Act.put,Xa]
 refine wpAnyH_done (by kernel_rfl) ?_ _;clear hHeld;go_wp2_with fail;go_ret;exact ⟨rfl,HT.out.kept HF2.out,HF2.out.mono (fun _ _ h => h.elim)⟩
/-- what is known ahead of the stores,and Qak each -/
structure EdS (w W : World) (g : Nat) (t : Bs) (a : Option Addr) (x : Value) (q r : Nat) : Prop where
 ro : S3.RopeAt W (.pointer a) x t q
 ls : Blk W r 71 (Qir t)
 fr : Fr w W (fun k => k = g)
theorem EdS.put {w W W' : World} {g : Nat} {t : Bs} {a : Option Addr} {x : Value} {q r : Nat} {cs : Array Value} (h : EdS w W g t a x q r) (hb : Blk W g 74 cs) (hf : Fr W W' (fun k => k = g)) : EdS w W' g t a x q r :=
 ⟨h.ro.far hf (fun k cs hk e => by subst e; exact absurd (QcA hk hb) (by decide)) (fun k cs hk e => by subst e; exact absurd (QcA hk hb) (by decide)),
  hf.blk h.ls (fun e => by subst e; exact absurd (QcA h.ls hb) (by decide)),h.fr.trans hf (fun _ _ h => h) (fun _ _ h => h)⟩
theorem tEdit_ok {w : World} {g : Nat} {l : Bs} {n : Int} (h : TabAt w g l n) (hw : LOk w) (e : EdL) (hz : e.s.length ≤ 20100) (i j a b : Nat) (t : Bs) (hi : e.l1 = (i : Int)) (hj : e.l2 = (j : Int)) (ht : t.length ≤ 20000) (hm : Qah t + 1 ≤ 400) (hd : Qcc l e = (t,0)) (hs : Spot l i a j b) (hij : i ≤ j) (hc : t = l.take a ++ e.s ++ l.drop b) : Calls Tryz.prog 17 #[pT g,edV e] w (Qkb w g l n e) := by
 have hrd : Qb0 l e n = (Qah e.s : Int) + 1 := by unfold Qb0; rw [if_pos (by rw [hd])]
 unfold Qkb;rw [hrd,hd];have hmid := hs.mid e.s;have hml := Qb3 (midL l i a b j e.s);rw [hmid] at hml;have hfrom : From t i (Qas (midL l i a b j e.s)) := fun k hk => line_mid hs e.s t hc k (by omega);have hsays := QoI hs e.s;rw [← hc] at hsays;have hlen := Qev l;have hlt := Qev t;have hj1 := hs.hj;have hfit := h.fits.2;obtain ⟨M,hM⟩ : ∃ M,Qas (midL l i a b j e.s) = M := ⟨_,rfl⟩;rw [hM] at hml hfrom hsays;have hN : (i + M.length + ((Qdh l).length - (j + 1))) = Qah t + 1 := by
  have := congrArg List.length hsays;rw [List.length_append,List.length_append,List.length_take,List.length_drop,List.length_map] at this;omega
 obtain ⟨vr,vl,x,hh,h1,h2,h3⟩ := h.ex;have hne := fun w => Qco w g;have hmf := Qfs;obtain ⟨l1,c1,l2,c2,s⟩ := e;have HC := Xi (fun (W : World) (f : Fr w W (fun _ => False)) => Qhr (h2.keep f) h.fits.1 ⟨l1,c1,l2,c2,s⟩ hz);have hi : l1 = (i : Int) := hi;have hj : l2 = (j : Int) := hj;subst hi hj;unfold chgD at HC;rw [hd] at HC;simp only [if_true] at HC;have hml : M.length = Qah s + 1 := hml;have hcnt := fun w => Qj1 s w;have HSay := Xi (fun (W : World) (v x : Value) (hq : Nat) (f : Fr w W (fun _ => False)) (r : S3.RopeAt W v x t hq) => say_any r ht (hw.fr f) i M.length M rfl (by omega) hfrom);have HPut := Xi (fun (W : World) (b q : Nat) (hb : Blk W b 71 (Qir l)) (hq : Blk W q 71 ((M.map sayD).flatMap Qa1).toArray) => tput_any (Qdh l) (M.map sayD) b q W hb hq i (j + 1) (by omega) (by omega) (by rw [List.length_map]; omega));rw [List.length_map,hlen] at HPut;rw [show ((j + 1 : Nat) : Int) = (j : Int) + 1 by omega] at HPut;rw [show ((M.length : Nat) : Int) = 1 + (Qah s : Int) by omega] at HSay;obtain ⟨m,hmM⟩ : ∃ m,M.length = m := ⟨_,rfl⟩;rw [hmM] at HPut HSay hN;have Hm := Xi (show m = Qah s + 1 by omega);have HSA := Xi (show ((Qdh l).take i ++ M.map sayD ++ (Qdh l).drop (j + 1)).flatMap Qa1 = (Qdh t).flatMap Qa1 by rw [hsays]);rw [hlen] at hN;have HN := Xi hN;have HFT := Xi (show Fits t from ⟨ht,hm⟩);have HT := Xi h;have C0 := Xi (blkc h1 0 _ rfl);have HB0 := Xi h1;have hsl : Qah s ≤ 20100 := Nat.le_trans (QbM s) hz;have hgw := h1.lt;clear h1 h2 h3 h hrd hmid hfrom hsays hd hs hc hw hM hcnt hml hmM;have HCn := Xi (fun w => Qj1 s w);have hwr1 : IntKind.i64.wrap (1 + (Qah s : Int)) = 1 + (Qah s : Int) := IntWalk.i64_in _ ⟨by omega,by omega⟩;have hwr2 : IntKind.i64.wrap ((j : Int) + 1) = (j : Int) + 1 := IntWalk.i64_in _ ⟨by omega,by omega⟩;unfold edV edC;go_enter func17,ntmps17;go_wp2_with fail;obtain ⟨W1,hW1⟩ : ∃ W,w.alloc (.cells #[intV (i : Int),intV c1,intV (j : Int),intV c2,strV s] 39) = W := ⟨_,rfl⟩;have hf1 := Fr.new w (.cells #[intV (i : Int),intV c1,intV (j : Int),intV c2,strV s] 39) (fun _ => False);have hb1 := Blk.made w 39 #[intV (i : Int),intV c1,intV (j : Int),intV c2,strV s];rw [hW1] at hf1 hb1 ⊢;have hs1 : W1.heap.size = w.heap.size + 1 := by rw [← hW1]; simp
 have HF1 := Xi hf1;have HB1 := Xi hb1;have HG1 := Xi (hf1.cell0 C0.out);clear hW1 hf1 hb1;refine wp_region_held_drew (S := fun w' => Fr W1 w' (fun _ => False)) (by kernel_rfl) (Fr.drew W1 _) (fun hHeld => ?_);refine Xt 0 (v := ?_) (fun w' hSw => ?_) ?_;rotate_left
 ·go_simp
  try with_reducible rfl
 try simp only [Act.put,Xa]
 refine Xt 1 (v := ?_) (fun w' hSw => ?_) ?_;rotate_left
 ·go_simp
  try with_reducible rfl
 try simp only [Act.put,Xa]
 refine Xt 2 (v := ?_) (fun w' hSw => ?_) ?_;rotate_left
 ·go_simp
  try with_reducible rfl
 try simp only [Act.put,Xa]
 refine Xt 3 (v := ?_) (fun w' hSw => ?_) ?_;rotate_left
 ·have q0 := hSw.cell0 HG1.out; go_simp; try with_reducible rfl
 try simp only [Act.put,Xa]
 refine wpAnyH_take (i := 4) (v := _) rfl (by kernel_rfl) (by kernel_rfl) (by kernel_rfl) (fun _ _ _ h => h) (QhH 39 _ w.heap.size 0 39 #[intV (i : Int),intV c1,intV (j : Int),intV c2,strV s] #[intV (i : Int),intV c1,intV (j : Int),intV c2,strV s] _ (by rfl) rfl (by rfl) (fun w' h => h.blk HB1.out (fun h => h)) underlying39 rfl QpT (fun j _ => by rw [Nat.zero_add])) (by assumption) ?_
 try simp only [Act.put,Xa]
 refine wpAnyH_ready (rs := [5]) (by kernel_rfl) (by simp) ?_;refine AllReadyH.cons rfl (fun K hK => ?_) AllReadyH.nil;go_simp;refine (HC.out _ (ff0 HF1.out hHeld)).mono ?_;rintro e w2 ⟨v2,x2,q2,rfl,hr2,hf2⟩;refine hK.out _ _ (ff0 hHeld hf2) (fun hHeld2 => ?_);clear hK K hHeld;rename_i hHeld2;have hHeld := hHeld2;clear hHeld2;obtain ⟨a2,rfl⟩ := Qjo hr2;have HB2 := Xi (hf2.blk ((Fr.drew W1 (fun _ => False)).blk HB1.out (fun h => h)) (fun h => h));have HF2 := Xi (ff0 (ff0 HF1.out (Fr.drew W1 (fun _ => False))) hf2);have HR2 := Xi hr2;have HSay2 := Xi (HSay.out w2.drew _ _ _ (ff0 HF2.out (Fr.drew w2 (fun _ => False))) (hr2.keep (Fr.drew w2 (fun _ => False))));clear hf2 hr2
 try simp only [Act.put,Xa]
 refine Xt 6 (v := ?_) (fun w' hSw => ?_) ?_;rotate_left
 ·go_simp
  try with_reducible rfl
 try simp only [Act.put,Xa]
 refine Xt 7 (v := ?_) (fun w' hSw => ?_) ?_;rotate_left
 ·go_simp
  try with_reducible rfl
 try simp only [Act.put,Xa]
 refine Xt 8 (v := ?_) (fun w' hSw => ?_) ?_;rotate_left
 ·go_simp
  try with_reducible rfl
 try simp only [Act.put,Xa]
 refine Xt 9 (v := ?_) (fun w' hSw => ?_) ?_;rotate_left
 ·go_simp
  try with_reducible rfl
 try simp only [Act.put,Xa]
 refine Xt 10 (v := ?_) (fun w' hSw => ?_) ?_;rotate_left
 ·go_simp
  try with_reducible rfl
 try simp only [Act.put,Xa]
 refine wpAnyH_done (by kernel_rfl) ?_ _;clear hHeld;go_wp2_with fail;refine wp_region_held_drew (S := fun w' => Fr w2 w' (fun _ => False)) (by kernel_rfl) (Fr.drew w2 _) (fun hHeld => ?_);refine Xt 0 (v := ?_) (fun w' hSw => ?_) ?_;rotate_left
 ·go_simp
  try with_reducible rfl
 try simp only [Act.put,Xa]
 refine Xt 1 (v := ?_) (fun w' hSw => ?_) ?_;rotate_left
 ·go_simp
  try with_reducible rfl
 try simp only [Act.put,Xa]
 refine Xt 2 (v := ?_) (fun w' hSw => ?_) ?_;rotate_left
 ·go_simp
  try with_reducible rfl
 try simp only [Act.put,Xa]
 refine Xt 3 (v := ?_) (fun w' hSw => ?_) ?_;rotate_left
 ·have q0 := hSw.cell0 (blkc HB2.out 0 _ rfl); go_simp; try with_reducible rfl
 try simp only [Act.put,Xa]
 refine Xt 4 (v := ?_) (fun w' hSw => ?_) ?_;rotate_left
 ·go_simp
  try with_reducible rfl
 try simp only [Act.put,Xa]
 refine Xt 5 (v := ?_) (fun w' hSw => ?_) ?_;rotate_left
 ·have q4 := hSw.cell0 (blkc HB2.out 4 _ rfl); go_simp; try with_reducible rfl
 try simp only [Act.put,Xa]
 refine wpAnyH_ready (rs := [6]) (by kernel_rfl) (by simp) ?_;refine AllReadyH.cons rfl (fun K hK => ?_) AllReadyH.nil;go_simp;refine (HCn.out _).mono ?_;rintro e w3 ⟨rfl,rfl⟩;refine hK.out _ _ (hHeld) (fun hHeld2 => ?_);clear hK K hHeld;rename_i hHeld2;have hHeld := hHeld2;clear hHeld2
 try simp only [Act.put,Xa]
 refine Xt 7 (v := ?_) (fun w' hSw => ?_) ?_;rotate_left
 ·go_simp
  try with_reducible rfl
 try simp only [Act.put,Xa]
 refine wpAnyH_ready (rs := [8]) (by kernel_rfl) (by simp) ?_;refine AllReadyH.cons rfl (fun K hK => ?_) AllReadyH.nil;go_simp;refine (HSay2.out).mono ?_;rintro e w3 ⟨q3,rfl,hb3,hf3⟩;refine hK.out _ _ (ff0 hHeld hf3) (fun hHeld2 => ?_);clear hK K hHeld;rename_i hHeld2;have hHeld := hHeld2;clear hHeld2;have HF23 := Xi (ff0 (Fr.drew w2 (fun _ => False)) hf3);have HB3 := Xi hb3;clear hf3 hb3
 try simp only [Act.put,Xa]
 refine Xt 9 (v := ?_) (fun w' hSw => ?_) ?_;rotate_left
 ·go_simp
  try with_reducible rfl
 try simp only [Act.put,Xa]
 refine wpAnyH_done (by kernel_rfl) ?_ _;clear hHeld;have HF3 := Xi (ff0 HF2.out HF23.out);have HR3 := Xi (HR2.out.keep HF23.out);have HX3 := Xi (HF23.out.blk HB2.out (fun h => h));have HK3 := Xi (Qmp (HT.out.kept (ff0 HF3.out (Fr.drew w3 (fun _ => False)))));have hwg : w.heap.size ≠ g := by omega
 clear HF23 HB2 HR2 HF2 HSay2 HSay HC HCn;go_wp2_with fail;refine wp_region_held_drew (S := fun w' => Fr w3 w' (fun k => k = g)) (by kernel_rfl) (Fr.drew w3 _) (fun hHeld => ?_);refine Xt 0 (v := ?_) (fun w' hSw => ?_) ?_;rotate_left
 ·go_simp
  try with_reducible rfl
 try simp only [Act.put,Xa]
 refine Xt 1 (v := ?_) (fun w' hSw => ?_) ?_;rotate_left
 ·go_simp
  try with_reducible rfl
 try simp only [Act.put,Xa]
 refine Xt 3 (v := ?_) (fun w' hSw => ?_) ?_;rotate_left
 ·go_simp
  try with_reducible rfl
 try simp only [Act.put,Xa]
 refine Xt 4 (v := ?_) (fun w' hSw => ?_) ?_;rotate_left
 ·have q0 := Qdk hSw (blkc HX3.out 0 _ rfl) hwg; go_simp; try with_reducible rfl
 try simp only [Act.put,Xa]
 refine Xt 5 (v := ?_) (fun w' hSw => ?_) ?_;rotate_left
 ·go_simp
  try with_reducible rfl
 try simp only [Act.put,Xa]
 refine Xt 6 (v := ?_) (fun w' hSw => ?_) ?_;rotate_left
 ·have q2 := Qdk hSw (blkc HX3.out 2 _ rfl) hwg; go_simp; try with_reducible rfl
 try simp only [Act.put,Xa]
 refine Xt 7 (v := ?_) (fun w' hSw => ?_) ?_;rotate_left
 ·go_simp
  try with_reducible rfl
 try simp only [Act.put,Xa]
 refine Xt 8 (v := ?_) (fun w' hSw => ?_) ?_;rotate_left
 ·go_simp
  try with_reducible rfl
 try simp only [Act.put,Xa]
 refine wpAnyH_ready (rs := [2]) (by kernel_rfl) (by simp) ?_;refine AllReadyH.cons rfl (fun K hK => ?_) AllReadyH.nil;go_simp;refine (HK3.out).mono ?_;rintro e w4 ⟨b4,rfl,hb4,hf4⟩;refine hK.out _ _ (hHeld.trans hf4 (fun _ _ h => h) (fun _ _ h => h.elim)) (fun hHeld2 => ?_);clear hK K hHeld;rename_i hHeld2;have hHeld := hHeld2;clear hHeld2;have HF4 := Xi (ff0 (Fr.drew w3 (fun _ => False)) hf4);have HP4 := Xi (HPut.out w4 _ _ hb4 (HF4.out.blk HB3.out (fun h => h)));clear hf4 hb4
 try simp only [Act.put,Xa]
 refine wpAnyH_ready (rs := [9]) (by kernel_rfl) (by simp) ?_;refine AllReadyH.cons rfl (fun K hK => ?_) AllReadyH.nil;go_simp;refine (HP4.out).mono ?_;rintro e w5 ⟨r5,rfl,hb5,hf5⟩;refine hK.out _ _ (hHeld.trans hf5 (fun _ _ h => h) (fun _ _ h => h.elim)) (fun hHeld2 => ?_);clear hK K hHeld;rename_i hHeld2;have hHeld := hHeld2;clear hHeld2;have HF5 := Xi (ff0 HF4.out hf5);have hb5 : Blk w5 r5 71 (Qir t) := by rw [HSA.out] at hb5; exact hb5
 have hFW := ff0 HF3.out HF5.out;have HG5 := Xb hFW HB0;rw [HN.out];have HE5 := Xi (show EdS w w5 g t a2 x2 q2 r5 from ⟨HR3.out.keep HF5.out,hb5,hFW.mono (fun _ _ h => h.elim)⟩);clear hf5 hb5 hFW
 try simp only [Act.put,Xa]
 refine Xt 10 (v := ?_) (fun w' hSw => ?_) ?_;rotate_left
 ·go_simp
  try with_reducible rfl
 try simp only [Act.put,Xa]
 refine Xt 11 (v := ?_) (fun w' hSw => ?_) ?_;rotate_left
 ·go_simp
  try with_reducible rfl
 try simp only [Act.put,Xa]
 refine Qkd 12 _ rfl (by kernel_rfl) (by kernel_rfl) rfl rfl rfl g 1 _ _ (.slice (some ⟨r5,0,none⟩) (Qah t + 1) (Qah t + 1)) HG5.out (show 1 < 3 by decide) rfl rfl rfl infoLns (fun W hf => hHeld.trans hf (fun _ _ h => h) (fun _ _ h => h)) ?_;intro w6 hf6 hb6;have HE6 := Xi (HE5.out.put HG5.out hf6);have HG6 := Xi (show Blk w6 g 74 #[vr,.slice (some ⟨r5,0,none⟩) (Qah t + 1) (Qah t + 1),intV n] from hb6);clear hHeld hf6 hb6;go_wp2_with (first
  | (refine Xc 72 g 0 74 _ #[.pointer a2,.slice (some ⟨r5,0,none⟩) (Qah t + 1) (Qah t + 1),intV n] (.pointer a2) HG6.out infoPr rfl ?_;intro w7 hf7 hb7;have HE7 := Xi (HE6.out.put HG6.out hf7);have HG7 := Xi hb7;clear hf7 hb7)
  | (refine Xc 3 g 2 74 _ #[.pointer a2,.slice (some ⟨r5,0,none⟩) (Qah t + 1) (Qah t + 1),intV m] (intV m) HG7.out infoIn rfl ?_;intro w8 hf8 hb8;have HE8 := Xi (HE7.out.put HG7.out hf8);have HG8 := Xi hb8;clear hf8 hb8))
 go_ret;refine ⟨rfl,⟨HFT.out,_,_,_,_,?_,HE8.out.ro,.inr ⟨r5,rfl,HE8.out.ls⟩⟩,HE8.out.fr⟩;have e : ((m : Nat) : Int) = (Qah s : Int) + 1 := by have := Hm.out; omega
 have := HG8.out;rw [e] at this;exact this
/-- what Lines answers -/
def QmL (w : World) (L : List LineL) (e : Ending) (w' : World) : Prop := ∃ A c,e = .returned (.slice A L.length c) ∧ LinesAt w' A L ∧ Fr w w' (fun _ => False)
theorem QnJ {w : World} {b : Nat} (L : List LineL) (hb : Blk w b 71 (L.flatMap Qa1).toArray) (hn : L.length ≤ 100000) : Calls Tryz.prog 26 #[.slice (some ⟨b,0,none⟩) L.length L.length] w (QmL w L) := by
 have hq := QjY;have hR := Qhe hb;obtain ⟨i0,hi0,hz0,hz1,hz2⟩ := info_parts Qgq;have hf := Fr.new w (.cells #[] 71) (fun _ => False);have hR2 := Rd.fr hR hf (fun _ _ _ _ h => h);have hone := Qgs L;obtain ⟨cs,hcs⟩ : ∃ cs,L.flatMap Qa1 = cs := ⟨_,rfl⟩;obtain ⟨n,hnL⟩ : ∃ n,L.length = n := ⟨_,rfl⟩;have HL := Xi (And.intro hcs hnL);unfold QmL LinesAt;rw [hcs] at hR2 hone;rw [hnL] at hR2 hn;simp only [hcs,hnL];have HR := Xi hR2;have HO := Xi hone;have HF := Xi hf;clear hb hR hR2 hone hcs hnL hf;go_enter func26,ntmps26;go_wp2_with (at_builtin;refine QaF _ rfl _ _ 31 rfl w.heap.size 71 i0 _ 29 280 underlying31 hi0 hz0 hz1 hz2 rfl (by decide) _ 0 [] rfl (World.ownsRow_made w #[] 0 (Nat.le_refl _) (Nat.zero_le _) (by simp)) (some ⟨b,0,none⟩) n n cs rfl HR.out HO.out (by simp only [maxLen]; omega) (by omega) HF.out.size ?_;intro v5 w5 ho5 hg5 _;have HO5 := Xi ho5;have HG5 := Xi hg5;clear ho5 hg5);go_ret;obtain ⟨A,c,rfl,-,-,hr,-⟩ := Qed HO5.out;rw [Nat.zero_add,List.nil_append] at hr;refine ⟨A,c,by simp only [Nat.zero_add]; rfl,hr,?_⟩;have := Fr.ofGrown HG5.out;exact HF.out.fresh this (fun i e => by have e : some i = some w.heap.size := e; injection e with e; omega)
theorem Qes {w : World} {g : Nat} {l : Bs} {n : Int} (h : TabAt w g l n) : Calls Tryz.prog 14 #[pT g] w (QmL w (Qdh l)) := by
 have HK := Xi (Qmp h);have hlen := Qev l;have hfit := h.fits.2;have HC := Xi (fun (W : World) (b : Nat) (hb : Blk W b 71 (Qir l)) => QnJ (w := W) (Qdh l) hb (by omega));rw [hlen] at HC;clear h hlen;go_enter func14,ntmps14;go_wp2_with fail;refine HK.out.mono ?_;rintro e w2 ⟨b,rfl,hb,hf2⟩;have HC2 := Xi (HC.out w2 b hb);have HF2 := Xi hf2;clear hb hf2;go_wp2_with fail;refine HC2.out.mono ?_;rintro e w3 ⟨A,c,rfl,hl,hf3⟩;have HL := Xi hl;have HF3 := Xi (ff0 HF2.out hf3);clear hl hf3;go_wp2_with fail;go_ret;exact ⟨A,c,rfl,HL.out,HF3.out⟩
theorem QgF {w : World} {g : Nat} {l : Bs} {n : Int} (h : TabAt w g l n) : Calls Tryz.prog 19 #[pT g] w fun e w' => e = .returned (strV l) ∧ Fr w w' (fun _ => False) := by
 obtain ⟨vr,vl,x,k,h1,h2,h3⟩ := h.ex;have hne := fun w => Qco w g;have c0 := blkc h1 0 _ rfl;have HT := Xi (S3.Text_any h2 h.fits.1);obtain ⟨a,rfl⟩ := Qjo h2;clear h h1 h2 h3;go_enter func19,ntmps19;go_wp2_with fail;refine HT.out.mono ?_;rintro e w2 ⟨rfl,hf2⟩;have HF2 := Xi hf2;clear hf2;go_wp2_with fail;go_ret;exact ⟨rfl,HF2.out⟩
theorem Qfe {w : World} {g : Nat} {l : Bs} {n : Int} (h : TabAt w g l n) : Calls Tryz.prog 20 #[pT g] w fun e w' => e = .returned (intV n) ∧ w' = w := by
 obtain ⟨vr,vl,x,k,h1,h2,h3⟩ := h.ex;have hne := fun w => Qco w g;have c2 := blkc h1 2 _ rfl;clear h h1 h2 h3;go_enter func20,ntmps20;go_wp2_with fail;go_ret;exact ⟨rfl,rfl⟩
/-- what New leaves -/
def NewR (w : World) (s : Bs) (e : Ending) (w' : World) : Prop := Fr w w' (fun _ => False) ∧ ((Fits s ∧ ∃ g,e = .returned (.tuple #[pT g,intV 0]) ∧ w.heap.size ≤ g ∧ TabAt w' g s ((Qah s : Int) + 1)) ∨ (¬ Fits s ∧ e = .returned (.tuple #[.pointer none,intV 17])))
theorem QgG {w : World} {g : Nat} {l : Bs} {n : Int} (h : TabAt w g l n) (hw : LOk w) (e : EdL) (hz : e.s.length ≤ 20100) : Calls Tryz.prog 17 #[pT g,edV e] w (Qkb w g l n e) := by
 cases Qp4 l e with
 | no1 h1 hd => exact Qd8 h e hz 2 (by rw [hd]) rfl
 | no2 a h1 h2 hd => exact Qd8 h e hz 2 (by rw [hd]) rfl
 | back a b h1 h2 h3 hd => exact Qd8 h e hz 2 (by rw [hd]) rfl
 | large a b h1 h2 h3 hd => exact Qd8 h e hz 17 (by rw [hd]) rfl
 | many a b t h1 h2 h3 ht hm hd => exact Qd8 h e hz 17 (by rw [hd]) rfl
 | ok i j a b t hi hj h1 h2 h3 ht hm hd hs hab hij hc => exact tEdit_ok h hw e hz i j a b t hi hj ht hm hd hs hij hc
theorem QlX (s : Bs) (w : World) (hw : LOk w) (hz : s.length ≤ 20100) : Calls Tryz.prog 11 #[strV s] w (NewR w s) := by
 have hnew := Fr.new w (.cells #[.pointer none,.slice none 0 0,intV 0] 74) (fun _ => False);have HE := Xi (QgG (tab_zero w) (hw.fr hnew) (Qf0 s) hz);have HF := Xi hnew;unfold NewR;unfold Qkb Qb0 at HE;rw [QnW] at HE;by_cases hf : Fits s
 ·rw [if_pos hf] at HE;simp only [if_true] at HE;have hs : (Qf0 s).s = s := rfl;rw [hs] at HE;have HFt := Xi hf;clear hw hnew hf hs;unfold edV edC Qf0 at HE;go_enter func11,ntmps11;go_wp2_with fail;refine HE.out.mono ?_;rintro e w2 ⟨rfl,ht,hf2⟩;have HT := Xi ht;have HF2 := Xi (HF.out.fresh hf2 (fun i e => by have e : i = w.heap.size := e; omega));clear ht hf2;go_wp2_with fail
  go_ret2
  exact ⟨HF2.out,.inl ⟨HFt.out,_,rfl,Nat.le_refl _,HT.out⟩⟩
 ·rw [if_neg hf] at HE;have HFt := Xi hf;clear hw hnew hf;unfold edV edC Qf0 at HE;go_enter func11,ntmps11;go_wp2_with fail;refine HE.out.mono ?_;rintro e w2 ⟨rfl,ht,hf2⟩;have HF2 := Xi (HF.out.fresh hf2 (fun i e => by have e : i = w.heap.size := e; omega));clear ht hf2;go_wp2_with fail
  go_ret2
  exact ⟨HF2.out,.inr ⟨HFt.out,rfl⟩⟩
/- the chapter's example -/
def aT : Bs := [97,10,98]
def aE : EdL := ⟨0,1,1,0,[]⟩
theorem a_fits : Fits aT := by decide
theorem a_edit : Qcc aT aE = ([97,98],0) := by decide +kernel
theorem a_read : Qb0 aT aE 2 = 1 := by unfold Qb0; rw [a_edit]; rfl
/-- a table that was just made,of a text that fits -/
theorem Qmi {w w' : World} {s : Bs} {e : Ending} (h : NewR w s e w') (hf : Fits s) : ∃ g,e = .returned (.tuple #[pT g,intV 0]) ∧ w.heap.size ≤ g ∧ TabAt w' g s ((Qah s : Int) + 1) ∧ Fr w w' (fun _ => False) := by
 obtain ⟨hfr,⟨-,g,h1,h2,h3⟩ | ⟨hn,-⟩⟩ := h
 ·exact ⟨g,h1,h2,h3,hfr⟩
 ·exact absurd hf hn
theorem Qpy {w w' : World} {s : Bs} {e : Ending} (h : NewR w s e w') (hf : ¬ Fits s) : e = .returned (.tuple #[.pointer none,intV 17]) ∧ Fr w w' (fun _ => False) := by
 obtain ⟨hfr,⟨hn,-⟩ | ⟨-,h1⟩⟩ := h
 ·exact absurd hn hf
 ·exact ⟨h1,hfr⟩
/-- a frame from the begin on,Qak what turns a table that was made since -/
theorem fr_tab {w a b : World} {g : Nat} (h : Fr w a (fun _ => False)) (hf : Fr a b (fun k => k = g)) (hg : w.heap.size ≤ g) : Fr w b (fun _ => False) := h.fresh hf (fun i e => by subst e; omega)
theorem QlK (w : World) (hw : LOk w) : Calls Tryz.prog 10 #[] w (TrueT w) := by
 have HN := Xi (QlX aT w hw (by decide));have HW := Xi (fun (W : World) (f : Fr w W (fun _ => False)) => hw.fr f);have hnt := fun (w : World) (g : Nat) => Qco w g;unfold aT at HN;clear hw;go_enter func10,ntmps10;go_wp2_with fail;refine HN.out.mono ?_;rintro e w2 hn;obtain ⟨g,rfl,hg,ht,hf2⟩ := Qmi hn a_fits;have hne := fun w => Qco w g;have HT2 := Xi ht;have HF2 := Xi hf2;have HR2 := Xi (Qfe ht);have HE2 := Xi (QgG ht (HW.out w2 hf2) aE (by decide));have hr : ((Qah aT : Int) + 1) = 2 := by decide
 have hr : ((Qah [97,10,98] : Int) + 1) = 2 := hr;rw [hr] at HR2;unfold Qkb at HE2;have ha := a_edit;have hb := a_read;unfold aT at ha hb;rw [hr,ha,hb] at HE2;unfold edV edC aE at HE2;clear hn ht hf2 hr ha hb;go_wp2_with fail;refine HR2.out.mono ?_;rintro e w3 ⟨rfl,rfl⟩;go_wp2_with fail;refine HE2.out.mono ?_;rintro e w4 ⟨rfl,ht4,hf4⟩;have HT4 := Xi (QgF ht4);have HL4 := Xi (fun (W : World) (f : Fr w4 W (fun _ => False)) => Qes (ht4.kept f));have HR4 := Xi (fun (W : World) (f : Fr w4 W (fun _ => False)) => Qfe (ht4.kept f));have HF4 := Xi (fr_tab HF2.out hf4 hg);clear ht4 hf4;go_wp2_with fail;refine HT4.out.mono ?_;rintro e w5 ⟨rfl,hf5⟩;have HF5 := Xi hf5;clear hf5;go_wp2_with fail;refine (HR4.out w5 HF5.out).mono ?_;rintro e w6 ⟨rfl,rfl⟩;go_wp2_with fail;refine (HL4.out w6 HF5.out).mono ?_;rintro e w7 ⟨A,c,rfl,hl,hf7⟩;have hlen : (Qdh [97,98]).length = 1 := Qev _;rw [hlen];have HF7 := Xi (ff0 HF4.out (ff0 HF5.out hf7));clear hl hf7;go_wp2_with fail;go_ret;exact ⟨rfl,HF7.out⟩
end Go.Proofs.YtodcnbejnchmhaaGreatDoor
namespace Go.Proofs.YtodcnbejnchmhaaGreatDoor
open Go.Rope hiding Bs
open Go.RowKit Go.Mem Go.Lin Go.Dcm

/- one edit as a slice -/
theorem QpS : (Tryz.prog.info? 37).map (·.size) = some 5 := by kernel_rfl
end Go.Proofs.YtodcnbejnchmhaaGreatDoor
