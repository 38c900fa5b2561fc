import Derived.Test.YtlfjknndkjgciaaGreatDoorYd47
set_option maxRecDepth 100000
set_option maxHeartbeats 6400000
namespace Go.Proofs.YtlfjknndkjgciaaGreatDoor
open _root_.Go.Proofs.Tryz
open Go.RowKit Go.Mem Go.Lin Go.Dcm

theorem Qc0 : (Tryz.prog.info? 31).map (·.size) = some 4 := by kernel_rfl
theorem Qfy : (Tryz.prog.info? 26).map (·.size) = some 1 := by kernel_rfl
theorem Qfx : (Tryz.prog.info? 27).map (·.size) = some 1 := by kernel_rfl
theorem Qfz : (Tryz.prog.info? 28).map (·.size) = some 1 := by kernel_rfl
theorem QcD : (Tryz.prog.info? 29).map (·.size) = some 1 := by kernel_rfl
/-- what is made so far of a document -/
structure BkS (W0 W : World) (D B : Nat) (vr vz vl vd : Value) (R : List (RuleL × Int)) (Z : List ZV) (L : List LinkL) : Prop where
 b : Blk W D 31 #[vr,vz,vl,vd]
 r : Own W B 61 12 Qbu vr R
 z : Own W B 69 3 Qa1 vz Z
 l : Own W B 63 3 Qcp vl L
 f : Fr W0 W (fun i => D ≤ i)
/-- a row of another type stays where x.f = append(x.f,y) -/
theorem QoZ {X : Type} {w W : World} {D B B' : Nat} {e e' : TypeId} {k : Nat} {f : X → List Value} {v : Value} {l : List X} (h : Own w B' e k f v l) (hf : Fr w W (PB D B e' w)) (hne : e ≠ e') (hD : D < B') : Own W B' e k f v l :=
 Qel h hf fun i cs hi hb hx => by
  rcases hx with hx | hx
  ·omega
  ·exact hne (Qal hb hx.2.choose_spec)
theorem pb_ge {w W : World} {D B : Nat} {e : TypeId} (hf : Fr w W (PB D B e w)) (hD : D ≤ B) : Fr w W (fun i => D ≤ i) := hf.mono fun i _ h => by
 rcases h with h | h
 ·omega
 ·have := h.1; omega
theorem Qc1 {a b c : World} {D : Nat} (h : Fr a b (fun i => D ≤ i)) (k : Fr b c (fun i => D ≤ i)) : Fr a c (fun i => D ≤ i) := h.trans k (fun _ _ h => h) (fun _ _ h => h)
def BackPost (d : DocL) (vd : Value) (zv : List ZV) (w : World) (e : Ending) (w' : World) : Prop := ∃ vr vz vl,e = .returned (.agg #[vr,vz,vl,vd]) ∧ Own w' w.heap.size 61 12 Qbu vr d.rules ∧ Own w' w.heap.size 69 3 Qa1 vz zv ∧ Own w' w.heap.size 63 3 Qcp vl d.links ∧ Fr w w' (fun _ => False)
theorem res_back {w : World} {q : Nat} {cs : Array Value} (hs : cs.size = 4) (hb : Blk w q 31 cs) (tmps : Array Value) (hp : tmps.getD 2 undef = .pointer (some ⟨q,0,none⟩)) : (results f12 tmps).run Tryz.prog w = .ok (.agg cs) w :=
 results_cell_row (P := Tryz.prog) (fn := f12) (p := 2) (ty := 31) rfl tmps _ q 31 cs (0,0) _ hp hb underlying31 rfl (by rw [hs]; exact Qc0)
theorem Back_any (d : DocL) (vr vz vl vd : Value) (B1 : Nat) (w : World) (zv : List ZV) (hzv : zv.map (·.1) = d.zones) (hr : Own w B1 72 12 Qbu vr d.rules) (hz : Own w B1 71 3 Qa1 vz zv) (hall : ∀ x ∈ zv,ZAt w B1 x) (hl : Own w B1 78 3 Qcp vl d.links) (hd : Own w B1 65 4 QcM vd d.diags)
  (h1 : d.rules.length ≤ 100000) (h2 : d.zones.length ≤ 100000) (h3 : d.links.length ≤ 100000) : Calls Tryz.prog 12 #[.agg #[vr,vz,vl,vd]] w (BackPost d vd zv w) := by
 obtain ⟨Ar,cr,rfl,-,-,hrr⟩ := hr.rd;obtain ⟨Az,cz,rfl,-,-,hrz⟩ := hz.rd;obtain ⟨Al,cl,rfl,-,-,hrl⟩ := hl.rd;obtain ⟨Ad,cd,rfl⟩ := hd.slice;have hzl : zv.length = d.zones.length := by rw [← hzv,List.length_map]
 rw [hzl];have s1 : (w.alloc (.cells #[.slice Ar d.rules.length cr,.slice Az d.zones.length cz,.slice Al d.links.length cl,.slice Ad d.diags.length cd] 37)).heap.size = w.heap.size + 1 := by simp
 have s2 : ((w.alloc (.cells #[.slice Ar d.rules.length cr,.slice Az d.zones.length cz,.slice Al d.links.length cl,.slice Ad d.diags.length cd] 37)).alloc (.cells #[.slice none 0 0,.slice none 0 0,.slice none 0 0,.slice none 0 0] 31)).heap.size = w.heap.size + 2 := by simp
 have s3 : (((w.alloc (.cells #[.slice Ar d.rules.length cr,.slice Az d.zones.length cz,.slice Al d.links.length cl,.slice Ad d.diags.length cd] 37)).alloc (.cells #[.slice none 0 0,.slice none 0 0,.slice none 0 0,.slice none 0 0] 31)).alloc (.cells #[.slice none 0 0,.slice none 0 0,.slice none 0 0,.slice Ad d.diags.length cd] 31)).heap.size = w.heap.size + 3 := by simp
 have n1 := Fr.new w (.cells #[.slice Ar d.rules.length cr,.slice Az d.zones.length cz,.slice Al d.links.length cl,.slice Ad d.diags.length cd] 37) (fun _ => False);have n2 := Fr.new (w.alloc (.cells #[.slice Ar d.rules.length cr,.slice Az d.zones.length cz,.slice Al d.links.length cl,.slice Ad d.diags.length cd] 37)) (.cells #[.slice none 0 0,.slice none 0 0,.slice none 0 0,.slice none 0 0] 31) (fun _ => False);have n3 := Fr.new ((w.alloc (.cells #[.slice Ar d.rules.length cr,.slice Az d.zones.length cz,.slice Al d.links.length cl,.slice Ad d.diags.length cd] 37)).alloc (.cells #[.slice none 0 0,.slice none 0 0,.slice none 0 0,.slice none 0 0] 31)) (.cells #[.slice none 0 0,.slice none 0 0,.slice none 0 0,.slice Ad d.diags.length cd] 31) (fun _ => False);have hf3 : Fr w (((w.alloc (.cells #[.slice Ar d.rules.length cr,.slice Az d.zones.length cz,.slice Al d.links.length cl,.slice Ad d.diags.length cd] 37)).alloc (.cells #[.slice none 0 0,.slice none 0 0,.slice none 0 0,.slice none 0 0] 31)).alloc (.cells #[.slice none 0 0,.slice none 0 0,.slice none 0 0,.slice Ad d.diags.length cd] 31)) (fun _ => False) := ff0 (ff0 n1 n2) n3;have hp := n3.blk (n2.blk (Blk.made w 37 #[.slice Ar d.rules.length cr,.slice Az d.zones.length cz,.slice Al d.links.length cl,.slice Ad d.diags.length cd]) (fun h => h)) (fun h => h);have hq := n3.blk (Blk.made (w.alloc (.cells #[.slice Ar d.rules.length cr,.slice Az d.zones.length cz,.slice Al d.links.length cl,.slice Ad d.diags.length cd] 37)) 31 #[.slice none 0 0,.slice none 0 0,.slice none 0 0,.slice none 0 0]) (fun h => h);have hD := Blk.made ((w.alloc (.cells #[.slice Ar d.rules.length cr,.slice Az d.zones.length cz,.slice Al d.links.length cl,.slice Ad d.diags.length cd] 37)).alloc (.cells #[.slice none 0 0,.slice none 0 0,.slice none 0 0,.slice none 0 0] 31)) 31 #[.slice none 0 0,.slice none 0 0,.slice none 0 0,.slice Ad d.diags.length cd];rw [s1] at hq;rw [s2] at hD;obtain ⟨W0,hW0⟩ : ∃ W,(((w.alloc (.cells #[.slice Ar d.rules.length cr,.slice Az d.zones.length cz,.slice Al d.links.length cl,.slice Ad d.diags.length cd] 37)).alloc (.cells #[.slice none 0 0,.slice none 0 0,.slice none 0 0,.slice none 0 0] 31)).alloc (.cells #[.slice none 0 0,.slice none 0 0,.slice none 0 0,.slice Ad d.diags.length cd] 31)) = W := ⟨_,rfl⟩;rw [hW0] at hp hq hD hf3 s3;have HS := Xi (show BkS W0 W0 (w.heap.size + 2) (w.heap.size + 3) (.slice none 0 0) (.slice none 0 0) (.slice none 0 0) (.slice Ad d.diags.length cd) (d.rules.take 0) (zv.take 0) (d.links.take 0) from ⟨hD,Qca _ _ _ _ _,Qca _ _ _ _ _,Qca _ _ _ _ _,Fr.refl _ _⟩);have HP := Xi hp;have HQ := Xi hq;have HF0 := Xi hf3;have HRR := Xi hrr;have HRZ := Xi hrz;have HRL := Xi hrl;have HAL := Xi hall;clear n1 n2 n3 hr hz hl hd hrr hrz hrl hall hf3 hp hq hD s1 s2;go_enter func12,ntmps12;go_wp2_with fail;clear hW0
 go_loopg [4] d.rules.length (fun k v4 wr => ∃ (i : Nat) (vr : Value),i + k = d.rules.length ∧ v4 = intV (i : Int) ∧ BkS W0 wr (w.heap.size + 2) (w.heap.size + 3) vr (.slice none 0 0) (.slice none 0 0) (.slice Ad d.diags.length cd) (d.rules.take i) (zv.take 0) (d.links.take 0))
 case atStart => exact ⟨0,_,by simp,rfl,HS.out⟩
 case round =>
  obtain ⟨i,vr,hik,rfl,hS⟩ := hrel;have a0 := QaF hS.f (blkc HP.out 0 _ rfl) (by omega);have hwr := hS.f.size;have HSr := Xi hS;by_cases hlt : i < d.rules.length
  ·have hi1 : (i : Int) < (d.rules.length : Int) := by omega
   obtain ⟨x1,o1,rfl,c1⟩ := QdC Qhd HRR.out hlt;have hx1 : x1 < w.heap.size := by
    have := c1 0 (show 0 < 12 by decide);rw [Array.getElem?_eq_getElem (show 0 < 12 by decide)] at this;exact World.block_lt_of_cell? w _ this
   have c1 := QbA hS.f (QbA HF0.out c1 (Nat.le_refl _) (fun h => h)) (Nat.le_refl _) (by omega);have HT := Xi (show d.rules.take (i + 1) = d.rules.take i ++ [d.rules[i]] from List.take_succ_eq_append_getElem hlt);obtain ⟨x,hx⟩ : ∃ x,d.rules[i] = x := ⟨_,rfl⟩;rw [hx] at c1 HT;have C1 := Xi (fun j (hj : j < (Qam x.1).size) => (c1 j (Nat.lt_of_lt_of_le hj (show 11 ≤ 12 by decide))).trans (show (Qbu x).toArray[j]? = (Qam x.1)[j]? by rw [List.getElem?_toArray]; exact Qom x j hj));have c11 := c1 11 (show 11 < 12 by decide);have c11 : wr.cell? ⟨x1,o1 + i * 12 + 11,none⟩ = some (intV x.2) := c11;have hn : (d.rules.take i).length = i := by rw [List.length_take]; omega
   obtain ⟨A,c,hv⟩ := hS.r.slice;rw [hn] at hv;subst hv;have HBW := Xi ((Fr.drew wr (fun _ => False)).blk hS.b (fun h => h));have HOW := Xi (hS.r.kept (Fr.drew wr (fun _ => False)));have hbase : w.heap.size + 3 ≤ wr.drew.heap.size := by rw [← s3]; exact hwr
   clear c1 hx hS;go_wp2_with fail;refine wp_region_held_drew (S := fun w' => Fr wr w' (fun i => w.heap.size + 2 ≤ i)) (by kernel_rfl) (Fr.drew wr _) (fun hHeld => ?_);refine Xt 0 (v := ?_) (fun w' hSw => ?_) ?_;rotate_left
   ·skip;go_simp
    try with_reducible rfl
   try simp only [Act.put,Xa]
   refine Xt 2 (v := ?_) (fun w' hSw => ?_) ?_;rotate_left
   ·skip;go_simp
    try with_reducible rfl
   try simp only [Act.put,Xa]
   refine Xt 3 (v := ?_) (fun w' hSw => ?_) ?_;rotate_left
   ·have ka := QaF hSw a0 (by omega); go_simp; try with_reducible rfl
   try simp only [Act.put,Xa]
   refine Xt 4 (v := ?_) (fun w' hSw => ?_) ?_;rotate_left
   ·skip;go_simp
    try with_reducible rfl
   try simp only [Act.put,Xa]
   refine Xt 5 (v := ?_) (fun w' hSw => ?_) ?_;rotate_left
   ·skip;go_simp
    try with_reducible rfl
   try simp only [Act.put,Xa]
   refine Xt 6 (v := ?_) (fun w' hSw => ?_) ?_;rotate_left
   ·skip;go_simp
    try with_reducible rfl
   try simp only [Act.put,Xa]
   refine wpAnyH_take (i := 7) (v := _) rfl (by kernel_rfl) (by kernel_rfl) (by kernel_rfl) (fun _ _ _ h => h) (Qch 51 _ x1 (o1 + i * 12) (Qam x.1) _ (by rfl) rfl (by rfl) (fun w' h => QbA h C1.out (Nat.le_refl _) (by omega)) underlying51 rfl (Qcg _)) (by assumption) ?_
   try simp only [Act.put,Xa]
   refine Xt 8 (v := ?_) (fun w' hSw => ?_) ?_;rotate_left
   ·skip;go_simp
    try with_reducible rfl
   try simp only [Act.put,Xa]
   refine Xt 9 (v := ?_) (fun w' hSw => ?_) ?_;rotate_left
   ·have ka := QaF hSw a0 (by omega); go_simp; try with_reducible rfl
   try simp only [Act.put,Xa]
   refine Xt 10 (v := ?_) (fun w' hSw => ?_) ?_;rotate_left
   ·skip;go_simp
    try with_reducible rfl
   try simp only [Act.put,Xa]
   refine Xt 11 (v := ?_) (fun w' hSw => ?_) ?_;rotate_left
   ·skip;go_simp
    try with_reducible rfl
   try simp only [Act.put,Xa]
   refine Xt 12 (v := ?_) (fun w' hSw => ?_) ?_;rotate_left
   ·skip;go_simp
    try with_reducible rfl
   try simp only [Act.put,Xa]
   refine Xt 13 (v := ?_) (fun w' hSw => ?_) ?_;rotate_left
   ·have k11 := QaF hSw c11 (by omega); go_simp; try with_reducible rfl
   try simp only [Act.put,Xa]
   refine wpAnyH_take (i := 14) (v := _) rfl (by kernel_rfl) (by kernel_rfl) (by kernel_rfl) (fun _ _ _ h => h) ((Or.inl ⟨by rfl,fun w' _ => by kernel_rfl⟩ : YieldsIf _ _ _ _ (.agg (Qbu x).toArray) _)) (by assumption) ?_
   try simp only [Act.put,Xa]
   refine Qec (f := Qbu) 1 15 16 _ _ _ rfl rfl rfl (by kernel_rfl) (by kernel_rfl) (by kernel_rfl) (by kernel_rfl) (by decide) rfl rfl rfl rfl rfl rfl rfl (by decide) rfl
    (w.heap.size + 2) 0 (w.heap.size + 3) 31 _ _ _ _ (Qbu x).toArray (.agg (Qbu x).toArray) x (by omega) HBW.out rfl hn.symm rfl rfl rfl rfl (fun w => by kernel_rfl) rfl (by simp [Qbu,Qam,Value.oneCell']) rfl rfl _ 12 112 underlying26 QhE rfl (by decide) rfl HOW.out (by omega) (by decide) hbase
    (fun W hf => (Fr.drew wr _).trans hf (fun _ _ h => h) (fun i _ h => by have := h.1; omega)) ?_
   intro A9 c9 w9 hS9 ho9 hb9 hf9;clear hHeld
   try simp only [Act.put,Xa]
   refine Xt 17 (v := ?_) (fun w' hSw => ?_) ?_;rotate_left
   ·skip;go_simp
    try with_reducible rfl
   try simp only [Act.put,Xa]
   refine Qe3 18 _ rfl (by kernel_rfl) (by kernel_rfl) rfl rfl rfl (w.heap.size + 2) 0 _ _ (.slice A9 (i + 1) c9) hb9 (show 0 < 4 by decide) rfl rfl rfl Qfy (fun W hf => hS9.trans hf (fun _ _ h => h) (fun i _ h => by have h : i = w.heap.size + 2 := h; omega)) ?_;intro W9 hs9 hb9;have ho9 := QfE ho9 hs9 (by omega);have hf9 := (hf9.mono (U := PB (w.heap.size + 2) (w.heap.size + 3) 61 wr.drew) (fun _ _ h => Or.inr h)).trans hs9 (fun _ _ h => h) (fun _ _ h => Or.inl h);have HE := Xi (show BkS W0 W9 (w.heap.size + 2) (w.heap.size + 3) (.slice A9 (i + 1) c9) (.slice none 0 0) (.slice none 0 0) (.slice Ad d.diags.length cd) (d.rules.take (i + 1)) (zv.take 0) (d.links.take 0) from
    ⟨hb9,by rw [HT.out]; exact ho9,Qca _ _ _ _ _,Qca _ _ _ _ _,Qc1 HSr.out.f (Qc1 (Fr.drew wr _) (pb_ge hf9 (by omega)))⟩)
   clear ho9 hb9 hf9 hs9 hS9
   try simp only [Act.put,Xa]
   go_wp2_with fail
   go_roundg (d.rules.length - (i + 1))
   case measure => omega
   case rel => exact ⟨i + 1,_,by omega,by go_num,HE.out⟩
  ·obtain rfl : i = d.rules.length := by omega
   have hi1 : (d.rules.length : Int) ≤ (d.rules.length : Int) := Int.le_refl _;have a1 := QaF hS.f (blkc HP.out 1 _ rfl) (by omega);clear hS;go_wp2_with fail;clear a0 a1;have HSR := HSr;clear HSr
   go_loopg [5] d.zones.length (fun k v5 wr => ∃ (i : Nat) (vz : Value),i + k = d.zones.length ∧ v5 = intV (i : Int) ∧ BkS W0 wr (w.heap.size + 2) (w.heap.size + 3) vr vz (.slice none 0 0) (.slice Ad d.diags.length cd) (d.rules.take d.rules.length) (zv.take i) (d.links.take 0))
   case atStart => exact ⟨0,_,by simp,rfl,HSR.out⟩
   case round =>
    obtain ⟨i,vz,hik,rfl,hS⟩ := hrel;have a0 := QaF hS.f (blkc HP.out 1 _ rfl) (by omega);have hwr := hS.f.size;have HSr := Xi hS;by_cases hlt : i < d.zones.length
    ·have hi1 : (i : Int) < (d.zones.length : Int) := by omega
     have hltz : i < zv.length := by omega
     obtain ⟨x1,o1,rfl,c1⟩ := QdC QcF HRZ.out hltz;have hx1 : x1 < w.heap.size := by
      have := c1 0 (show 0 < 3 by decide);rw [Array.getElem?_eq_getElem (show 0 < 3 by decide)] at this;exact World.block_lt_of_cell? w _ this
     have c1 := QbA hS.f (QbA HF0.out c1 (Nat.le_refl _) (fun h => h)) (Nat.le_refl _) (by omega);have HT := Xi (show zv.take (i + 1) = zv.take i ++ [zv[i]] from List.take_succ_eq_append_getElem hltz);have hxa := HAL.out zv[i] (List.getElem_mem hltz);obtain ⟨⟨z,ve,vn⟩,hx⟩ : ∃ x,zv[i] = x := ⟨_,rfl⟩;rw [hx] at c1 HT hxa;obtain ⟨Ae,ce,hve⟩ : ∃ A c,ve = .slice A z.eras.length c := hxa.e.slice;obtain ⟨An,cn,hvn⟩ : ∃ A c,vn = .slice A z.lines.length c := hxa.l.slice;subst hve hvn;have k0 : wr.cell? ⟨x1,o1 + i * 3,none⟩ = some (strV z.name) := c1 0 (show 0 < 3 by decide);have k1 : wr.cell? ⟨x1,o1 + i * 3 + 1,none⟩ = some (.slice Ae z.eras.length ce) := c1 1 (show 1 < 3 by decide);have k2 : wr.cell? ⟨x1,o1 + i * 3 + 2,none⟩ = some (.slice An z.lines.length cn) := c1 2 (show 2 < 3 by decide);have hn : (zv.take i).length = i := by rw [List.length_take]; omega
     obtain ⟨A,c,hv⟩ := hS.z.slice;rw [hn] at hv;subst hv;have HBW := Xi ((Fr.drew wr (fun _ => False)).blk hS.b (fun h => h));have HOW := Xi (hS.z.kept (Fr.drew wr (fun _ => False)));have HOR := Xi (hS.r.kept (Fr.drew wr (fun _ => False)));have hbase : w.heap.size + 3 ≤ wr.drew.heap.size := by rw [← s3]; exact hwr
     clear c1 hx hS hxa;go_wp2_with fail;refine wp_region_held_drew (S := fun w' => Fr wr w' (fun i => w.heap.size + 2 ≤ i)) (by kernel_rfl) (Fr.drew wr _) (fun hHeld => ?_);refine Xt 0 (v := ?_) (fun w' hSw => ?_) ?_;rotate_left
     ·skip;go_simp
      try with_reducible rfl
     try simp only [Act.put,Xa]
     refine Xt 2 (v := ?_) (fun w' hSw => ?_) ?_;rotate_left
     ·skip;go_simp
      try with_reducible rfl
     try simp only [Act.put,Xa]
     refine Xt 3 (v := ?_) (fun w' hSw => ?_) ?_;rotate_left
     ·have ka := QaF hSw a0 (by omega); go_simp; try with_reducible rfl
     try simp only [Act.put,Xa]
     refine Xt 4 (v := ?_) (fun w' hSw => ?_) ?_;rotate_left
     ·skip;go_simp
      try with_reducible rfl
     try simp only [Act.put,Xa]
     refine Xt 5 (v := ?_) (fun w' hSw => ?_) ?_;rotate_left
     ·skip;go_simp
      try with_reducible rfl
     try simp only [Act.put,Xa]
     refine Xt 6 (v := ?_) (fun w' hSw => ?_) ?_;rotate_left
     ·skip;go_simp
      try with_reducible rfl
     try simp only [Act.put,Xa]
     refine Xt 7 (v := ?_) (fun w' hSw => ?_) ?_;rotate_left
     ·have kk := QaF hSw k0 (by omega); go_simp; try with_reducible rfl
     try simp only [Act.put,Xa]
     refine Xt 8 (v := ?_) (fun w' hSw => ?_) ?_;rotate_left
     ·skip;go_simp
      try with_reducible rfl
     try simp only [Act.put,Xa]
     refine Xt 9 (v := ?_) (fun w' hSw => ?_) ?_;rotate_left
     ·have ka := QaF hSw a0 (by omega); go_simp; try with_reducible rfl
     try simp only [Act.put,Xa]
     refine Xt 10 (v := ?_) (fun w' hSw => ?_) ?_;rotate_left
     ·skip;go_simp
      try with_reducible rfl
     try simp only [Act.put,Xa]
     refine Xt 11 (v := ?_) (fun w' hSw => ?_) ?_;rotate_left
     ·skip;go_simp
      try with_reducible rfl
     try simp only [Act.put,Xa]
     refine Xt 12 (v := ?_) (fun w' hSw => ?_) ?_;rotate_left
     ·skip;go_simp
      try with_reducible rfl
     try simp only [Act.put,Xa]
     refine Xt 13 (v := ?_) (fun w' hSw => ?_) ?_;rotate_left
     ·have kk := QaF hSw k1 (by omega); go_simp; try with_reducible rfl
     try simp only [Act.put,Xa]
     refine Xt 14 (v := ?_) (fun w' hSw => ?_) ?_;rotate_left
     ·skip;go_simp
      try with_reducible rfl
     try simp only [Act.put,Xa]
     refine Xt 15 (v := ?_) (fun w' hSw => ?_) ?_;rotate_left
     ·have ka := QaF hSw a0 (by omega); go_simp; try with_reducible rfl
     try simp only [Act.put,Xa]
     refine Xt 16 (v := ?_) (fun w' hSw => ?_) ?_;rotate_left
     ·skip;go_simp
      try with_reducible rfl
     try simp only [Act.put,Xa]
     refine Xt 17 (v := ?_) (fun w' hSw => ?_) ?_;rotate_left
     ·skip;go_simp
      try with_reducible rfl
     try simp only [Act.put,Xa]
     refine Xt 18 (v := ?_) (fun w' hSw => ?_) ?_;rotate_left
     ·skip;go_simp
      try with_reducible rfl
     try simp only [Act.put,Xa]
     refine Xt 19 (v := ?_) (fun w' hSw => ?_) ?_;rotate_left
     ·have kk := QaF hSw k2 (by omega); go_simp; try with_reducible rfl
     try simp only [Act.put,Xa]
     refine wpAnyH_take (i := 20) (v := _) rfl (by kernel_rfl) (by kernel_rfl) (by kernel_rfl) (fun _ _ _ h => h) ((Or.inl ⟨by rfl,fun w' _ => by kernel_rfl⟩ : YieldsIf _ _ _ _ (.agg #[strV z.name,.slice Ae z.eras.length ce,.slice An z.lines.length cn]) _)) (by assumption) ?_
     try simp only [Act.put,Xa]
     refine Qec (f := Qa1) 1 21 22 _ _ _ rfl rfl rfl (by kernel_rfl) (by kernel_rfl) (by kernel_rfl) (by kernel_rfl) (by decide) rfl rfl rfl rfl rfl rfl rfl (by decide) rfl
      (w.heap.size + 2) 1 (w.heap.size + 3) 31 _ _ _ _ #[strV z.name,.slice Ae z.eras.length ce,.slice An z.lines.length cn] (.agg #[strV z.name,.slice Ae z.eras.length ce,.slice An z.lines.length cn]) (z,.slice Ae z.eras.length ce,.slice An z.lines.length cn) (by omega) HBW.out rfl hn.symm rfl rfl rfl rfl (fun w => by kernel_rfl) rfl (by simp [Value.oneCell']) rfl rfl _ 3 64 underlying27 QhD rfl (by decide) rfl HOW.out (by omega) (by decide) hbase
      (fun W hf => (Fr.drew wr _).trans hf (fun _ _ h => h) (fun i _ h => by have := h.1; omega)) ?_
     intro A9 c9 w9 hS9 ho9 hb9 hf9;clear hHeld
     try simp only [Act.put,Xa]
     refine Xt 23 (v := ?_) (fun w' hSw => ?_) ?_;rotate_left
     ·skip;go_simp
      try with_reducible rfl
     try simp only [Act.put,Xa]
     refine Qe3 24 _ rfl (by kernel_rfl) (by kernel_rfl) rfl rfl rfl (w.heap.size + 2) 1 _ _ (.slice A9 (i + 1) c9) hb9 (show 1 < 4 by decide) rfl rfl rfl Qfx (fun W hf => hS9.trans hf (fun _ _ h => h) (fun i _ h => by have h : i = w.heap.size + 2 := h; omega)) ?_;intro W9 hs9 hb9;have ho9 := QfE ho9 hs9 (by omega);have hf9 := (hf9.mono (U := PB (w.heap.size + 2) (w.heap.size + 3) 69 wr.drew) (fun _ _ h => Or.inr h)).trans hs9 (fun _ _ h => h) (fun _ _ h => Or.inl h);have HE := Xi (show BkS W0 W9 (w.heap.size + 2) (w.heap.size + 3) vr (.slice A9 (i + 1) c9) (.slice none 0 0) (.slice Ad d.diags.length cd) (d.rules.take d.rules.length) (zv.take (i + 1)) (d.links.take 0) from
      ⟨hb9,QoZ HOR.out hf9 (by decide) (by omega),by rw [HT.out]; exact ho9,Qca _ _ _ _ _,Qc1 HSr.out.f (Qc1 (Fr.drew wr _) (pb_ge hf9 (by omega)))⟩)
     clear ho9 hb9 hf9 hs9 hS9
     try simp only [Act.put,Xa]
     go_wp2_with fail
     go_roundg (d.zones.length - (i + 1))
     case measure => omega
     case rel => exact ⟨i + 1,_,by omega,by go_num,HE.out⟩
    ·obtain rfl : i = d.zones.length := by omega
     have hi1 : (d.zones.length : Int) ≤ (d.zones.length : Int) := Int.le_refl _;have a1 := QaF hS.f (blkc HP.out 2 _ rfl) (by omega);clear hS HSR;go_wp2_with fail;clear a0 a1;have HSR := HSr;clear HSr
     go_loopg [6] d.links.length (fun k v6 wr => ∃ (i : Nat) (vl : Value),i + k = d.links.length ∧ v6 = intV (i : Int) ∧ BkS W0 wr (w.heap.size + 2) (w.heap.size + 3) vr vz vl (.slice Ad d.diags.length cd) (d.rules.take d.rules.length) (zv.take d.zones.length) (d.links.take i))
     case atStart => exact ⟨0,_,by simp,rfl,HSR.out⟩
     case round =>
      obtain ⟨i,vl,hik,rfl,hS⟩ := hrel;have a0 := QaF hS.f (blkc HP.out 2 _ rfl) (by omega);have hwr := hS.f.size;have HSr := Xi hS;by_cases hlt : i < d.links.length
      ·have hi1 : (i : Int) < (d.links.length : Int) := by omega
       obtain ⟨x1,o1,rfl,c1⟩ := QdC Qhz HRL.out hlt;have hx1 : x1 < w.heap.size := by
        have := c1 0 (show 0 < 3 by decide);rw [Array.getElem?_eq_getElem (show 0 < 3 by decide)] at this;exact World.block_lt_of_cell? w _ this
       have c1 := QbA hS.f (QbA HF0.out c1 (Nat.le_refl _) (fun h => h)) (Nat.le_refl _) (by omega);have HT := Xi (show d.links.take (i + 1) = d.links.take i ++ [d.links[i]] from List.take_succ_eq_append_getElem hlt);obtain ⟨x,hx⟩ : ∃ x,d.links[i] = x := ⟨_,rfl⟩;rw [hx] at c1 HT;have k0 : wr.cell? ⟨x1,o1 + i * 3,none⟩ = some (strV x.target) := c1 0 (show 0 < 3 by decide);have k1 : wr.cell? ⟨x1,o1 + i * 3 + 1,none⟩ = some (strV x.name) := c1 1 (show 1 < 3 by decide);have k2 : wr.cell? ⟨x1,o1 + i * 3 + 2,none⟩ = some (intV x.line) := c1 2 (show 2 < 3 by decide);have hn : (d.links.take i).length = i := by rw [List.length_take]; omega
       obtain ⟨A,c,hv⟩ := hS.l.slice;rw [hn] at hv;subst hv;have HBW := Xi ((Fr.drew wr (fun _ => False)).blk hS.b (fun h => h));have HOW := Xi (hS.l.kept (Fr.drew wr (fun _ => False)));have HOR := Xi (hS.r.kept (Fr.drew wr (fun _ => False)));have HOZ := Xi (hS.z.kept (Fr.drew wr (fun _ => False)));have hbase : w.heap.size + 3 ≤ wr.drew.heap.size := by rw [← s3]; exact hwr
       clear c1 hx hS;go_wp2_with fail;refine wp_region_held_drew (S := fun w' => Fr wr w' (fun i => w.heap.size + 2 ≤ i)) (by kernel_rfl) (Fr.drew wr _) (fun hHeld => ?_);refine Xt 0 (v := ?_) (fun w' hSw => ?_) ?_;rotate_left
       ·skip;go_simp
        try with_reducible rfl
       try simp only [Act.put,Xa]
       refine Xt 2 (v := ?_) (fun w' hSw => ?_) ?_;rotate_left
       ·skip;go_simp
        try with_reducible rfl
       try simp only [Act.put,Xa]
       refine Xt 3 (v := ?_) (fun w' hSw => ?_) ?_;rotate_left
       ·have ka := QaF hSw a0 (by omega); go_simp; try with_reducible rfl
       try simp only [Act.put,Xa]
       refine Xt 4 (v := ?_) (fun w' hSw => ?_) ?_;rotate_left
       ·skip;go_simp
        try with_reducible rfl
       try simp only [Act.put,Xa]
       refine Xt 5 (v := ?_) (fun w' hSw => ?_) ?_;rotate_left
       ·skip;go_simp
        try with_reducible rfl
       try simp only [Act.put,Xa]
       refine Xt 6 (v := ?_) (fun w' hSw => ?_) ?_;rotate_left
       ·skip;go_simp
        try with_reducible rfl
       try simp only [Act.put,Xa]
       refine Xt 7 (v := ?_) (fun w' hSw => ?_) ?_;rotate_left
       ·have kk := QaF hSw k0 (by omega); go_simp; try with_reducible rfl
       try simp only [Act.put,Xa]
       refine Xt 8 (v := ?_) (fun w' hSw => ?_) ?_;rotate_left
       ·skip;go_simp
        try with_reducible rfl
       try simp only [Act.put,Xa]
       refine Xt 9 (v := ?_) (fun w' hSw => ?_) ?_;rotate_left
       ·have ka := QaF hSw a0 (by omega); go_simp; try with_reducible rfl
       try simp only [Act.put,Xa]
       refine Xt 10 (v := ?_) (fun w' hSw => ?_) ?_;rotate_left
       ·skip;go_simp
        try with_reducible rfl
       try simp only [Act.put,Xa]
       refine Xt 11 (v := ?_) (fun w' hSw => ?_) ?_;rotate_left
       ·skip;go_simp
        try with_reducible rfl
       try simp only [Act.put,Xa]
       refine Xt 12 (v := ?_) (fun w' hSw => ?_) ?_;rotate_left
       ·skip;go_simp
        try with_reducible rfl
       try simp only [Act.put,Xa]
       refine Xt 13 (v := ?_) (fun w' hSw => ?_) ?_;rotate_left
       ·have kk := QaF hSw k1 (by omega); go_simp; try with_reducible rfl
       try simp only [Act.put,Xa]
       refine Xt 14 (v := ?_) (fun w' hSw => ?_) ?_;rotate_left
       ·skip;go_simp
        try with_reducible rfl
       try simp only [Act.put,Xa]
       refine Xt 15 (v := ?_) (fun w' hSw => ?_) ?_;rotate_left
       ·have ka := QaF hSw a0 (by omega); go_simp; try with_reducible rfl
       try simp only [Act.put,Xa]
       refine Xt 16 (v := ?_) (fun w' hSw => ?_) ?_;rotate_left
       ·skip;go_simp
        try with_reducible rfl
       try simp only [Act.put,Xa]
       refine Xt 17 (v := ?_) (fun w' hSw => ?_) ?_;rotate_left
       ·skip;go_simp
        try with_reducible rfl
       try simp only [Act.put,Xa]
       refine Xt 18 (v := ?_) (fun w' hSw => ?_) ?_;rotate_left
       ·skip;go_simp
        try with_reducible rfl
       try simp only [Act.put,Xa]
       refine Xt 19 (v := ?_) (fun w' hSw => ?_) ?_;rotate_left
       ·have kk := QaF hSw k2 (by omega); go_simp; try with_reducible rfl
       try simp only [Act.put,Xa]
       refine wpAnyH_take (i := 20) (v := _) rfl (by kernel_rfl) (by kernel_rfl) (by kernel_rfl) (fun _ _ _ h => h) ((Or.inl ⟨by rfl,fun w' _ => by kernel_rfl⟩ : YieldsIf _ _ _ _ (.agg #[strV x.target,strV x.name,intV x.line]) _)) (by assumption) ?_
       try simp only [Act.put,Xa]
       refine Qec (f := Qcp) 1 21 22 _ _ _ rfl rfl rfl (by kernel_rfl) (by kernel_rfl) (by kernel_rfl) (by kernel_rfl) (by decide) rfl rfl rfl rfl rfl rfl rfl (by decide) rfl
        (w.heap.size + 2) 2 (w.heap.size + 3) 31 _ _ _ _ #[strV x.target,strV x.name,intV x.line] (.agg #[strV x.target,strV x.name,intV x.line]) x (by omega) HBW.out rfl hn.symm rfl rfl rfl rfl (fun w => by kernel_rfl) rfl (by simp [Value.oneCell']) rfl rfl _ 3 40 underlying28 QhF rfl (by decide) rfl HOW.out (by omega) (by decide) hbase
        (fun W hf => (Fr.drew wr _).trans hf (fun _ _ h => h) (fun i _ h => by have := h.1; omega)) ?_
       intro A9 c9 w9 hS9 ho9 hb9 hf9;clear hHeld
       try simp only [Act.put,Xa]
       refine Xt 23 (v := ?_) (fun w' hSw => ?_) ?_;rotate_left
       ·skip;go_simp
        try with_reducible rfl
       try simp only [Act.put,Xa]
       refine Qe3 24 _ rfl (by kernel_rfl) (by kernel_rfl) rfl rfl rfl (w.heap.size + 2) 2 _ _ (.slice A9 (i + 1) c9) hb9 (show 2 < 4 by decide) rfl rfl rfl Qfz (fun W hf => hS9.trans hf (fun _ _ h => h) (fun i _ h => by have h : i = w.heap.size + 2 := h; omega)) ?_;intro W9 hs9 hb9;have ho9 := QfE ho9 hs9 (by omega);have hf9 := (hf9.mono (U := PB (w.heap.size + 2) (w.heap.size + 3) 63 wr.drew) (fun _ _ h => Or.inr h)).trans hs9 (fun _ _ h => h) (fun _ _ h => Or.inl h);have HE := Xi (show BkS W0 W9 (w.heap.size + 2) (w.heap.size + 3) vr vz (.slice A9 (i + 1) c9) (.slice Ad d.diags.length cd) (d.rules.take d.rules.length) (zv.take d.zones.length) (d.links.take (i + 1)) from
        ⟨hb9,QoZ HOR.out hf9 (by decide) (by omega),QoZ HOZ.out hf9 (by decide) (by omega),by rw [HT.out]; exact ho9,Qc1 HSr.out.f (Qc1 (Fr.drew wr _) (pb_ge hf9 (by omega)))⟩)
       clear ho9 hb9 hf9 hs9 hS9
       try simp only [Act.put,Xa]
       go_wp2_with fail
       go_roundg (d.links.length - (i + 1))
       case measure => omega
       case rel => exact ⟨i + 1,_,by omega,by go_num,HE.out⟩
      ·obtain rfl : i = d.links.length := by omega
       have hi1 : (d.links.length : Int) ≤ (d.links.length : Int) := Int.le_refl _;have hq2 := hS.f.blk HQ.out (by omega);have hE := hS;rw [List.take_length,List.take_length,← hzl,List.take_length] at hE;have HEnd := Xi hE;have hone : (#[vr,vz,vl,.slice Ad d.diags.length cd] : Array Value).all (·.oneCell') = true := by
        obtain ⟨_,_,rfl⟩ := hS.r.slice;obtain ⟨_,_,rfl⟩ := hS.z.slice;obtain ⟨_,_,rfl⟩ := hS.l.slice;simp [Value.oneCell']
       have HQ2 := Xi hq2;clear hS HSR hE hq2;go_wp2_with (first
        | (refine Qb2 31 _ (w.heap.size + 2) 0 31 #[vr,vz,vl,.slice Ad d.diags.length cd] #[vr,vz,vl,.slice Ad d.diags.length cd] _ (by rfl) rfl rfl HEnd.out.b underlying31 rfl Qc0 (Qaf _) ?_)
        | (refine Qbg 31 _ _ (w.heap.size + 1) 0 31 _ #[vr,vz,vl,.slice Ad d.diags.length cd] #[vr,vz,vl,.slice Ad d.diags.length cd] (by rfl) rfl rfl rfl rfl HQ2.out Qc0 hone (show 0 + 4 ≤ 4 by decide) rfl ?_;intro W9 hf9 hb9;have HE9 := Xi hb9;have HF9 := Xi hf9;clear hf9 hb9))
       (try simp only [Exit.inBlock,Exit.then]);refine bodyPost_ret (res_back rfl HE9.out _ rfl) rfl ?_;have hown : ∀ {X : Type} {e : TypeId} {k : Nat} {f : X → List Value} {v : Value} {l : List X},Own wr (w.heap.size + 3) e k f v l → Own W9 w.heap.size e k f v l := fun h =>
        QaU (Qel h HF9.out (fun i cs hi _ hx => by have hx : i = w.heap.size + 1 := hx; omega)) (by omega)
       exact ⟨vr,vz,vl,rfl,hown HEnd.out.r,hown HEnd.out.z,hown HEnd.out.l,(HF0.out.fresh HEnd.out.f (fun i h => by have h : w.heap.size + 2 ≤ i := h; omega)).fresh HF9.out (fun i h => by have h : i = w.heap.size + 1 := h; omega)⟩
end Go.Proofs.YtlfjknndkjgciaaGreatDoor
