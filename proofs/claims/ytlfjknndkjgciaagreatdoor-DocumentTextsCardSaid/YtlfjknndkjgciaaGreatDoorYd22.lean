import Derived.Test.YtlfjknndkjgciaaGreatDoorYd21
import Derived.BigQuiet
import Derived.Deep.QuietTactic
set_option maxRecDepth 100000
set_option maxHeartbeats 6400000
namespace Go.Proofs.YtlfjknndkjgciaaGreatDoor
open _root_.Go.Proofs.Tryz
open Go.RowKit Go.Mem Go.Lin Go.Dcm

theorem Qi3 (w : World) (g m cap bz : Nat) (C : Array Value) (hb : Blk w g 81 C) (h1 : C[1]? = some (.slice (some ⟨bz,0,none⟩) (m + 1) cap)) (hm : m ≤ 100000) :
  Calls Tryz.prog 38 #[gP g] w fun e w' => e = .returned (.pointer (some ⟨bz,m * 3,none⟩)) ∧ Fr w w' (fun _ => False) := by
 have c1 := blkc hb 1 _ h1;clear hb h1;go_enter func38,ntmps38;go_wp2_with fail
 go_quiet (fail)
 go_wp2_with fail;go_ret;exact ⟨rfl,Fr.drewN _ _ _⟩
/-- a row in its block -/
theorem Qfu {X : Type} {w : World} {B : Nat} {e : TypeId} {k : Nat} {f : X → List Value} {b n cap : Nat} {l : List X} (h : Own w B e k f (.slice (some ⟨b,0,none⟩) n cap) l) (_hn : n = l.length) : ∃ cs : Array Value,B ≤ b ∧ Blk w b e cs ∧ l.length * k ≤ cs.size ∧ ∀ (j : Nat) (u : Value),(l.flatMap f)[j]? = some u → cs[j]? = some u := by
 rcases h.2 with ⟨h',_⟩ | ⟨g',cap',cur,h',hb,hg,hnc,hcm,hcs,ht⟩
 ·simp at h'
 ·injection h' with h1 h2 h3;injection h1 with h1;injection h1 with h1;subst h1 h3;refine ⟨cur,hb,hg,by rw [hcs]; exact Nat.mul_le_mul_right _ hnc,fun j u hu => ?_⟩;rw [← ht,List.getElem?_take] at hu;split at hu
  ·simpa using hu
  ·cases hu
theorem QgJ (a : List ZV) : (a.flatMap Qa1).length = a.length * 3 := Qdj Qa1 3 QcF a
/-- a zone's row of eras,or of lines,is turned -/
theorem QiE {w : World} {B bz n cap : Nat} {a : List ZV} {y z : ZV} {v : Value} (j : Nat) (h : Own w B 71 3 Qa1 (.slice (some ⟨bz,0,none⟩) n cap) (a ++ [y])) (hn : n = (a ++ [y]).length) (hj : (Qa1 y).set j v = Qa1 z) : Own (w.setCell ⟨bz,a.length * 3 + j,none⟩ v) B 71 3 Qa1 (.slice (some ⟨bz,0,none⟩) n cap) (a ++ [z]) := by
 subst hn;have h1 := (World.ownsRow.stored h (a.length * 3 + j) v).1;have e : ((a ++ [y]).flatMap Qa1).set (a.length * 3 + j) v = (a ++ [z]).flatMap Qa1 := by
  rw [List.flatMap_append,List.flatMap_append,← QgJ,List.set_append_right _ _ (Nat.le_add_right _ _),Nat.add_sub_cancel_left];rw [show [y].flatMap Qa1 = Qa1 y by simp,show [z].flatMap Qa1 = Qa1 z by simp,hj]
 rw [e] at h1;show World.ownsRow _ _ _ _ _ (a ++ [z]).length _;simpa using h1
theorem Qjl {w w' : World} {S : Nat → Prop} {B M : Nat} {y : ZV} (h : ZAt w B y) (hu : QlE M y) (hf : Fr w w' S) (hs : ∀ k,S k → M ≤ k) : ZAt w' B y :=
 ⟨h.e.fr hf fun k hk hx => by have := hu.1 k hk; have := hs k hx; omega,h.l.fr hf fun k hk hx => by have := hu.2 k hk; have := hs k hx; omega⟩
theorem Qn1 {w w' : World} {B B' : Nat} {e : TypeId} {y : ZV} (h : ZAt w B' y) (hf : Fr w w' (TB B e w)) (h1 : 55 ≠ e) (h2 : 3 ≠ e) : ZAt w' B' y := ⟨Qas h.e hf h1,Qas h.l hf h2⟩
theorem Qgq {w : World} {B b j : Nat} {e : TypeId} {cs : Array Value} {v : Value} (hb : Blk w b e cs) (hB : B ≤ b) : Fr w (w.setCell ⟨b,j,none⟩ v) (TB B e w) := Fr.set (S := TB B e w) ⟨hB,cs,hb⟩
theorem Qpm : (Tryz.prog.info? 67).map (·.size) = some 1 := by kernel_rfl
theorem Qi6 : (Tryz.prog.info? 66).map (·.size) = some 1 := by kernel_rfl
theorem QgI {w : World} {B M : Nat} {v : Value} {a : List ZV} {z : ZV} (hoz : Own w B 71 3 Qa1 v (a ++ [z])) (ha : ∀ y ∈ a,ZAt w B y) (hu : ∀ y ∈ a,QlE M y) (hz : ZAt w M z) (hB : B ≤ M) (hM : M ≤ w.heap.size) : ZsAt w B v (a.map (·.1) ++ [z.1]) := by
 refine ⟨a ++ [z],M,by simp,hoz,fun y hy => ?_,hB,hM,fun b y e => ?_⟩
 ·rcases List.mem_append.1 hy with hy | hy
  ·exact ha y hy
  ·have hy : y = z := by simpa using hy
   subst hy;exact ⟨QaU hz.e hB,QaU hz.l hB⟩
 ·obtain ⟨rfl,e2⟩ := List.append_inj' e rfl;have e2 : z = y := by simpa using e2
  subst e2;exact ⟨hz,hu⟩
theorem QpF (w : World) (g B : Nat) (i : Int) (s : StL) (h : GAt w g B i s) (hs : size s ≤ 100000) (x : LineL) (ho : s.opn = false) : Calls Tryz.prog 34 #[gP g,QdQ x] w (Qf7 w g B i (tell s i 0 10)) := by
 have hn := Fr.new w (.cells (Qad x) 58) (fun _ => False);obtain ⟨vr,vz,vl,vd,hb,hr⟩ := (h.kept hn).open_;have hd := (Qbt hs).2.2.2;have c5 := blkc hb 5 _ rfl;have c4 := blkc hb 4 _ rfl;rw [ho] at c5;have HT := Xi (QfM _ g B i s (h.kept hn) hd i 0 10);have HN := Xi (Qbl (g := g) (B := B) hn);clear h hn hb hr hd;go_enter func34,ntmps34;go_wp2_with fail;refine HT.out.mono ?_;rintro e w2 ⟨rfl,hg2,hf2⟩;have HG := Xi hg2;have HF := Xi hf2;clear hg2 hf2;go_wp2_with fail
 go_end0
 exact ⟨rfl,HG.out,Qau HN.out HF.out⟩
/-- what is known where an era is told of an open zone -/
structure OpenZ (w : World) (B M bz cap : Nat) (a : List ZV) (y : ZV) (vr vl vd : Value) (s : StL) : Prop where
 oz : Own w B 71 3 Qa1 (.slice (some ⟨bz,0,none⟩) (a.length + 1) cap) (a ++ [y])
 ha : ∀ z ∈ a,ZAt w B z
 hu : ∀ z ∈ a,QlE M z
 hy : ZAt w M y
 hB : B ≤ M
 hM : M ≤ w.heap.size
 r : Own w B 72 12 Qbu vr s.rules
 l : Own w B 78 3 Qcp vl s.links
 d : Own w B 65 4 QcM vd s.diags
theorem OpenZ.kept {w w' : World} {B M bz cap : Nat} {a : List ZV} {y : ZV} {vr vl vd : Value} {s : StL} (h : OpenZ w B M bz cap a y vr vl vd s) (hf : Fr w w' (fun _ => False)) : OpenZ w' B M bz cap a y vr vl vd s :=
 ⟨h.oz.kept hf,fun z hz => (h.ha z hz).kept hf,h.hu,h.hy.kept hf,h.hB,Nat.le_trans h.hM hf.size,h.r.kept hf,h.l.kept hf,h.d.kept hf⟩
theorem OpenZ.g {w w' : World} {B M bz cap : Nat} {a : List ZV} {y : ZV} {vr vl vd : Value} {s : StL} {g : Nat} (h : OpenZ w B M bz cap a y vr vl vd s) (hf : Fr w w' (fun i => i = g)) (hg : g < B) : OpenZ w' B M bz cap a y vr vl vd s :=
 ⟨QfE h.oz hf hg,fun z hz => ⟨QfE (h.ha z hz).e hf hg,QfE (h.ha z hz).l hf hg⟩,h.hu,⟨QfE h.hy.e hf (Nat.lt_of_lt_of_le hg h.hB),QfE h.hy.l hf (Nat.lt_of_lt_of_le hg h.hB)⟩,h.hB,Nat.le_trans h.hM hf.size,QfE h.r hf hg,QfE h.l hf hg,QfE h.d hf hg⟩
theorem Qil {w : World} {B : Nat} {vr vz vl vd : Value} {s : StL} {z : ZoneL} (h : GR w B vr vz vl vd s) (hc : s.cur = some z) : ∃ M bz cap a y,vz = .slice (some ⟨bz,0,none⟩) (a.length + 1) cap ∧ y.1 = z ∧ a.map (·.1) = s.done ∧ OpenZ w B M bz cap a y vr vl vd s := by
 obtain ⟨zv,M,e1,h1,h2,h3,h4,h5⟩ := h.z;have e2 : s.zones = s.done ++ [z] := by unfold StL.zones; rw [hc]; rfl
 rw [e2] at e1;obtain ⟨a,y,rfl,ea,ey⟩ : ∃ a y,zv = a ++ [y] ∧ a.map (·.1) = s.done ∧ y.1 = z := by
  rcases List.eq_nil_or_concat zv with rfl | ⟨a,y,rfl⟩
  ·simp at e1
  ·simp only [List.concat_eq_append,List.map_append] at e1;obtain ⟨e3,e4⟩ := List.append_inj' e1 rfl;exact ⟨a,y,List.concat_eq_append,e3,by simpa using e4⟩
 obtain ⟨k1,k2⟩ := h5 a y rfl;obtain ⟨A,c,rfl,-,-,-,hA,hA2⟩ := Qex h1;cases A with
 | none => exact absurd (hA rfl).1 (by simp)
 | some A =>
  obtain ⟨bz,rfl,-⟩ := hA2 A rfl;exact ⟨M,bz,c,a,y,by simp,ey,ea,by simpa using h1,fun z hz => h2 z (by simp [hz]),k2,k1,h3,h4,h.r,h.l,h.d⟩
theorem OpenZ.gr {w : World} {B M bz cap : Nat} {a : List ZV} {y : ZV} {vr vl vd : Value} {s t : StL} (h : OpenZ w B M bz cap a y vr vl vd s) (hz : t.zones = a.map (·.1) ++ [y.1]) (h1 : t.rules = s.rules) (h2 : t.links = s.links) (h3 : t.diags = s.diags) : GR w B vr (.slice (some ⟨bz,0,none⟩) (a.length + 1) cap) vl vd t :=
 ⟨h1 ▸ h.r,hz ▸ QgI h.oz h.ha h.hu h.hy h.hB h.hM,h2 ▸ h.l,h3 ▸ h.d⟩
theorem OpenZ.cells {w : World} {B M bz cap : Nat} {a : List ZV} {y : ZV} {vr vl vd : Value} {s : StL} (h : OpenZ w B M bz cap a y vr vl vd s) : ∃ cs : Array Value,B ≤ bz ∧ Blk w bz 71 cs ∧ a.length * 3 + 2 < cs.size ∧ cs[a.length * 3 + 1]? = some y.2.1 ∧ cs[a.length * 3 + 2]? = some y.2.2 := by
 obtain ⟨cs,h1,h2,h3,h4⟩ := Qfu h.oz (by simp);have hl := QgJ a;have hx : ∀ j,j < 3 → ((a ++ [y]).flatMap Qa1)[a.length * 3 + j]? = (Qa1 y)[j]? := fun j hj => QdJ Qa1 3 QcF (by simp) j hj;refine ⟨cs,h1,h2,?_,h4 _ _ (hx 1 (by omega)),h4 _ _ (hx 2 (by omega))⟩;rw [List.length_append] at h3;simp only [List.length_cons,List.length_nil] at h3;omega
theorem QjP {w w9 : World} {B M bz cap : Nat} {a : List ZV} {z : ZoneL} {ve vn : Value} {vr vl vd v : Value} {s : StL} {e : EraL} (h : OpenZ w B M bz cap a (z,ve,vn) vr vl vd s) (hf : Fr w w9 (fun i => some i = ve.ownBlock)) (hown : Own w9 M 55 13 eraL v (z.eras ++ [e])) :
  OpenZ (w9.setCell ⟨bz,a.length * 3 + 1,none⟩ v) B M bz cap a (⟨z.name,z.eras ++ [e],z.lines⟩,v,vn) vr vl vd s := by
 have hg := Qbn h.hy.e hf;have hg2 : Fr w w9 (TB B 55 w) := hg.mono fun _ _ hx => ⟨Nat.le_trans h.hB hx.1,hx.2⟩;obtain ⟨cs,hb,hk,-⟩ := h.cells;have hk9 := hf.blk hk (fun e => by obtain ⟨-,-,cs2,hb2⟩ := Qar h.hy.e e.symm; exact absurd (Qal hk hb2) (by decide));have hs := Qgq (j := a.length * 3 + 1) (v := v) hk9 hb;have oz9 := Qas h.oz hg2 (by decide);exact ⟨QiE 1 oz9 (by simp) rfl,fun y hy => Qn1 (Qjl (h.ha y hy) (h.hu y hy) hf (fun k hk => (Qar h.hy.e hk.symm).1)) hs (by decide) (by decide),h.hu,⟨Qas hown hs (by decide),Qas (Qas h.hy.l hg2 (by decide)) hs (by decide)⟩,h.hB,Nat.le_trans h.hM (Nat.le_trans hf.size hs.size),
  Qas (Qas h.r hg2 (by decide)) hs (by decide),Qas (Qas h.l hg2 (by decide)) hs (by decide),Qas (Qas h.d hg2 (by decide)) hs (by decide)⟩
theorem Qe8 {w w9 : World} {B M bz cap : Nat} {a : List ZV} {z : ZoneL} {ve vn : Value} {vr vl vd v : Value} {s : StL} {i : Int} (h : OpenZ w B M bz cap a (z,ve,vn) vr vl vd s) (hf : Fr w w9 (fun k => some k = vn.ownBlock)) (hown : Own w9 M 3 1 intL v (z.lines ++ [i])) :
  OpenZ (w9.setCell ⟨bz,a.length * 3 + 2,none⟩ v) B M bz cap a (⟨z.name,z.eras,z.lines ++ [i]⟩,ve,v) vr vl vd s := by
 have hg := Qbn h.hy.l hf;have hg2 : Fr w w9 (TB B 3 w) := hg.mono fun _ _ hx => ⟨Nat.le_trans h.hB hx.1,hx.2⟩;obtain ⟨cs,hb,hk,-⟩ := h.cells;have hk9 := hf.blk hk (fun e => by obtain ⟨-,-,cs2,hb2⟩ := Qar h.hy.l e.symm; exact absurd (Qal hk hb2) (by decide));have hs := Qgq (j := a.length * 3 + 2) (v := v) hk9 hb;have oz9 := Qas h.oz hg2 (by decide);exact ⟨QiE 2 oz9 (by simp) rfl,fun y hy => Qn1 (Qjl (h.ha y hy) (h.hu y hy) hf (fun k hk => (Qar h.hy.l hk.symm).1)) hs (by decide) (by decide),h.hu,⟨Qas (Qas h.hy.e hg2 (by decide)) hs (by decide),Qas hown hs (by decide)⟩,h.hB,Nat.le_trans h.hM (Nat.le_trans hf.size hs.size),
  Qas (Qas h.r hg2 (by decide)) hs (by decide),Qas (Qas h.l hg2 (by decide)) hs (by decide),Qas (Qas h.d hg2 (by decide)) hs (by decide)⟩
theorem Qd4 {w w' : World} {q : Nat} {x : LineL} (hf : Fr w w' (fun _ => False)) (h : Blk w q 58 (Qad x)) : Blk w' q 58 (Qad x) := hf.blk h (fun h => h)
theorem Qdp {w w' : World} {g : Nat} {i : Int} (hf : Fr w w' (fun _ => False)) (h : w.cell? ⟨g,4,none⟩ = some (intV i)) : w'.cell? ⟨g,4,none⟩ = some (intV i) := QaF hf h (fun h => h)
theorem QpH (w : World) (g B : Nat) (i : Int) (s : StL) (h : GAt w g B i s) (hs : size s ≤ 100000) (x : LineL) (z : ZoneL) (ho : s.opn = true) (hc : s.cur = some z) (h8 : 8 ≤ z.eras.length) : Calls Tryz.prog 34 #[gP g,QdQ x] w (Qf7 w g B i ({ tell s i 0 17 with opn := x.era.til.has })) := by
 have hlt := h.lt;have hn := Fr.new w (.cells (Qad x) 58) (fun _ => False);obtain ⟨vr,vz,vl,vd,hb,hr⟩ := (h.kept hn).open_;obtain ⟨M,bz,cap,a,⟨z',ve,vn⟩,rfl,rfl,ha,hO⟩ := Qil hr hc;have hsz : a.length ≤ 100000 := by
  have h1 := (Qbt hs).2.1;have h2 := congrArg List.length ha;unfold StL.zones at h1;rw [List.length_append] at h1;rw [List.length_map] at h2;omega
 have hQ := Blk.made w 58 (Qad x);have q19 := blkc hQ 19 (.bool x.era.til.has) rfl;have c5 := blkc hb 5 _ rfl;have f5 := Qac hb 5;rw [ho] at c5;have hS := Fr.set (w := w.alloc (.cells (Qad x) 58)) (a := ⟨g,5,none⟩) (v := .bool x.era.til.has) (S := fun i => i = g) rfl;have hb1 := hb.put' 5 (.bool x.era.til.has) rfl;have HL := Xi (Qi3 _ g a.length cap bz _ hb1 rfl hsz);have HN := Xi (Qcc (j := 5) (v := .bool x.era.til.has) (Qbl (g := g) (B := B) hn));have HB1 := Xi hb1;have HO1 := Xi (hO.g hS hlt);have HQ1 := Xi (hS.blk hQ (fun e => by subst e; exact absurd (Qal hb hQ) (by decide)));clear h hn hb hr hO hQ hS hb1;go_enter func34,ntmps34;go_wp2_with fail;refine HL.out.mono ?_;rintro e w2 ⟨rfl,hf2⟩;have HB := Xb hf2 HB1;have HO := Xi (HO1.out.kept hf2);have HQ := Xi (Qd4 hf2 HQ1.out);have HF2 := Xi (Qau HN.out (Qbl hf2));clear hf2 HB1 HO1 HQ1 HN HL;obtain ⟨cs,hBz,hk,hcs,k1,k2⟩ := HO.out.cells;have cE := blkc hk (a.length * 3 + 1) _ k1;have HK := Xi hk;obtain ⟨Ae,ce,hve⟩ := HO.out.hy.e.slice;have hve : ve = .slice Ae z'.eras.length ce := hve;subst hve;have c4 := blkc HB.out 4 _ rfl;have h8i : (8 : Int) ≤ (z'.eras.length : Int) := by omega
 have hG : GAt w2 g B i { s with opn := x.era.til.has } := Qgx hlt HB.out (HO.out.gr (by show s.done ++ s.cur.toList = _; rw [hc,ha]; rfl) rfl rfl rfl);have HT := Xi (QfM _ g B i _ hG (Qbt hs).2.2.2 i 0 17);clear hG hk k1 k2 hcs hBz h8;go_wp2_with fail;refine HT.out.mono ?_;rintro e w3 ⟨rfl,hg3,hf3⟩;have HG := Xi hg3;have HF3 := Xi hf3;clear hg3 hf3;go_wp2_with fail
 go_end0
 exact ⟨rfl,HG.out,Qau HF2.out HF3.out⟩
theorem QpG (w : World) (g B : Nat) (i : Int) (s : StL) (h : GAt w g B i s) (hs : size s ≤ 100000) (x : LineL) (z : ZoneL) (ho : s.opn = true) (hc : s.cur = some z) (h8 : z.eras.length < 8) (hz : z.eras.length = z.lines.length) : Calls Tryz.prog 34 #[gP g,QdQ x] w (Qf7 w g B i ({ s with cur := some ⟨z.name,z.eras ++ [x.era],z.lines ++ [i]⟩,opn := x.era.til.has })) := by
 have hlt := h.lt;have hn := Fr.new w (.cells (Qad x) 58) (fun _ => False);obtain ⟨vr,vz,vl,vd,hb,hr⟩ := (h.kept hn).open_;obtain ⟨M,bz,cap,a,⟨z',ve,vn⟩,rfl,rfl,ha,hO⟩ := Qil hr hc;have hsz : a.length ≤ 100000 := by
  have h1 := (Qbt hs).2.1;have h2 := congrArg List.length ha;unfold StL.zones at h1;rw [List.length_append] at h1;rw [List.length_map] at h2;omega
 have hQ := Blk.made w 58 (Qad x);have q19 := blkc hQ 19 (.bool x.era.til.has) rfl;have c5 := blkc hb 5 _ rfl;have f5 := Qac hb 5;rw [ho] at c5;have hS := Fr.set (w := w.alloc (.cells (Qad x) 58)) (a := ⟨g,5,none⟩) (v := .bool x.era.til.has) (S := fun i => i = g) rfl;have hb1 := hb.put' 5 (.bool x.era.til.has) rfl;have HL := Xi (Qi3 _ g a.length cap bz _ hb1 rfl hsz);have HN := Xi (Qcc (j := 5) (v := .bool x.era.til.has) (Qbl (g := g) (B := B) hn));have HB1 := Xi hb1;have HO1 := Xi (hO.g hS hlt);have HQ1 := Xi (hS.blk hQ (fun e => by subst e; exact absurd (Qal hb hQ) (by decide)));clear h hn hb hr hO hQ hS hb1;go_enter func34,ntmps34;go_wp2_with fail;refine HL.out.mono ?_;rintro e w2 ⟨rfl,hf2⟩;have HB := Xb hf2 HB1;have HO := Xi (HO1.out.kept hf2);have HQ := Xi (Qd4 hf2 HQ1.out);have HF2 := Xi (Qau HN.out (Qbl hf2));clear hf2 HB1 HO1 HQ1 HN HL;obtain ⟨cs,hBz,hk,hcs,k1,k2⟩ := HO.out.cells;have cE := blkc hk (a.length * 3 + 1) _ k1;have HK := Xi hk;obtain ⟨Ae,ce,hve⟩ := HO.out.hy.e.slice;have hve : ve = .slice Ae z'.eras.length ce := hve;subst hve;have c4 := blkc HB.out 4 _ rfl;have h8i : (z'.eras.length : Int) < 8 := by omega
 have h8' : z'.eras.length < 8 := h8;have hz' : z'.eras.length = z'.lines.length := hz;obtain ⟨i0,hi0,hz0,hz1,hz2⟩ := info_parts Qpr;obtain ⟨j0,hj0,jz0,jz1,jz2⟩ := info_parts Qpq;have H1 := Xi (QaZ (cs := eraC x.era) (Qax x.era));have HKd := Xi ((Fr.drew w2 (fun _ => False)).blk hk (fun h => h));have hOd := HO.out.kept (Fr.drew w2 (fun _ => False));have hBd := (Fr.drew w2 (fun _ => False)).blk HB.out (fun h => h);clear hk h8 hz;go_wp2_with fail;refine wp_region_held_drew (S := fun w' => Blk w' w.heap.size 58 (Qad x)) (by kernel_rfl) (Qd4 (Fr.drew w2 _) HQ.out) (fun hHeld => ?_);refine Xt 0 (v := ?_) (fun w' hSw => ?_) ?_;rotate_left
 ·skip;go_simp
  try with_reducible rfl
 try simp only [Act.put,Xa]
 refine Xt 1 (v := ?_) (fun w' hSw => ?_) ?_;rotate_left
 ·skip;go_simp
  try with_reducible rfl
 try simp only [Act.put,Xa]
 refine Xt 2 (v := ?_) (fun w' hSw => ?_) ?_;rotate_left
 ·skip;go_simp
  try with_reducible rfl
 try simp only [Act.put,Xa]
 refine Xt 3 (v := ?_) (fun w' hSw => ?_) ?_;rotate_left
 ·skip;go_simp
  try with_reducible rfl
 try simp only [Act.put,Xa]
 refine Xt 5 (v := ?_) (fun w' hSw => ?_) ?_;rotate_left
 ·skip;go_simp
  try with_reducible rfl
 try simp only [Act.put,Xa]
 refine wpAnyH_take (i := 6) (v := _) rfl (by kernel_rfl) (by kernel_rfl) (by kernel_rfl) (fun _ _ _ h => h) (Qe2 55 _ w.heap.size 14 58 (Qad x) (eraC x.era) _ (by rfl) rfl rfl (fun _ h => h) underlying55 rfl (QaO _) (QfX _)) (by assumption) ?_
 try simp only [Act.put,Xa]
 refine wpAnyH_ready (rs := [4,7]) (by kernel_rfl) (by simp) ?_;refine AllReadyH.cons rfl (fun K hK => ?_) (AllReadyH.cons rfl (fun K hK => ?_) AllReadyH.nil)
 ·
  rw [if_pos (by rfl)];refine QbP rfl (by rfl) (blkc HKd.out _ _ k1) underlying67 rfl ?_;refine hK.out _ _ hHeld (fun hH2 => ?_);clear hK K
  try simp only [Act.put,Xa]
  refine wpAnyH_ready (rs := [7]) (by kernel_rfl) (by simp) ?_;refine AllReadyH.cons rfl (fun K hK => ?_) AllReadyH.nil;rw [if_pos (by rfl)];refine QaT (e := 55) (cs := (eraC x.era)) rfl (by rfl) (Qfw x) ?_;have hx := Qb5 w2.drew 55 (eraC x.era);generalize hwn : World.alloc _ _ = wn at hx ⊢;have hfn : Fr w2.drew wn (fun _ => False) := hwn ▸ Fr.new _ _ _;refine hK.out _ _ (Qd4 hfn hH2) (fun hH3 => ?_);clear hK K
  try simp only [Act.put,Xa]
  have hOa := hOd.kept hfn;have hBa := hfn.blk hBd (fun h => h);refine wpAnyH_ready (rs := [8]) (by kernel_rfl) (by simp) ?_;refine AllReadyH.cons rfl (fun K hK => ?_) AllReadyH.nil;rw [if_pos (by rfl)];refine QaH _ (.tmp 41) (.tmp 44) 67 rfl M 55 i0 _ 13 120 underlying67 hi0 hz0 hz1 hz2 rfl (by decide) _ z'.eras.length _ rfl hOa.hy.e _ 1 1 (eraC x.era).toList rfl hx H1.out (by simp only [maxLen]; omega) (by omega) hOa.hM ?_;intro v9 w9 hown9 hg9 _;obtain ⟨A9,cap9,rfl⟩ := Go.Mem.QaJ hown9;have hf9 := Fr.ofGrown hg9;have hO9 := QjP hOa hf9 (Qbw (x := x.era) hown9 rfl);obtain ⟨cs9,-,hk9,hcs9,-,-⟩ := hOa.cells;have hkk := hf9.blk hk9 (fun e => by obtain ⟨-,-,cs2,hb2⟩ := Qar hOa.hy.e e.symm; exact absurd (Qal hk9 hb2) (by decide));have hq9 := hf9.blk hH3 (fun e => by obtain ⟨-,-,cs2,hb2⟩ := Qar hOa.hy.e e.symm; exact absurd (Qal hH3 hb2) (by decide));have hb9 := hf9.blk hBa (fun e => by have := (Qar hOa.hy.e e.symm).1; have := hOa.hB; omega);have hgx := Qau HF2.out (Qau (Qbl (Fr.drew w2 _)) (Qcw hfn ((Qbn hOa.hy.e hf9).mono (fun i _ hx => .inr ⟨Nat.le_trans hOa.hB hx.1,_,hx.2.choose,hx.2.choose_spec,by decide⟩))));refine hK.out _ _ hq9 (fun hH9 => ?_);clear hK K hx hown9
  try simp only [Act.put,Xa]
  refine Xt 9 (v := ?_) (fun w' hSw => ?_) ?_;rotate_left
  ·skip;go_simp
   try with_reducible rfl
  try simp only [Act.put,Xa]
  refine Xt 10 (v := ?_) (fun w' hSw => ?_) ?_;rotate_left
  ·skip;go_simp
   try with_reducible rfl
  try simp only [Act.put,Xa]
  refine wpAnyH_ready (rs := [11]) (by kernel_rfl) (by simp) ?_;refine AllReadyH.cons rfl (fun K hK => ?_) AllReadyH.nil;rw [if_pos (by rfl)];refine Qbj (v := .slice A9 (z'.eras.length + 1) cap9) rfl rfl (by rfl) (by rfl) hkk Qpm rfl (by omega) ?_;have hgy := Qau hgx (Qcu (g := g) (Qgq (j := a.length * 3 + 1) (v := .slice A9 (z'.eras.length + 1) cap9) hkk hBz) (by decide));generalize hwg : World.setCell w9 _ _ = wg at hgy hO9 ⊢;have hsg : Fr w9 wg (fun k => k = bz) := hwg ▸ Fr.set (S := fun k => k = bz) rfl;have hbg := hsg.blk hb9 (fun e => by subst e; exact absurd (Qal hb9 hkk) (by decide));refine hK.out _ _ (hsg.blk hq9 (fun e => by subst e; exact absurd (Qal hq9 hkk) (by decide))) (fun _ => ?_);clear hK K;refine wpAnyH_done (by kernel_rfl) ?_ _;have HOg := Xi hO9;have HBg := Xi hbg;have HFg := Xi hgy;clear hO9 hbg hgy hsg hb9 hq9 hkk hOa hBa hf9 hgx hwg hk9 hcs9;obtain ⟨csg,-,hkg,hcsg,-,kg⟩ := HOg.out.cells;obtain ⟨An,cn,hvn⟩ := HOg.out.hy.l.slice;have hvn : vn = .slice An z'.lines.length cn := hvn;subst hvn;have c4g := blkc HBg.out 4 _ rfl;have HKg := Xi ((Fr.drew wg (fun _ => False)).blk hkg (fun h => h));have hOd2 := HOg.out.kept (Fr.drew wg (fun _ => False));have hBd2 := (Fr.drew wg (fun _ => False)).blk HBg.out (fun h => h);clear hkg;go_wp2_with fail;refine wp_region_held_drew (S := fun w' => w'.cell? ⟨g,4,none⟩ = some (intV i)) (by kernel_rfl) (Qdp (Fr.drew wg _) c4g) (fun hHeld => ?_);refine Xt 0 (v := ?_) (fun w' hSw => ?_) ?_;rotate_left
  ·have k4 := hSw; go_simp; try with_reducible rfl
  try simp only [Act.put,Xa]
  refine Xt 1 (v := ?_) (fun w' hSw => ?_) ?_;rotate_left
  ·have k4 := hSw; go_simp; try with_reducible rfl
  try simp only [Act.put,Xa]
  refine Xt 2 (v := ?_) (fun w' hSw => ?_) ?_;rotate_left
  ·have k4 := hSw; go_simp; try with_reducible rfl
  try simp only [Act.put,Xa]
  refine Xt 3 (v := ?_) (fun w' hSw => ?_) ?_;rotate_left
  ·have k4 := hSw; go_simp; try with_reducible rfl
  try simp only [Act.put,Xa]
  refine Xt 5 (v := ?_) (fun w' hSw => ?_) ?_;rotate_left
  ·have k4 := hSw; go_simp; try with_reducible rfl
  try simp only [Act.put,Xa]
  refine Xt 6 (v := ?_) (fun w' hSw => ?_) ?_;rotate_left
  ·have k4 := hSw; go_simp; try with_reducible rfl
  try simp only [Act.put,Xa]
  refine Xt 7 (v := ?_) (fun w' hSw => ?_) ?_;rotate_left
  ·have k4 := hSw; go_simp; try with_reducible rfl
  try simp only [Act.put,Xa]
  refine Xt 8 (v := ?_) (fun w' hSw => ?_) ?_;rotate_left
  ·have k4 := hSw; go_simp; try with_reducible rfl
  try simp only [Act.put,Xa]
  refine wpAnyH_ready (rs := [4,9]) (by kernel_rfl) (by simp) ?_;refine AllReadyH.cons rfl (fun K hK => ?_) (AllReadyH.cons rfl (fun K hK => ?_) AllReadyH.nil)
  ·
   rw [if_pos (by rfl)];refine QbP rfl (by rfl) (blkc HKg.out _ _ kg) underlying66 rfl ?_;refine hK.out _ _ hHeld (fun hH12 => ?_);clear hK K
   try simp only [Act.put,Xa]
   refine wpAnyH_ready (rs := [9]) (by kernel_rfl) (by simp) ?_;refine AllReadyH.cons rfl (fun K hK => ?_) AllReadyH.nil;rw [if_pos (by rfl)];refine QaT (e := 3) (cs := #[intV i]) rfl (by rfl) (Qep i) ?_;have hx := Qb5 wg.drew 3 #[intV i];generalize hwn : World.alloc _ _ = wm at hx ⊢;have hfn : Fr wg.drew wm (fun _ => False) := hwn ▸ Fr.new _ _ _;refine hK.out _ _ (Qdp hfn hH12) (fun hH13 => ?_);clear hK K
   try simp only [Act.put,Xa]
   have hOa := hOd2.kept hfn;have hBa := hfn.blk hBd2 (fun h => h);refine wpAnyH_ready (rs := [10]) (by kernel_rfl) (by simp) ?_;refine AllReadyH.cons rfl (fun K hK => ?_) AllReadyH.nil;rw [if_pos (by rfl)];refine QaH _ (.tmp 52) (.tmp 57) 66 rfl M 3 j0 _ 1 8 underlying66 hj0 jz0 jz1 jz2 rfl (by decide) _ z'.lines.length _ rfl hOa.hy.l _ 1 1 [intV i] rfl hx (by intro u hu; simp at hu; subst hu; rfl) (by simp only [maxLen]; omega) (by omega) hOa.hM ?_;intro v9 w19 hown9 hg9 _;obtain ⟨A19,cap19,rfl⟩ := Go.Mem.QaJ hown9;have hf9 := Fr.ofGrown hg9;have hO9 := Qe8 hOa hf9 (Qbw (x := i) hown9 rfl);obtain ⟨cs9,-,hk9,hcs9,-,-⟩ := hOa.cells;have hkk := hf9.blk hk9 (fun e => by obtain ⟨-,-,cs2,hb2⟩ := Qar hOa.hy.l e.symm; exact absurd (Qal hk9 hb2) (by decide));have hb9 := hf9.blk hBa (fun e => by have := (Qar hOa.hy.l e.symm).1; have := hOa.hB; omega);have hgx := Qau HFg.out (Qau (Qbl (Fr.drew wg _)) (Qcw hfn ((Qbn hOa.hy.l hf9).mono (fun i _ hx => .inr ⟨Nat.le_trans hOa.hB hx.1,_,hx.2.choose,hx.2.choose_spec,by decide⟩))));refine hK.out _ _ (blkc hb9 4 _ rfl) (fun hH9 => ?_);clear hK K hx hown9
   try simp only [Act.put,Xa]
   refine Xt 11 (v := ?_) (fun w' hSw => ?_) ?_;rotate_left
   ·skip;go_simp
    try with_reducible rfl
   try simp only [Act.put,Xa]
   refine Xt 12 (v := ?_) (fun w' hSw => ?_) ?_;rotate_left
   ·skip;go_simp
    try with_reducible rfl
   try simp only [Act.put,Xa]
   refine wpAnyH_ready (rs := [13]) (by kernel_rfl) (by simp) ?_;refine AllReadyH.cons rfl (fun K hK => ?_) AllReadyH.nil;rw [if_pos (by rfl)];refine Qbj (v := .slice A19 (z'.lines.length + 1) cap19) rfl rfl (by rfl) (by rfl) hkk Qi6 rfl (by omega) ?_;have hgy := Qau hgx (Qcu (g := g) (Qgq (j := a.length * 3 + 2) (v := .slice A19 (z'.lines.length + 1) cap19) hkk hBz) (by decide));generalize hwg : World.setCell w19 _ _ = wk at hgy hO9 ⊢;have hsg : Fr w19 wk (fun k => k = bz) := hwg ▸ Fr.set (S := fun k => k = bz) rfl;have hbg := hsg.blk hb9 (fun e => by subst e; exact absurd (Qal hb9 hkk) (by decide));refine hK.out _ _ (blkc hbg 4 _ rfl) (fun _ => ?_);clear hK K;refine wpAnyH_done (by kernel_rfl) ?_ _;have HOk := Xi hO9;have HBk := Xi hbg;have HFk := Xi hgy;clear hO9 hbg hgy hsg hb9 hkk hOa hBa hf9 hgx hwg hk9 hcs9;go_wp2_with fail
   go_end0
   exact ⟨rfl,Qgx hlt HBk.out (HOk.out.gr (by show s.done ++ [_] = _; rw [ha]) rfl rfl rfl),HFk.out⟩
  ·
   rw [if_pos (by rfl)];refine QaT (e := 3) (cs := #[intV i]) rfl (by rfl) (Qep i) ?_;have hx := Qb5 wg.drew 3 #[intV i];generalize hwn : World.alloc _ _ = wm at hx ⊢;have hfn : Fr wg.drew wm (fun _ => False) := hwn ▸ Fr.new _ _ _;refine hK.out _ _ (Qdp hfn hHeld) (fun hH12 => ?_);clear hK K
   try simp only [Act.put,Xa]
   have hKm := hfn.blk HKg.out (fun h => h);refine wpAnyH_ready (rs := [4]) (by kernel_rfl) (by simp) ?_;refine AllReadyH.cons rfl (fun K hK => ?_) AllReadyH.nil;rw [if_pos (by rfl)];refine QbP rfl (by rfl) (blkc hKm _ _ kg) underlying66 rfl ?_;refine hK.out _ _ hH12 (fun hH13 => ?_);clear hK K
   try simp only [Act.put,Xa]
   have hOa := hOd2.kept hfn;have hBa := hfn.blk hBd2 (fun h => h);refine wpAnyH_ready (rs := [10]) (by kernel_rfl) (by simp) ?_;refine AllReadyH.cons rfl (fun K hK => ?_) AllReadyH.nil;rw [if_pos (by rfl)];refine QaH _ (.tmp 52) (.tmp 57) 66 rfl M 3 j0 _ 1 8 underlying66 hj0 jz0 jz1 jz2 rfl (by decide) _ z'.lines.length _ rfl hOa.hy.l _ 1 1 [intV i] rfl hx (by intro u hu; simp at hu; subst hu; rfl) (by simp only [maxLen]; omega) (by omega) hOa.hM ?_;intro v9 w19 hown9 hg9 _;obtain ⟨A19,cap19,rfl⟩ := Go.Mem.QaJ hown9;have hf9 := Fr.ofGrown hg9;have hO9 := Qe8 hOa hf9 (Qbw (x := i) hown9 rfl);obtain ⟨cs9,-,hk9,hcs9,-,-⟩ := hOa.cells;have hkk := hf9.blk hk9 (fun e => by obtain ⟨-,-,cs2,hb2⟩ := Qar hOa.hy.l e.symm; exact absurd (Qal hk9 hb2) (by decide));have hb9 := hf9.blk hBa (fun e => by have := (Qar hOa.hy.l e.symm).1; have := hOa.hB; omega);have hgx := Qau HFg.out (Qau (Qbl (Fr.drew wg _)) (Qcw hfn ((Qbn hOa.hy.l hf9).mono (fun i _ hx => .inr ⟨Nat.le_trans hOa.hB hx.1,_,hx.2.choose,hx.2.choose_spec,by decide⟩))));refine hK.out _ _ (blkc hb9 4 _ rfl) (fun hH9 => ?_);clear hK K hx hown9
   try simp only [Act.put,Xa]
   refine Xt 11 (v := ?_) (fun w' hSw => ?_) ?_;rotate_left
   ·skip;go_simp
    try with_reducible rfl
   try simp only [Act.put,Xa]
   refine Xt 12 (v := ?_) (fun w' hSw => ?_) ?_;rotate_left
   ·skip;go_simp
    try with_reducible rfl
   try simp only [Act.put,Xa]
   refine wpAnyH_ready (rs := [13]) (by kernel_rfl) (by simp) ?_;refine AllReadyH.cons rfl (fun K hK => ?_) AllReadyH.nil;rw [if_pos (by rfl)];refine Qbj (v := .slice A19 (z'.lines.length + 1) cap19) rfl rfl (by rfl) (by rfl) hkk Qi6 rfl (by omega) ?_;have hgy := Qau hgx (Qcu (g := g) (Qgq (j := a.length * 3 + 2) (v := .slice A19 (z'.lines.length + 1) cap19) hkk hBz) (by decide));generalize hwg : World.setCell w19 _ _ = wk at hgy hO9 ⊢;have hsg : Fr w19 wk (fun k => k = bz) := hwg ▸ Fr.set (S := fun k => k = bz) rfl;have hbg := hsg.blk hb9 (fun e => by subst e; exact absurd (Qal hb9 hkk) (by decide));refine hK.out _ _ (blkc hbg 4 _ rfl) (fun _ => ?_);clear hK K;refine wpAnyH_done (by kernel_rfl) ?_ _;have HOk := Xi hO9;have HBk := Xi hbg;have HFk := Xi hgy;clear hO9 hbg hgy hsg hb9 hkk hOa hBa hf9 hgx hwg hk9 hcs9;go_wp2_with fail
   go_end0
   exact ⟨rfl,Qgx hlt HBk.out (HOk.out.gr (by show s.done ++ [_] = _; rw [ha]) rfl rfl rfl),HFk.out⟩
 ·
  rw [if_pos (by rfl)];refine QaT (e := 55) (cs := (eraC x.era)) rfl (by rfl) (Qfw x) ?_;have hx := Qb5 w2.drew 55 (eraC x.era);generalize hwn : World.alloc _ _ = wn at hx ⊢;have hfn : Fr w2.drew wn (fun _ => False) := hwn ▸ Fr.new _ _ _;refine hK.out _ _ (Qd4 hfn hHeld) (fun hH2 => ?_);clear hK K
  try simp only [Act.put,Xa]
  have hKm := hfn.blk HKd.out (fun h => h);refine wpAnyH_ready (rs := [4]) (by kernel_rfl) (by simp) ?_;refine AllReadyH.cons rfl (fun K hK => ?_) AllReadyH.nil;rw [if_pos (by rfl)];refine QbP rfl (by rfl) (blkc hKm _ _ k1) underlying67 rfl ?_;refine hK.out _ _ hH2 (fun hH3 => ?_);clear hK K
  try simp only [Act.put,Xa]
  have hOa := hOd.kept hfn;have hBa := hfn.blk hBd (fun h => h);refine wpAnyH_ready (rs := [8]) (by kernel_rfl) (by simp) ?_;refine AllReadyH.cons rfl (fun K hK => ?_) AllReadyH.nil;rw [if_pos (by rfl)];refine QaH _ (.tmp 41) (.tmp 44) 67 rfl M 55 i0 _ 13 120 underlying67 hi0 hz0 hz1 hz2 rfl (by decide) _ z'.eras.length _ rfl hOa.hy.e _ 1 1 (eraC x.era).toList rfl hx H1.out (by simp only [maxLen]; omega) (by omega) hOa.hM ?_;intro v9 w9 hown9 hg9 _;obtain ⟨A9,cap9,rfl⟩ := Go.Mem.QaJ hown9;have hf9 := Fr.ofGrown hg9;have hO9 := QjP hOa hf9 (Qbw (x := x.era) hown9 rfl);obtain ⟨cs9,-,hk9,hcs9,-,-⟩ := hOa.cells;have hkk := hf9.blk hk9 (fun e => by obtain ⟨-,-,cs2,hb2⟩ := Qar hOa.hy.e e.symm; exact absurd (Qal hk9 hb2) (by decide));have hq9 := hf9.blk hH3 (fun e => by obtain ⟨-,-,cs2,hb2⟩ := Qar hOa.hy.e e.symm; exact absurd (Qal hH3 hb2) (by decide));have hb9 := hf9.blk hBa (fun e => by have := (Qar hOa.hy.e e.symm).1; have := hOa.hB; omega);have hgx := Qau HF2.out (Qau (Qbl (Fr.drew w2 _)) (Qcw hfn ((Qbn hOa.hy.e hf9).mono (fun i _ hx => .inr ⟨Nat.le_trans hOa.hB hx.1,_,hx.2.choose,hx.2.choose_spec,by decide⟩))));refine hK.out _ _ hq9 (fun hH9 => ?_);clear hK K hx hown9
  try simp only [Act.put,Xa]
  refine Xt 9 (v := ?_) (fun w' hSw => ?_) ?_;rotate_left
  ·skip;go_simp
   try with_reducible rfl
  try simp only [Act.put,Xa]
  refine Xt 10 (v := ?_) (fun w' hSw => ?_) ?_;rotate_left
  ·skip;go_simp
   try with_reducible rfl
  try simp only [Act.put,Xa]
  refine wpAnyH_ready (rs := [11]) (by kernel_rfl) (by simp) ?_;refine AllReadyH.cons rfl (fun K hK => ?_) AllReadyH.nil;rw [if_pos (by rfl)];refine Qbj (v := .slice A9 (z'.eras.length + 1) cap9) rfl rfl (by rfl) (by rfl) hkk Qpm rfl (by omega) ?_;have hgy := Qau hgx (Qcu (g := g) (Qgq (j := a.length * 3 + 1) (v := .slice A9 (z'.eras.length + 1) cap9) hkk hBz) (by decide));generalize hwg : World.setCell w9 _ _ = wg at hgy hO9 ⊢;have hsg : Fr w9 wg (fun k => k = bz) := hwg ▸ Fr.set (S := fun k => k = bz) rfl;have hbg := hsg.blk hb9 (fun e => by subst e; exact absurd (Qal hb9 hkk) (by decide));refine hK.out _ _ (hsg.blk hq9 (fun e => by subst e; exact absurd (Qal hq9 hkk) (by decide))) (fun _ => ?_);clear hK K;refine wpAnyH_done (by kernel_rfl) ?_ _;have HOg := Xi hO9;have HBg := Xi hbg;have HFg := Xi hgy;clear hO9 hbg hgy hsg hb9 hq9 hkk hOa hBa hf9 hgx hwg hk9 hcs9;obtain ⟨csg,-,hkg,hcsg,-,kg⟩ := HOg.out.cells;obtain ⟨An,cn,hvn⟩ := HOg.out.hy.l.slice;have hvn : vn = .slice An z'.lines.length cn := hvn;subst hvn;have c4g := blkc HBg.out 4 _ rfl;have HKg := Xi ((Fr.drew wg (fun _ => False)).blk hkg (fun h => h));have hOd2 := HOg.out.kept (Fr.drew wg (fun _ => False));have hBd2 := (Fr.drew wg (fun _ => False)).blk HBg.out (fun h => h);clear hkg;go_wp2_with fail;refine wp_region_held_drew (S := fun w' => w'.cell? ⟨g,4,none⟩ = some (intV i)) (by kernel_rfl) (Qdp (Fr.drew wg _) c4g) (fun hHeld => ?_);refine Xt 0 (v := ?_) (fun w' hSw => ?_) ?_;rotate_left
  ·have k4 := hSw; go_simp; try with_reducible rfl
  try simp only [Act.put,Xa]
  refine Xt 1 (v := ?_) (fun w' hSw => ?_) ?_;rotate_left
  ·have k4 := hSw; go_simp; try with_reducible rfl
  try simp only [Act.put,Xa]
  refine Xt 2 (v := ?_) (fun w' hSw => ?_) ?_;rotate_left
  ·have k4 := hSw; go_simp; try with_reducible rfl
  try simp only [Act.put,Xa]
  refine Xt 3 (v := ?_) (fun w' hSw => ?_) ?_;rotate_left
  ·have k4 := hSw; go_simp; try with_reducible rfl
  try simp only [Act.put,Xa]
  refine Xt 5 (v := ?_) (fun w' hSw => ?_) ?_;rotate_left
  ·have k4 := hSw; go_simp; try with_reducible rfl
  try simp only [Act.put,Xa]
  refine Xt 6 (v := ?_) (fun w' hSw => ?_) ?_;rotate_left
  ·have k4 := hSw; go_simp; try with_reducible rfl
  try simp only [Act.put,Xa]
  refine Xt 7 (v := ?_) (fun w' hSw => ?_) ?_;rotate_left
  ·have k4 := hSw; go_simp; try with_reducible rfl
  try simp only [Act.put,Xa]
  refine Xt 8 (v := ?_) (fun w' hSw => ?_) ?_;rotate_left
  ·have k4 := hSw; go_simp; try with_reducible rfl
  try simp only [Act.put,Xa]
  refine wpAnyH_ready (rs := [4,9]) (by kernel_rfl) (by simp) ?_;refine AllReadyH.cons rfl (fun K hK => ?_) (AllReadyH.cons rfl (fun K hK => ?_) AllReadyH.nil)
  ·
   rw [if_pos (by rfl)];refine QbP rfl (by rfl) (blkc HKg.out _ _ kg) underlying66 rfl ?_;refine hK.out _ _ hHeld (fun hH12 => ?_);clear hK K
   try simp only [Act.put,Xa]
   refine wpAnyH_ready (rs := [9]) (by kernel_rfl) (by simp) ?_;refine AllReadyH.cons rfl (fun K hK => ?_) AllReadyH.nil;rw [if_pos (by rfl)];refine QaT (e := 3) (cs := #[intV i]) rfl (by rfl) (Qep i) ?_;have hx := Qb5 wg.drew 3 #[intV i];generalize hwn : World.alloc _ _ = wm at hx ⊢;have hfn : Fr wg.drew wm (fun _ => False) := hwn ▸ Fr.new _ _ _;refine hK.out _ _ (Qdp hfn hH12) (fun hH13 => ?_);clear hK K
   try simp only [Act.put,Xa]
   have hOa := hOd2.kept hfn;have hBa := hfn.blk hBd2 (fun h => h);refine wpAnyH_ready (rs := [10]) (by kernel_rfl) (by simp) ?_;refine AllReadyH.cons rfl (fun K hK => ?_) AllReadyH.nil;rw [if_pos (by rfl)];refine QaH _ (.tmp 52) (.tmp 57) 66 rfl M 3 j0 _ 1 8 underlying66 hj0 jz0 jz1 jz2 rfl (by decide) _ z'.lines.length _ rfl hOa.hy.l _ 1 1 [intV i] rfl hx (by intro u hu; simp at hu; subst hu; rfl) (by simp only [maxLen]; omega) (by omega) hOa.hM ?_;intro v9 w19 hown9 hg9 _;obtain ⟨A19,cap19,rfl⟩ := Go.Mem.QaJ hown9;have hf9 := Fr.ofGrown hg9;have hO9 := Qe8 hOa hf9 (Qbw (x := i) hown9 rfl);obtain ⟨cs9,-,hk9,hcs9,-,-⟩ := hOa.cells;have hkk := hf9.blk hk9 (fun e => by obtain ⟨-,-,cs2,hb2⟩ := Qar hOa.hy.l e.symm; exact absurd (Qal hk9 hb2) (by decide));have hb9 := hf9.blk hBa (fun e => by have := (Qar hOa.hy.l e.symm).1; have := hOa.hB; omega);have hgx := Qau HFg.out (Qau (Qbl (Fr.drew wg _)) (Qcw hfn ((Qbn hOa.hy.l hf9).mono (fun i _ hx => .inr ⟨Nat.le_trans hOa.hB hx.1,_,hx.2.choose,hx.2.choose_spec,by decide⟩))));refine hK.out _ _ (blkc hb9 4 _ rfl) (fun hH9 => ?_);clear hK K hx hown9
   try simp only [Act.put,Xa]
   refine Xt 11 (v := ?_) (fun w' hSw => ?_) ?_;rotate_left
   ·skip;go_simp
    try with_reducible rfl
   try simp only [Act.put,Xa]
   refine Xt 12 (v := ?_) (fun w' hSw => ?_) ?_;rotate_left
   ·skip;go_simp
    try with_reducible rfl
   try simp only [Act.put,Xa]
   refine wpAnyH_ready (rs := [13]) (by kernel_rfl) (by simp) ?_;refine AllReadyH.cons rfl (fun K hK => ?_) AllReadyH.nil;rw [if_pos (by rfl)];refine Qbj (v := .slice A19 (z'.lines.length + 1) cap19) rfl rfl (by rfl) (by rfl) hkk Qi6 rfl (by omega) ?_;have hgy := Qau hgx (Qcu (g := g) (Qgq (j := a.length * 3 + 2) (v := .slice A19 (z'.lines.length + 1) cap19) hkk hBz) (by decide));generalize hwg : World.setCell w19 _ _ = wk at hgy hO9 ⊢;have hsg : Fr w19 wk (fun k => k = bz) := hwg ▸ Fr.set (S := fun k => k = bz) rfl;have hbg := hsg.blk hb9 (fun e => by subst e; exact absurd (Qal hb9 hkk) (by decide));refine hK.out _ _ (blkc hbg 4 _ rfl) (fun _ => ?_);clear hK K;refine wpAnyH_done (by kernel_rfl) ?_ _;have HOk := Xi hO9;have HBk := Xi hbg;have HFk := Xi hgy;clear hO9 hbg hgy hsg hb9 hkk hOa hBa hf9 hgx hwg hk9 hcs9;go_wp2_with fail
   go_end0
   exact ⟨rfl,Qgx hlt HBk.out (HOk.out.gr (by show s.done ++ [_] = _; rw [ha]) rfl rfl rfl),HFk.out⟩
  ·
   rw [if_pos (by rfl)];refine QaT (e := 3) (cs := #[intV i]) rfl (by rfl) (Qep i) ?_;have hx := Qb5 wg.drew 3 #[intV i];generalize hwn : World.alloc _ _ = wm at hx ⊢;have hfn : Fr wg.drew wm (fun _ => False) := hwn ▸ Fr.new _ _ _;refine hK.out _ _ (Qdp hfn hHeld) (fun hH12 => ?_);clear hK K
   try simp only [Act.put,Xa]
   have hKm := hfn.blk HKg.out (fun h => h);refine wpAnyH_ready (rs := [4]) (by kernel_rfl) (by simp) ?_;refine AllReadyH.cons rfl (fun K hK => ?_) AllReadyH.nil;rw [if_pos (by rfl)];refine QbP rfl (by rfl) (blkc hKm _ _ kg) underlying66 rfl ?_;refine hK.out _ _ hH12 (fun hH13 => ?_);clear hK K
   try simp only [Act.put,Xa]
   have hOa := hOd2.kept hfn;have hBa := hfn.blk hBd2 (fun h => h);refine wpAnyH_ready (rs := [10]) (by kernel_rfl) (by simp) ?_;refine AllReadyH.cons rfl (fun K hK => ?_) AllReadyH.nil;rw [if_pos (by rfl)];refine QaH _ (.tmp 52) (.tmp 57) 66 rfl M 3 j0 _ 1 8 underlying66 hj0 jz0 jz1 jz2 rfl (by decide) _ z'.lines.length _ rfl hOa.hy.l _ 1 1 [intV i] rfl hx (by intro u hu; simp at hu; subst hu; rfl) (by simp only [maxLen]; omega) (by omega) hOa.hM ?_;intro v9 w19 hown9 hg9 _;obtain ⟨A19,cap19,rfl⟩ := Go.Mem.QaJ hown9;have hf9 := Fr.ofGrown hg9;have hO9 := Qe8 hOa hf9 (Qbw (x := i) hown9 rfl);obtain ⟨cs9,-,hk9,hcs9,-,-⟩ := hOa.cells;have hkk := hf9.blk hk9 (fun e => by obtain ⟨-,-,cs2,hb2⟩ := Qar hOa.hy.l e.symm; exact absurd (Qal hk9 hb2) (by decide));have hb9 := hf9.blk hBa (fun e => by have := (Qar hOa.hy.l e.symm).1; have := hOa.hB; omega);have hgx := Qau HFg.out (Qau (Qbl (Fr.drew wg _)) (Qcw hfn ((Qbn hOa.hy.l hf9).mono (fun i _ hx => .inr ⟨Nat.le_trans hOa.hB hx.1,_,hx.2.choose,hx.2.choose_spec,by decide⟩))));refine hK.out _ _ (blkc hb9 4 _ rfl) (fun hH9 => ?_);clear hK K hx hown9
   try simp only [Act.put,Xa]
   refine Xt 11 (v := ?_) (fun w' hSw => ?_) ?_;rotate_left
   ·skip;go_simp
    try with_reducible rfl
   try simp only [Act.put,Xa]
   refine Xt 12 (v := ?_) (fun w' hSw => ?_) ?_;rotate_left
   ·skip;go_simp
    try with_reducible rfl
   try simp only [Act.put,Xa]
   refine wpAnyH_ready (rs := [13]) (by kernel_rfl) (by simp) ?_;refine AllReadyH.cons rfl (fun K hK => ?_) AllReadyH.nil;rw [if_pos (by rfl)];refine Qbj (v := .slice A19 (z'.lines.length + 1) cap19) rfl rfl (by rfl) (by rfl) hkk Qi6 rfl (by omega) ?_;have hgy := Qau hgx (Qcu (g := g) (Qgq (j := a.length * 3 + 2) (v := .slice A19 (z'.lines.length + 1) cap19) hkk hBz) (by decide));generalize hwg : World.setCell w19 _ _ = wk at hgy hO9 ⊢;have hsg : Fr w19 wk (fun k => k = bz) := hwg ▸ Fr.set (S := fun k => k = bz) rfl;have hbg := hsg.blk hb9 (fun e => by subst e; exact absurd (Qal hb9 hkk) (by decide));refine hK.out _ _ (blkc hbg 4 _ rfl) (fun _ => ?_);clear hK K;refine wpAnyH_done (by kernel_rfl) ?_ _;have HOk := Xi hO9;have HBk := Xi hbg;have HFk := Xi hgy;clear hO9 hbg hgy hsg hb9 hkk hOa hBa hf9 hgx hwg hk9 hcs9;go_wp2_with fail
   go_end0
   exact ⟨rfl,Qgx hlt HBk.out (HOk.out.gr (by show s.done ++ [_] = _; rw [ha]) rfl rfl rfl),HFk.out⟩
end Go.Proofs.YtlfjknndkjgciaaGreatDoor
