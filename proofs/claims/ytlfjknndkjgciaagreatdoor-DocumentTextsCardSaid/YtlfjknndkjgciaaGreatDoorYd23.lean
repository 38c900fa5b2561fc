import Derived.Test.YtlfjknndkjgciaaGreatDoorYd22
import Derived.Deep.LoopGhost
import Derived.Test.YtlfjknndkjgciaaGreatDoorYd11
import Derived.ChangeArms
import Derived.WideShapes
import Derived.Lib.SmallJoins
import Derived.Deep.Slices
import Derived.Test.YtlfjknndkjgciaaGreatDoorYd19
set_option maxRecDepth 100000
set_option maxHeartbeats 3200000
namespace Go.Proofs.YtlfjknndkjgciaaGreatDoor
open _root_.Go.Proofs.Tryz
open Go.RowKit Go.Mem Go.Lin Go.Dcm

/-- which method a kind tells -/
def Qhy (k : Int) : FuncId := if k = 1 then 32 else if k = 2 then 33 else if k = 3 then 34 else if k = 4 then 35 else if k = 5 then 36 else 37
theorem Qfa : ∀ (fn : Fn) (first cap : Array Value) (w : World),(Instr.makeFunc fn first cap).run Tryz.prog w = .ok (.func fn first cap) w := fun _ _ _ _ => rfl
theorem QnH (g : Nat) (k : Int) (h : k = 1) (w : World) : Calls Tryz.prog 25 #[gP g,intV k] w fun e w' => e = .returned (.func (.func 32) #[gP g] #[]) ∧ w' = w := by
 have hmf := Qfa;subst h;go_enter func25,ntmps25;go_wp2_with fail;go_ret;exact ⟨rfl,rfl⟩
theorem QnG (g : Nat) (k : Int) (h : k = 2) (w : World) : Calls Tryz.prog 25 #[gP g,intV k] w fun e w' => e = .returned (.func (.func 33) #[gP g] #[]) ∧ w' = w := by
 have hmf := Qfa;subst h;go_enter func25,ntmps25;go_wp2_with fail;go_ret;exact ⟨rfl,rfl⟩
theorem QpR (g : Nat) (k : Int) (h : k = 3) (w : World) : Calls Tryz.prog 25 #[gP g,intV k] w fun e w' => e = .returned (.func (.func 34) #[gP g] #[]) ∧ w' = w := by
 have hmf := Qfa;subst h;go_enter func25,ntmps25;go_wp2_with fail;go_ret;exact ⟨rfl,rfl⟩
theorem QnJ (g : Nat) (k : Int) (h : k = 4) (w : World) : Calls Tryz.prog 25 #[gP g,intV k] w fun e w' => e = .returned (.func (.func 35) #[gP g] #[]) ∧ w' = w := by
 have hmf := Qfa;subst h;go_enter func25,ntmps25;go_wp2_with fail;go_ret;exact ⟨rfl,rfl⟩
theorem Qlq (g : Nat) (k : Int) (h : k = 5) (w : World) : Calls Tryz.prog 25 #[gP g,intV k] w fun e w' => e = .returned (.func (.func 36) #[gP g] #[]) ∧ w' = w := by
 have hmf := Qfa;subst h;go_enter func25,ntmps25;go_wp2_with fail;go_ret;exact ⟨rfl,rfl⟩
theorem QnI (g : Nat) (k : Int) (h1 : k ≠ 1) (h2 : k ≠ 2) (h3 : k ≠ 3) (h4 : k ≠ 4) (h5 : k ≠ 5) (w : World) : Calls Tryz.prog 25 #[gP g,intV k] w fun e w' => e = .returned (.func (.func 37) #[gP g] #[]) ∧ w' = w := by
 have hmf := Qfa;have e1 : ((k : Int) == 1) = false := by simpa using h1
 have e2 : ((k : Int) == 2) = false := by simpa using h2
 have e3 : ((k : Int) == 3) = false := by simpa using h3
 have e4 : ((k : Int) == 4) = false := by simpa using h4
 have e5 : ((k : Int) == 5) = false := by simpa using h5
 clear h1 h2 h3 h4 h5;go_enter func25,ntmps25;go_wp2_with fail;go_ret;exact ⟨rfl,rfl⟩
theorem deed_any (g : Nat) (k : Int) (w : World) : Calls Tryz.prog 25 #[gP g,intV k] w fun e w' => e = .returned (.func (.func (Qhy k)) #[gP g] #[]) ∧ w' = w := by
 unfold Qhy;by_cases h1 : k = 1
 ·rw [if_pos h1];exact QnH g k h1 w
 rw [if_neg h1];by_cases h2 : k = 2
 ·rw [if_pos h2];exact QnG g k h2 w
 rw [if_neg h2];by_cases h3 : k = 3
 ·rw [if_pos h3];exact QpR g k h3 w
 rw [if_neg h3];by_cases h4 : k = 4
 ·rw [if_pos h4];exact QnJ g k h4 w
 rw [if_neg h4];by_cases h5 : k = 5
 ·rw [if_pos h5];exact Qlq g k h5 w
 rw [if_neg h5];exact QnI g k h1 h2 h3 h4 h5 w
theorem meth_any (w : World) (g B : Nat) (i : Int) (s : StL) (h : GAt w g B i s) (hs : size s ≤ 100000) (hz : Zn s) (x : LineL) : Calls Tryz.prog (Qhy x.kind) #[gP g,QdQ x] w (Qf7 w g B i (Qdv s (i,x))) := by
 unfold Qhy Qdv;by_cases h1 : x.kind = 1
 ·rw [if_pos h1,if_pos h1];exact QpD w g B i s h hs x
 rw [if_neg h1,if_neg h1];by_cases h2 : x.kind = 2
 ·rw [if_pos h2,if_pos h2];exact Qpz w g B i s h hs x
 rw [if_neg h2,if_neg h2];by_cases h3 : x.kind = 3
 ·rw [if_pos h3,if_pos h3];cases ho : s.opn with
  | false =>
   have e : Qcz s i x = tell s i 0 10 := by unfold Qcz; simp [ho]
   show Calls _ _ _ _ (Qf7 w g B i (Qcz s i x));rw [e];exact QpF w g B i s h hs x ho
  | true =>
   obtain ⟨z,hc⟩ := hz.1 ho;have hk := hz.2 z (Qc6.2 (.inr hc));show Calls _ _ _ _ (Qf7 w g B i (Qcz s i x));by_cases h8 : 8 ≤ z.eras.length
   ·have e : Qcz s i x = { tell s i 0 17 with opn := x.era.til.has } := by unfold Qcz; simp [ho,hc,h8]
    rw [e];exact QpH w g B i s h hs x z ho hc h8
   ·have e : Qcz s i x = { s with cur := some ⟨z.name,z.eras ++ [x.era],z.lines ++ [i]⟩,opn := x.era.til.has } := by unfold Qcz; simp [ho,hc,h8]
    rw [e];exact QpG w g B i s h hs x z ho hc (by omega) hk.1
 rw [if_neg h3,if_neg h3];by_cases h4 : x.kind = 4
 ·rw [if_pos h4,if_pos h4];exact QpE w g B i s h hs x
 rw [if_neg h4,if_neg h4];by_cases h5 : x.kind = 5
 ·rw [if_pos h5,if_pos h5];exact Qnw w g B i s h hs x
 rw [if_neg h5,if_neg h5];exact pass_any w g B i s h x
theorem QnA (w : World) (g B : Nat) (i : Int) (s : StL) (h : GAt w g B i s) (hs : size s ≤ 100000) (hz : Zn s) : Calls Tryz.prog 26 #[gP g] w (Qf7 w g B i (endS s)) := by
 obtain ⟨vr,vz,vl,vd,hb,hr⟩ := h.open_;have hlt := h.lt;have c5 := blkc hb 5 _ rfl;cases ho : s.opn with
 | false =>
  rw [ho] at c5;have HE : endS s = s := by unfold endS; simp [ho]
  rw [HE];have H := Xi h;clear h hb hr HE hz;go_enter func26,ntmps26;go_wp2_with fail
  go_end0
  exact ⟨rfl,H.out,Fr.refl _ _⟩
 | true =>
  rw [ho] at c5;obtain ⟨z,hc⟩ := hz.1 ho;have hk := hz.2 z (Qc6.2 (.inr hc));have HE : endS s = tell s (Qip z) 0 21 := by unfold endS; simp [ho,hc]
  rw [HE];obtain ⟨M,bz,cap,a,⟨z',ve,vn⟩,rfl,rfl,ha,hO⟩ := Qil hr hc;have hsz : a.length ≤ 100000 := by
   have h1 := (Qbt hs).2.1;have h2 := congrArg List.length ha;unfold StL.zones at h1;rw [List.length_append] at h1;rw [List.length_map] at h2;omega
  obtain ⟨pre,t,hpt⟩ : ∃ pre t,z'.lines = pre ++ [t] := by
   rcases List.eq_nil_or_concat z'.lines with e | ⟨a,y,e⟩
   ·have h1 : z'.eras.length = z'.lines.length := hk.1;have h2 : 1 ≤ z'.eras.length := hk.2.1;rw [e] at h1;simp at h1;rw [h1] at h2;simp at h2
   ·exact ⟨a,y,by rw [e,List.concat_eq_append]⟩
  have hlast : Qip z' = t := by unfold Qip; rw [hpt]; simp [List.getLastD_eq_getLast?]
  have hpl : pre.length ≤ 8 := by
   have h1 : z'.eras.length = z'.lines.length := hk.1;have h2 : z'.eras.length ≤ 8 := hk.2.2;rw [hpt,List.length_append] at h1;omega
  have HL := Xi (Qi3 w g a.length cap bz _ hb rfl hsz);have HG := Xi h;obtain ⟨cs,hBz,hkk,hcs,k1,k2⟩ := hO.cells;have HO := Xi hO;obtain ⟨An,cn,hvn0,-,-,hrd⟩ := hO.hy.l.rd;have hvn : vn = .slice An z'.lines.length cn := hvn0;clear hvn0;rw [hpt] at hvn;have hrd : Rd w 1 An z'.lines.length (z'.lines.flatMap intL) := hrd;rw [hpt] at hrd;have hr1 : ∃ bn off,An = some ⟨bn,off,none⟩ ∧ w.cell? ⟨bn,off + pre.length,none⟩ = some (intV t) := by
   obtain ⟨bn,off,e,hx⟩ := hrd.2 (by simp);refine ⟨bn,off,e,hx pre.length (intV t) ?_⟩;have := QdJ intL 1 Qi5 (l := pre ++ [t]) (i := pre.length) (x := t) (by simp) 0 (by omega);simpa [intL] using this
  obtain ⟨bn,off,rfl,ct⟩ := hr1;rw [show (pre ++ [t]).length = pre.length + 1 by simp] at hvn;subst hvn;rw [hlast];have hd := (Qbt hs).2.2.2;have cz := blkc hkk (a.length * 3 + 2) _ k2;clear h hb hr HE hO hkk k1 k2 hcs hrd hk hpt hlast hz;go_enter func26,ntmps26;go_wp2_with fail;refine HL.out.mono ?_;rintro e w2 ⟨rfl,hf2⟩;have cz2 := QaF hf2 cz (fun h => h);have ct2 := QaF hf2 ct (fun h => h);have HT := Xi (QfM w2 g B i s (HG.out.kept hf2) hd t 0 21);have HF2 := Xi (Qbl (g := g) (B := B) hf2);clear hf2 cz ct;go_wp2_with fail;refine HT.out.mono ?_;rintro e w3 ⟨rfl,hg3,hf3⟩;have HG3 := Xi hg3;have HF3 := Xi hf3;clear hg3 hf3;go_wp2_with fail
  go_end0
  exact ⟨rfl,HG3.out,Qau HF2.out HF3.out⟩
/-- a slice of lines -/
def LinesAt (w : World) (A : Option Addr) (l : List LineL) : Prop := Rd w 29 A l.length (l.flatMap Qen)
theorem LinesAt.kept {w w' : World} {A : Option Addr} {l : List LineL} (h : LinesAt w A l) (hf : Fr w w' (fun _ => False)) : LinesAt w' A l := Rd.fr h hf (fun _ _ _ _ h => h)
theorem LinesAt.at_ {w : World} {A : Option Addr} {l : List LineL} (h : LinesAt w A l) {i : Nat} (hi : i < l.length) : ∃ b off,A = some ⟨b,off,none⟩ ∧ ∀ j,j < (Qad l[i]).size → w.cell? ⟨b,off + i * 29 + j,none⟩ = (Qad l[i])[j]? := by
 obtain ⟨b,off,e,hc⟩ := Qhh Qd5 h (List.getElem?_eq_getElem hi);refine ⟨b,off,e,fun j hj => ?_⟩;rw [hc j hj];show (Qad l[i]).toList[j]? = _;simp
/-- four slices,and the document that they hold -/
def Qgn (tr tz tl : TypeId) (w : World) (d : DocL) (e : Ending) (w' : World) : Prop := ∃ vr vz vl vd,e = .returned (.agg #[vr,vz,vl,vd]) ∧ DocAt tr tz tl w' w.heap.size vr vz vl vd d ∧ Fr w w' (fun _ => False)
theorem Qe0 {w : World} {B : Nat} {v : Value} {zs : List ZoneL} (h : ZsAt w B v zs) : ∃ zv : List ZV,zv.map (·.1) = zs ∧ Own w B 71 3 Qa1 v zv ∧ ∀ x ∈ zv,ZAt w B x := by
 obtain ⟨zv,M,h1,h2,h3,-⟩ := h;exact ⟨zv,h1,h2,h3⟩
theorem QgK {w : World} {a b : Nat} {z : ZV} (h : ZAt w b z) (hb : a ≤ b) : ZAt w a z := ⟨QaU h.e hb,QaU h.l hb⟩
theorem Qmr {w : World} {a B : Nat} {vr vz vl vd : Value} {s : StL} (h : GR w B vr vz vl vd s) (hb : a ≤ B) : DocAt 72 71 78 w a vr vz vl vd s.doc := by
 obtain ⟨zv,h1,h2,h3⟩ := Qe0 h.z;exact ⟨QaU h.r hb,⟨zv,h1,QaU h2 hb,fun x hx => QgK (h3 x hx) hb⟩,QaU h.l hb,QaU h.d hb⟩
theorem QpA {w a b : World} {g B : Nat} (h : Fr w a (fun _ => False)) (hf : Fr a b (Gx g B a)) (h1 : w.heap.size ≤ g) (h2 : g < B) : Fr w b (fun _ => False) := h.fresh hf fun i hi => by
 rcases hi with rfl | ⟨hi,-⟩
 ·exact h1
 ·omega
theorem QhG : (Tryz.prog.info? 37).map (·.size) = some 4 := by kernel_rfl
theorem res_of {w : World} {q : Nat} {cs : Array Value} (hs : cs.size = 4) (hb : Blk w q 37 cs) (tmps : Array Value) (hp : tmps.getD 2 undef = .pointer (some ⟨q,0,none⟩)) : (results f13 tmps).run Tryz.prog w = .ok (.agg cs) w :=
 results_cell_row (P := Tryz.prog) (fn := f13) (p := 2) (ty := 37) rfl tmps _ q 37 cs (0,0) _ hp hb underlying37 rfl (by rw [hs]; exact QhG)
theorem gat_new (w : World) (_h : 0 < w.heap.size) : GAt (w.alloc (.cells #[.slice none 0 0,.slice none 0 0,.slice none 0 0,.slice none 0 0,intV 0,.bool false] 81)) w.heap.size (w.heap.size + 1) 0 stZ :=
 Qgx (Nat.lt_succ_self _) (Blk.made w 81 #[.slice none 0 0,.slice none 0 0,.slice none 0 0,.slice none 0 0,intV 0,.bool false]) ⟨Qca _ _ _ _ _,⟨[],w.heap.size + 1,rfl,Qca _ _ _ _ _,fun x hx => by simp at hx,Nat.le_refl _,by simp,fun a x e => by simp at e⟩,Qca _ _ _ _ _,Qca _ _ _ _ _⟩
theorem Qlp {tr tz tl : TypeId} {w : World} {B : Nat} {vr vz vl vd : Value} {d : DocL} (h : DocAt tr tz tl w B vr vz vl vd d) : (#[vr,vz,vl,vd] : Array Value).all (·.oneCell') = true := by
 obtain ⟨A1,c1,rfl⟩ := h.r.slice;obtain ⟨zv,-,hz,-⟩ := h.z;obtain ⟨A2,c2,rfl⟩ := hz.slice;obtain ⟨A3,c3,rfl⟩ := h.l.slice;obtain ⟨A4,c4,rfl⟩ := h.g.slice;simp [Value.oneCell']
/-- a document stays where a block of documents turns -/
theorem Qgk {w w' : World} {B q : Nat} {vr vz vl vd : Value} {d : DocL} {cs : Array Value} (h : DocAt 72 71 78 w B vr vz vl vd d) (hf : Fr w w' (fun i => i = q)) (hq : Blk w q 37 cs) : DocAt 72 71 78 w' B vr vz vl vd d := by
 obtain ⟨zv,h1,h2,h3⟩ := h.z;have key : ∀ {X : Type} {b : Nat} {e : TypeId} {k : Nat} {f : X → List Value} {v : Value} {l : List X},e ≠ 37 → Own w b e k f v l → Own w' b e k f v l := fun hne ho =>
  Qel ho hf fun i cs' _ hb e => by subst e; exact hne (Qal hb hq)
 exact ⟨key (by decide) h.r,⟨zv,h1,key (by decide) h2,fun x hx => ⟨key (by decide) (h3 x hx).e,key (by decide) (h3 x hx).l⟩⟩,key (by decide) h.l,key (by decide) h.g⟩
/-- where the loop stands -/
def OInv (w : World) (_A : Option Addr) (l : List LineL) (k : Nat) (v : Value) (wr : World) : Prop := ∃ (i : Nat) (j : Int),i + k = l.length ∧ v = intV (i : Int) ∧ GAt wr (w.heap.size + 1) (w.heap.size + 2) j (ofS (l.take i)) ∧ Blk wr w.heap.size 37 #[.slice none 0 0,.slice none 0 0,.slice none 0 0,.slice none 0 0] ∧ Fr w wr (fun _ => False)
theorem dOf_any (l : List LineL) (A : Option Addr) (c : Nat) (w : World) (hl : LinesAt w A l) (hlen : l.length ≤ 40000) : Calls Tryz.prog 13 #[.slice A l.length c] w (Qgn 72 71 78 w (ofD l)) := by
 have hf0 := Fr.new w (.cells #[.slice none 0 0,.slice none 0 0,.slice none 0 0,.slice none 0 0] 37) (fun _ => False);have hbR := Blk.made w 37 #[.slice none 0 0,.slice none 0 0,.slice none 0 0,.slice none 0 0];have hg0 := gat_new (w.alloc (.cells #[.slice none 0 0,.slice none 0 0,.slice none 0 0,.slice none 0 0] 37)) (by simp);have hf1 := Fr.new (w.alloc (.cells #[.slice none 0 0,.slice none 0 0,.slice none 0 0,.slice none 0 0] 37)) (.cells #[.slice none 0 0,.slice none 0 0,.slice none 0 0,.slice none 0 0,intV 0,.bool false] 81) (fun _ => False);have HI := Xi (show OInv w A l l.length (intV 0) ((w.alloc (.cells #[.slice none 0 0,.slice none 0 0,.slice none 0 0,.slice none 0 0] 37)).alloc (.cells #[.slice none 0 0,.slice none 0 0,.slice none 0 0,.slice none 0 0,intV 0,.bool false] 81)) from
  ⟨0,0,by simp,rfl,by simpa [ofS,num,runD] using hg0,hf1.blk hbR (fun h => h),ff0 hf0 hf1⟩)
 have HL := Xi hl;clear hf0 hbR hg0 hf1 hl;go_enter func13,ntmps13;go_wp2_with fail
 go_loopg [10] l.length (fun k v10 wr => OInv w A l k v10 wr)
 case atStart => exact HI.out
 case round =>
  obtain ⟨i,j,hik,rfl,hg,hR,hf⟩ := hrel;have hws := hf.size;have HR := Xi hR;have HF := Xi hf;have HG := Xi hg;by_cases hlt : i < l.length
  ·obtain ⟨b,off,rfl,hcell⟩ := (HL.out.kept hf).at_ hlt;obtain ⟨x,hx⟩ : ∃ x,l[i] = x := ⟨_,rfl⟩;have hst := Qjx l i hlt;rw [hx] at hcell hst;have hzn := zn_of (l.take i);have hsz : size (ofS (l.take i)) ≤ 100000 := by
    have := QiM (l.take i);rw [List.length_take] at this;omega
   obtain ⟨s,hs⟩ : ∃ s,ofS (l.take i) = s := ⟨_,rfl⟩;rw [hs] at hst hzn hsz HG;have HST := Xi hst;have HC := Xi hcell;have hi1 : (i : Int) < (l.length : Int) := by omega
   have HZ := Xi (show Blk _ wr.heap.size 58 (Qad Qae) from Blk.made wr 58 Z02);have hn := Fr.new wr (.cells Z02 58) (fun _ => False);obtain ⟨vr,vz,vl,vd,hb,hr⟩ := (HG.out.kept hn).open_;have hgq : w.heap.size + 1 ≠ wr.heap.size := by have := HG.out.open_; obtain ⟨_,_,_,_,hb,_⟩ := this; have := hb.lt; omega
   have HB := Xi hb;have HGR := Xi hr;have HN := Xi hn;have hF : ∀ args w,(callFunc (Qhy x.kind) args).run Tryz.prog w = .ok (.enter (Qhy x.kind) args) w := by
    intro args w;unfold Qhy;split
    ·exact Tryz.call32 args w
    split
    ·exact Tryz.call33 args w
    split
    ·exact Tryz.call34 args w
    split
    ·exact Tryz.call35 args w
    split
    ·exact Tryz.call36 args w
    exact Tryz.call37 args w
   clear hst hcell hf hR hg hb hr hn hs hx;go_wp2_with (first
    | (refine QaP 58 _ b (off + i * 29) (Qad x) _ (by rfl) rfl rfl HC.out underlying58 rfl (QaL _) ?_)
    | (refine Xs 58 wr.heap.size 0 58 (Qad Qae) (Qad x) (Qad x) HZ.out (QaL _) (Qaj _) (Qao _ _) ?_;intro w9 hf9 hb9;have hB9 := hf9.blk HB.out hgq;have c4 := blkc hB9 4 _ rfl;have f4 := Qac hB9 4;have HQ9 := Xi hb9;have HB9 := Xi hB9;have HF9 := Xi hf9;clear hf9 hb9 hB9))
   have hf9 := HN.out.fresh HF9.out (fun i e => by have e : i = wr.heap.size := e; omega);have hG9 := HG.out.kept hf9;obtain ⟨vr2,vz2,vl2,vd2,hb2,hr2⟩ := hG9.open_;have hG1 : GAt (w9.setCell ⟨w.heap.size + 1,4,none⟩ (intV (i : Int))) (w.heap.size + 1) (w.heap.size + 2) (i : Int) s := Qct (Nat.lt_succ_self _) hb2 rfl hr2;have hs1 := Fr.set (w := w9) (a := ⟨w.heap.size + 1,4,none⟩) (v := intV (i : Int)) (S := fun k => k = w.heap.size + 1) rfl;have hq1 := hs1.blk HQ9.out (fun e => hgq e.symm);have hR1 := hs1.blk (hf9.blk HR.out (fun h => h)) (fun e => by have e : w.heap.size = w.heap.size + 1 := e; omega);have hF1 : Fr w _ (fun _ => False) := (ff0 HF.out hf9).fresh hs1 (fun i e => by have e : i = w.heap.size + 1 := e; omega);clear hf9 hG9 hb2 hr2 hs1 c4 f4 HB9 HF9 HQ9 HN HGR HB HZ HC hgq HG HR HF;generalize World.setCell w9 _ _ = W1 at *;have HM := Xi (meth_any W1.drew _ _ _ _ (hG1.kept (Fr.drew _ _)) hsz hzn x);have HG1 := Xi (hG1.kept (Fr.drew W1 (fun _ => False)));have HR1 := Xi ((Fr.drew W1 (fun _ => False)).blk hR1 (fun h => h));have HF1 := Xi (ff0 hF1 (Fr.drew _ _));clear hG1 hR1 hF1;refine wp_region_held_drew (S := fun w' => Blk w' wr.heap.size 58 (Qad x)) (by kernel_rfl) (Qd4 (Fr.drew W1 _) hq1) (fun hHeld => ?_);refine Xt 0 (v := ?_) (fun w' hSw => ?_) ?_;rotate_left
   ·have k0 := blkc hSw 0 (intV x.kind) rfl; go_simp; try with_reducible rfl
   try simp only [Act.put,Xa]
   refine Xt 1 (v := ?_) (fun w' hSw => ?_) ?_;rotate_left
   ·have k0 := blkc hSw 0 (intV x.kind) rfl; go_simp; try with_reducible rfl
   try simp only [Act.put,Xa]
   refine Xt 2 (v := ?_) (fun w' hSw => ?_) ?_;rotate_left
   ·have k0 := blkc hSw 0 (intV x.kind) rfl; go_simp; try with_reducible rfl
   try simp only [Act.put,Xa]
   refine wpAnyH_take (i := 4) (v := _) rfl (by kernel_rfl) (by kernel_rfl) (by kernel_rfl) (fun _ _ _ h => h) (Qe2 58 _ wr.heap.size 0 58 (Qad x) (Qad x) _ (by rfl) rfl rfl (fun _ h => h) underlying58 rfl (QaL _) (QeN _)) (by assumption) ?_
   try simp only [Act.put,Xa]
   refine wpAnyH_ready (rs := [3]) (by kernel_rfl) (by simp) ?_;refine AllReadyH.cons rfl (fun K hK => ?_) AllReadyH.nil;go_simp;refine (deed_any _ _ _).mono ?_;rintro e wd ⟨rfl,rfl⟩;refine hK.out _ _ hHeld (fun hHeld2 => ?_);clear hK K
   try simp only [Act.put,Xa]
   refine wpAnyH_ready (rs := [5]) (by kernel_rfl) (by simp) ?_;refine AllReadyH.cons rfl (fun K hK => ?_) AllReadyH.nil;go_simp;refine HM.out.mono ?_;rintro e w5 ⟨rfl,hg5,hf5⟩;refine hK.out _ _ (hf5.blk hHeld2 (QpB HG1.out hHeld2)) (fun hHeld5 => ?_);clear hK K
   try simp only [Act.put,Xa]
   refine wpAnyH_done (by kernel_rfl) ?_ _;have HG5 := Xi hg5;have HF5 := Xi hf5;clear hg5 hf5 hHeld hHeld2 hHeld5 hq1;go_wp2_with fail
   go_roundg (gk - 1)
   case measure => omega
   case rel =>
    refine ⟨i + 1,(i : Int),by omega,by go_num,?_,HF5.out.blk HR1.out (gx_low (by omega) (by omega)),QpA HF1.out HF5.out (by omega) (by omega)⟩;rw [HST.out];exact HG5.out
  ·have hi1 : (l.length : Int) ≤ (i : Int) := by omega
   obtain rfl : i = l.length := by omega
   rw [List.take_length] at HG;have hzn := zn_of l;have hsz : size (ofS l) ≤ 100000 := by
    have := QiM l;omega
   have HM := Xi (QnA wr _ _ _ _ HG.out hsz hzn);have HE := Xi (show (endS (ofS l)).doc = ofD l from rfl);clear hR hg hf;go_wp2_with fail;refine HM.out.mono ?_;rintro e w5 ⟨rfl,hg5,hf5⟩;obtain ⟨vr,vz,vl,vd,hb,hr⟩ := hg5.open_;have HD := Xi (Qmr hr (show w.heap.size ≤ w.heap.size + 2 by omega));have HB5 := Xi hb;have HR5 := Xi (hf5.blk HR.out (gx_low (by omega) (by omega)));have HF5 := Xi (QpA HF.out hf5 (by omega) (by omega));clear hg5 hf5 hb hr;go_wp2_with (first
    | (refine Qb2 37 _ (w.heap.size + 1) 0 81 _ #[vr,vz,vl,vd] _ (by rfl) rfl rfl HB5.out underlying37 rfl QhG (fun j hj => by have hj : j < 4 := hj; match j,hj with | 0,_ => rfl | 1,_ => rfl | 2,_ => rfl | 3,_ => rfl) ?_)
    | (refine Qbg 37 _ _ w.heap.size 0 37 _ #[vr,vz,vl,vd] #[vr,vz,vl,vd] (by rfl) rfl rfl rfl rfl HR5.out QhG (Qlp HD.out) (show 0 + 4 ≤ 4 by decide) rfl ?_;intro w9 hf9 hb9;have HE9 := Xi hb9;have HF9 := Xi hf9;clear hf9 hb9))
   (try simp only [Exit.inBlock,Exit.then]);refine bodyPost_ret (res_of rfl HE9.out _ rfl) rfl ⟨vr,vz,vl,vd,rfl,?_,HF5.out.fresh HF9.out (fun i e => by have e : i = w.heap.size := e; omega)⟩;rw [← HE.out];exact Qgk HD.out HF9.out HR5.out
end Go.Proofs.YtlfjknndkjgciaaGreatDoor
namespace Go.Proofs.YtlfjknndkjgciaaGreatDoor
open Go.RowKit Go.Mem Go.Lin Go.WideShapes

instance : Inhabited LineL := ⟨Qae⟩
end Go.Proofs.YtlfjknndkjgciaaGreatDoor
namespace Go.Mem
open Go.RowKit
section
variable {P : Program} {ops : Array Oper} {rest : List Oper} {o : Oper} {a : Act} {w : World} {Q : Exit → Act → World → Prop}
/-- a struct is put together -/
theorem Qco (t : TypeId) (QkW : Array (Nat × Operand)) (v : Value) (hgd : Region.wanted o (yielded ops a.tmps) = true) (ho : o.op = .build t QkW) (h : ∀ w,(Instr.build t (QkW.map fun (i,x) => (i,a.eval x))).run P w = .ok v w)
  (hK : wpList P ops Q rest (a.put o.dst v) w) : wpList P ops Q (o :: rest) a w :=
 wpList_step fun _ hk => by
  rw [if_pos hgd];unfold Oper.wp execOp;simp only [ho,Sem.run_bind,h,Sem.run_pure,Result.andThen_ok];exact hk _ _ hK
/-- a slice of one element is made: the world behind it is opaque -/
theorem QaN {t e : TypeId} {y : Operand} {v : Value} (cs : Array Value) (hgd : Region.wanted o (yielded ops a.tmps) = true) (ho : o.op = .buildSlice t 1 #[(0,y)]) (hy : a.eval y = v)
  (hm : ∀ w,(Instr.buildSlice t 1 #[(0,v)]).run P w = .ok (.slice (some ⟨w.heap.size,0,none⟩) 1 1) (w.alloc (.cells cs e)))
  (h : ∀ W,Fr w W (fun _ => False) → W.heap.size = w.heap.size + 1 → Blk W w.heap.size e cs → Rd W cs.size (some ⟨w.heap.size,0,none⟩) 1 cs.toList → wpList P ops Q rest (a.put o.dst (.slice (some ⟨w.heap.size,0,none⟩) 1 1)) W) : wpList P ops Q (o :: rest) a w :=
 wpList_step fun _ hK => by
  rw [if_pos hgd];unfold Oper.wp execOp;simp only [ho,Sem.run_bind,List.map_toArray,List.map_cons,List.map_nil,hy,hm,Result.andThen_ok];refine hK _ _ (h _ (Fr.new w _ _) (by simp) (Blk.made w e cs) ?_);refine ⟨by simp,fun _ => ⟨w.heap.size,0,rfl,fun j u hu => ?_⟩⟩;have := Qaa (Blk.made w e cs) j;rw [Nat.zero_add,this];simpa using hu
end
end Go.Mem
namespace Go.Proofs.YtlfjknndkjgciaaGreatDoor
open Go.RowKit Go.Mem Go.Lin Go.Dcm
/-- one element more: the row behind it,the world opaque -/
theorem QaI {P : Program} {ops : Array Oper} {rest : List Oper} {o : Oper} {a : Act} {w : World} {Q : Exit → Act → World → Prop} {X : Type} {f : X → List Value} {l : List X} (s y : Operand) (t : TypeId)
  (hgd : o.guard = none) (ho : o.op = .call { callee := .builtin .append,args := #[s,y],argTypes := #[t,t] })
  (base : Nat) (e : TypeId) (z : Value) (size bytes : Nat) (ht : P.underlying t = some (.slice e)) (hi : (P.info? e).map (fun i => (i.zero,i.size,i.bytes)) = some (some z,size,bytes)) (hzs : z.cells.size = size) (hsz : 0 < size)
  (v : Value) (hs : a.eval s = v) (hown : Own w base e size f v l) (A : Option Addr) (c : Nat) (x : X) (cs : List Value) (hx : a.eval y = .slice A 1 c) (hr : Rd w size A 1 cs) (hcs : cs = f x) (h1 : ∀ u ∈ cs,u.oneCell' = true)
  (h63 : l.length ≤ 100000) (hby : bytes ≤ 1000) (hbase : base ≤ w.heap.size)
  (h : ∀ A9 c9 w9,Own w9 base e size f (.slice A9 (l.length + 1) c9) (l ++ [x]) → Fr w w9 (fun i => some i = v.ownBlock) → wpList P ops Q rest (a.put o.dst (.slice A9 (l.length + 1) c9)) w9) : wpList P ops Q (o :: rest) a w := by
 obtain ⟨i0,hi0,hz0,hz1,hz2⟩ := info_parts hi;refine Qa6 w hgd s y t ho base e i0 z size bytes ht hi0 hz0 hz1 hz2 hzs hsz v l.length _ hs hown A 1 c cs hx hr h1 (by simp only [maxLen]; omega) ?_ hbase ?_
 ·have : (l.length + 1) * bytes ≤ 100001 * 1000 := Nat.mul_le_mul (by omega) hby
  omega
 ·intro v9 w9 hown9 hg9 _;obtain ⟨A9,c9,rfl⟩ := Go.Mem.QaJ hown9;exact h A9 c9 w9 (Qbw hown9 hcs) (Fr.ofGrown hg9)
namespace R
/-- v owns a row of zones,the last one's rows behind all others' -/
def ZsAt (w : World) (base : Nat) (v : Value) (zs : List ZoneL) : Prop := ∃ (zv : List ZV) (M : Nat),zv.map (·.1) = zs ∧ Own w base 69 3 Qa1 v zv ∧ (∀ x ∈ zv,ZAt w base x) ∧ base ≤ M ∧ M ≤ w.heap.size ∧
 ∀ a x,zv = a ++ [x] → ZAt w M x ∧ ∀ y ∈ a,QlE M y
theorem ZsAt.fr {w w' : World} {S : Nat → Prop} {base : Nat} {v : Value} {zs : List ZoneL} (h : ZsAt w base v zs) (hf : Fr w w' S) (h0 : ∀ k cs,base ≤ k → Blk w k 69 cs → ¬ S k) (h1 : ∀ k cs,base ≤ k → Blk w k 55 cs → ¬ S k) (h2 : ∀ k cs,base ≤ k → Blk w k 3 cs → ¬ S k) : ZsAt w' base v zs := by
 obtain ⟨zv,M,e,ho,hz,hb,hM,hl⟩ := h;refine ⟨zv,M,e,ho.fr hf fun g hg => ?_,fun x hx => (hz x hx).fr hf h1 h2,hb,Nat.le_trans hM hf.size,fun a x ex => ?_⟩
 ·obtain ⟨hb,-,cs,hk⟩ := Qar ho hg;exact h0 g cs hb hk
 ·obtain ⟨k1,k2⟩ := hl a x ex;exact ⟨k1.fr hf (fun k cs hk => h1 k cs (by omega)) (fun k cs hk => h2 k cs (by omega)),k2⟩
theorem QiD {w w' : World} {B : Nat} {e : TypeId} {v : Value} {zs : List ZoneL} (h : ZsAt w B v zs) (hf : Fr w w' (TB B e w)) (h0 : 69 ≠ e) (h1 : 55 ≠ e) (h2 : 3 ≠ e) : ZsAt w' B v zs :=
 h.fr hf (fun _ _ _ hb hx => h0 (Qal hb hx.2.choose_spec)) (fun _ _ _ hb hx => h1 (Qal hb hx.2.choose_spec)) (fun _ _ _ hb hx => h2 (Qal hb hx.2.choose_spec))
/-- the rows of a state -/
structure GR (w : World) (B : Nat) (vr vz vl vd : Value) (s : StL) : Prop where
 r : Own w B 61 12 Qbu vr s.rules
 z : ZsAt w B vz s.zones
 l : Own w B 63 3 Qcp vl s.links
 d : Own w B 65 4 QcM vd s.diags
theorem GR.kept {w w' : World} {B : Nat} {vr vz vl vd : Value} {s : StL} (h : GR w B vr vz vl vd s) (hf : Fr w w' (fun _ => False)) : GR w' B vr vz vl vd s :=
 ⟨h.r.kept hf,h.z.fr hf (fun _ _ _ _ h => h) (fun _ _ _ _ h => h) (fun _ _ _ _ h => h),h.l.kept hf,h.d.kept hf⟩
theorem GR.base {w : World} {B : Nat} {vr vz vl vd : Value} {s : StL} (h : GR w B vr vz vl vd s) : B ≤ w.heap.size := by
 obtain ⟨zv,M,-,-,-,h1,h2,-⟩ := h.z;omega
/-- a zone more -/
theorem QdL {w w9 : World} {B : Nat} {v : Value} {zv : List ZV} {z : ZV} (hall : ∀ y ∈ zv,ZAt w B y) (hf : Fr w w9 (TB B 69 w)) (hown : Own w9 B 69 3 Qa1 v (zv ++ [z])) (hz : ZAt w9 w.heap.size z) (hB : B ≤ w.heap.size) : ZsAt w9 B v (zv.map (·.1) ++ [z.1]) := by
 refine ⟨zv ++ [z],w.heap.size,by simp,hown,fun y hy => ?_,hB,hf.size,fun a y e => ?_⟩
 ·rcases List.mem_append.1 hy with hy | hy
  ·exact ⟨Qas (hall y hy).e hf (by decide),Qas (hall y hy).l hf (by decide)⟩
  ·have hy : y = z := by simpa using hy
   subst hy;exact ⟨QaU hz.e hB,QaU hz.l hB⟩
 ·obtain ⟨rfl,e2⟩ := List.append_inj' e rfl;have e2 : z = y := by simpa using e2
  subst e2;exact ⟨hz,fun y hy => ⟨fun k hk => (Qar (hall y hy).e hk).2.1,fun k hk => (Qar (hall y hy).l hk).2.1⟩⟩
/-- a zone's row of eras,or of lines,is turned -/
theorem QiE {w : World} {B bz n cap : Nat} {a : List ZV} {y z : ZV} {v : Value} (j : Nat) (h : Own w B 69 3 Qa1 (.slice (some ⟨bz,0,none⟩) n cap) (a ++ [y])) (hn : n = (a ++ [y]).length) (hj : (Qa1 y).set j v = Qa1 z) : Own (w.setCell ⟨bz,a.length * 3 + j,none⟩ v) B 69 3 Qa1 (.slice (some ⟨bz,0,none⟩) n cap) (a ++ [z]) := by
 subst hn;have h1 := (World.ownsRow.stored h (a.length * 3 + j) v).1;have e : ((a ++ [y]).flatMap Qa1).set (a.length * 3 + j) v = (a ++ [z]).flatMap Qa1 := by
  rw [List.flatMap_append,List.flatMap_append,← QgJ,List.set_append_right _ _ (Nat.le_add_right _ _),Nat.add_sub_cancel_left];rw [show [y].flatMap Qa1 = Qa1 y by simp,show [z].flatMap Qa1 = Qa1 z by simp,hj]
 rw [e] at h1;show World.ownsRow _ _ _ _ _ (a ++ [z]).length _;simpa using h1
theorem QgI {w : World} {B M : Nat} {v : Value} {a : List ZV} {z : ZV} (hoz : Own w B 69 3 Qa1 v (a ++ [z])) (ha : ∀ y ∈ a,ZAt w B y) (hu : ∀ y ∈ a,QlE M y) (hz : ZAt w M z) (hB : B ≤ M) (hM : M ≤ w.heap.size) : ZsAt w B v (a.map (·.1) ++ [z.1]) := by
 refine ⟨a ++ [z],M,by simp,hoz,fun y hy => ?_,hB,hM,fun b y e => ?_⟩
 ·rcases List.mem_append.1 hy with hy | hy
  ·exact ha y hy
  ·have hy : y = z := by simpa using hy
   subst hy;exact ⟨QaU hz.e hB,QaU hz.l hB⟩
 ·obtain ⟨rfl,e2⟩ := List.append_inj' e rfl;have e2 : z = y := by simpa using e2
  subst e2;exact ⟨hz,hu⟩
/-- what is known where an era is told of an open zone -/
structure OpenZ (w : World) (B M bz cap : Nat) (a : List ZV) (y : ZV) (vr vl vd : Value) (s : StL) : Prop where
 oz : Own w B 69 3 Qa1 (.slice (some ⟨bz,0,none⟩) (a.length + 1) cap) (a ++ [y])
 ha : ∀ z ∈ a,ZAt w B z
 hu : ∀ z ∈ a,QlE M z
 hy : ZAt w M y
 hB : B ≤ M
 hM : M ≤ w.heap.size
 r : Own w B 61 12 Qbu vr s.rules
 l : Own w B 63 3 Qcp vl s.links
 d : Own w B 65 4 QcM vd s.diags
theorem OpenZ.kept {w w' : World} {B M bz cap : Nat} {a : List ZV} {y : ZV} {vr vl vd : Value} {s : StL} (h : OpenZ w B M bz cap a y vr vl vd s) (hf : Fr w w' (fun _ => False)) : OpenZ w' B M bz cap a y vr vl vd s :=
 ⟨h.oz.kept hf,fun z hz => (h.ha z hz).kept hf,h.hu,h.hy.kept hf,h.hB,Nat.le_trans h.hM hf.size,h.r.kept hf,h.l.kept hf,h.d.kept hf⟩
theorem Qil {w : World} {B : Nat} {vr vz vl vd : Value} {s : StL} {z : ZoneL} (h : GR w B vr vz vl vd s) (hc : s.cur = some z) : ∃ M bz cap a y,vz = .slice (some ⟨bz,0,none⟩) (a.length + 1) cap ∧ y.1 = z ∧ a.map (·.1) = s.done ∧ OpenZ w B M bz cap a y vr vl vd s := by
 obtain ⟨zv,M,e1,h1,h2,h3,h4,h5⟩ := h.z;have e2 : s.zones = s.done ++ [z] := by unfold StL.zones; rw [hc]; rfl
 rw [e2] at e1;obtain ⟨a,y,rfl,ea,ey⟩ : ∃ a y,zv = a ++ [y] ∧ a.map (·.1) = s.done ∧ y.1 = z := by
  rcases List.eq_nil_or_concat zv with rfl | ⟨a,y,rfl⟩
  ·simp at e1
  ·simp only [List.concat_eq_append,List.map_append] at e1;obtain ⟨e3,e4⟩ := List.append_inj' e1 rfl;exact ⟨a,y,List.concat_eq_append,e3,by simpa using e4⟩
 obtain ⟨k1,k2⟩ := h5 a y rfl;obtain ⟨A,c,rfl,-,-,-,hA,hA2⟩ := Qex h1;cases A with
 | none => exact absurd (hA rfl).1 (by simp)
 | some A =>
  obtain ⟨bz,rfl,-⟩ := hA2 A rfl;exact ⟨M,bz,c,a,y,by simp,ey,ea,by simpa using h1,fun z hz => h2 z (by simp [hz]),k2,k1,h3,h4,h.r,h.l,h.d⟩
theorem OpenZ.gr {w : World} {B M bz cap : Nat} {a : List ZV} {y : ZV} {vr vl vd : Value} {s t : StL} (h : OpenZ w B M bz cap a y vr vl vd s) (hz : t.zones = a.map (·.1) ++ [y.1]) (h1 : t.rules = s.rules) (h2 : t.links = s.links) (h3 : t.diags = s.diags) : GR w B vr (.slice (some ⟨bz,0,none⟩) (a.length + 1) cap) vl vd t :=
 ⟨h1 ▸ h.r,hz ▸ QgI h.oz h.ha h.hu h.hy h.hB h.hM,h2 ▸ h.l,h3 ▸ h.d⟩
theorem OpenZ.cells {w : World} {B M bz cap : Nat} {a : List ZV} {y : ZV} {vr vl vd : Value} {s : StL} (h : OpenZ w B M bz cap a y vr vl vd s) : ∃ cs : Array Value,B ≤ bz ∧ Blk w bz 69 cs ∧ a.length * 3 + 2 < cs.size ∧ cs[a.length * 3 + 1]? = some y.2.1 ∧ cs[a.length * 3 + 2]? = some y.2.2 := by
 obtain ⟨cs,h1,h2,h3,h4⟩ := Qfu h.oz (by simp);have hl := QgJ a;have hx : ∀ j,j < 3 → ((a ++ [y]).flatMap Qa1)[a.length * 3 + j]? = (Qa1 y)[j]? := fun j hj => QdJ Qa1 3 QcF (by simp) j hj;refine ⟨cs,h1,h2,?_,h4 _ _ (hx 1 (by omega)),h4 _ _ (hx 2 (by omega))⟩;rw [List.length_append] at h3;simp only [List.length_cons,List.length_nil] at h3;omega
theorem Qe0 {w : World} {B : Nat} {v : Value} {zs : List ZoneL} (h : ZsAt w B v zs) : ∃ zv : List ZV,zv.map (·.1) = zs ∧ Own w B 69 3 Qa1 v zv ∧ ∀ x ∈ zv,ZAt w B x := by
 obtain ⟨zv,M,h1,h2,h3,-⟩ := h;exact ⟨zv,h1,h2,h3⟩
theorem Qmr {w : World} {a B : Nat} {vr vz vl vd : Value} {s : StL} (h : GR w B vr vz vl vd s) (hb : a ≤ B) : DocAt 61 69 63 w a vr vz vl vd s.doc := by
 obtain ⟨zv,h1,h2,h3⟩ := Qe0 h.z;exact ⟨QaU h.r hb,⟨zv,h1,QaU h2 hb,fun x hx => QgK (h3 x hx) hb⟩,QaU h.l hb,QaU h.d hb⟩
/-- a document stays where a block of documents turns -/
theorem Qgk {w w' : World} {B q : Nat} {vr vz vl vd : Value} {d : DocL} {cs : Array Value} (h : DocAt 61 69 63 w B vr vz vl vd d) (hf : Fr w w' (fun i => i = q)) (hq : Blk w q 31 cs) : DocAt 61 69 63 w' B vr vz vl vd d := by
 obtain ⟨zv,h1,h2,h3⟩ := h.z;have key : ∀ {X : Type} {b : Nat} {e : TypeId} {k : Nat} {f : X → List Value} {v : Value} {l : List X},e ≠ 31 → Own w b e k f v l → Own w' b e k f v l := fun hne ho =>
  Qel ho hf fun i cs' _ hb e => by subst e; exact hne (Qal hb hq)
 exact ⟨key (by decide) h.r,⟨zv,h1,key (by decide) h2,fun x hx => ⟨key (by decide) (h3 x hx).e,key (by decide) (h3 x hx).l⟩⟩,key (by decide) h.l,key (by decide) h.g⟩
/-- the document at D holds the state s -/
def At (w : World) (D B : Nat) (s : StL) : Prop := D < B ∧ ∃ vr vz vl vd,Blk w D 31 #[vr,vz,vl,vd] ∧ GR w B vr vz vl vd s
theorem At.kept {w w' : World} {D B : Nat} {s : StL} (h : At w D B s) (hf : Fr w w' (fun _ => False)) : At w' D B s := by
 obtain ⟨h0,vr,vz,vl,vd,h1,h2⟩ := h;exact ⟨h0,vr,vz,vl,vd,hf.blk h1 (fun h => h),h2.kept hf⟩
/-- only the block i turns,which is of another type than the rows -/
theorem GR.far {w w' : World} {B q : Nat} {e : TypeId} {cs : Array Value} {vr vz vl vd : Value} {s : StL} (h : GR w B vr vz vl vd s) (hf : Fr w w' (fun i => i = q)) (hq : Blk w q e cs) (h1 : 61 ≠ e) (h2 : 69 ≠ e) (h3 : 63 ≠ e) (h4 : 65 ≠ e) (h5 : 55 ≠ e) (h6 : 3 ≠ e) : GR w' B vr vz vl vd s := by
 have key : ∀ {X : Type} {b : Nat} {e' : TypeId} {k : Nat} {f : X → List Value} {v : Value} {l : List X},e' ≠ e → Own w b e' k f v l → Own w' b e' k f v l := fun hne ho =>
  Qel ho hf fun i cs' _ hb e => by subst e; exact hne (Qal hb hq)
 exact ⟨key h1 h.r,h.z.fr hf (fun i cs' _ hb e => by subst e; exact h2 (Qal hb hq)) (fun i cs' _ hb e => by subst e; exact h5 (Qal hb hq)) (fun i cs' _ hb e => by subst e; exact h6 (Qal hb hq)),key h3 h.l,key h4 h.d⟩
end R
end Go.Proofs.YtlfjknndkjgciaaGreatDoor
namespace Go.Mem
open Go.RowKit
section
variable {P : Program} {ops : Array Oper} {rest : List Oper} {o : Oper} {a : Act} {w : World} {Q : Exit → Act → World → Prop}
/-- two structs are told apart: in a region that draws its order,and in a plain one -/
theorem Qe1 {S : World → Prop} {t : TypeId} {x y : Operand} {z : TypeId} {cs ds : Array Value} {b : Bool} (hgd : Region.wanted o (yielded ops a.tmps) = true) (ho : o.op = .binOp .neq t x y z) (hx : a.eval x = .agg cs) (hy : a.eval y = .agg ds)
  (hg : ∀ w,(eqGuard .neq t x y (.agg cs) (.agg ds)).run P w = .ok () w) (h : ∀ w,(binOp .neq t (.agg cs) (.agg ds)).run P w = .ok (.bool b) w) : YieldsIf P ops S o (.bool b) a :=
 .inl ⟨hgd,fun w _ => by
  unfold execOp;simp only [ho,hx,hy,Sem.run_bind,hg,h,Result.andThen_ok,Sem.run_pure]⟩
end
end Go.Mem
namespace Go.Proofs.YtlfjknndkjgciaaGreatDoor
open Go.RowKit Go.Mem Go.Lin Go.Dcm
theorem QpC (x y : Operand) (cs ds : Array Value) : ∀ w,(eqGuard .neq 55 x y (.agg cs) (.agg ds)).run Tryz.prog w = .ok () w := fun _ => by kernel_rfl
theorem same_era (r : EraL) : ∀ w,(binOp .neq 55 (.agg (eraC r)) (.agg (eraC r))).run Tryz.prog w = .ok (.bool false) w := fun w => by rw [neq_era]; simp
end Go.Proofs.YtlfjknndkjgciaaGreatDoor
namespace Go.Proofs.YtlfjknndkjgciaaGreatDoor
open _root_.Go.Proofs.Tryz
open Go.RowKit Go.Mem Go.Lin Go.Dcm
/- a document's QkW are the same as themselves -/
theorem eq_diag (d : Nat) (x : DiagL) (w : World) : (Op.equalIn (d + 2) 65 (.agg (QcM x).toArray) (.agg (QcM x).toArray)).run Tryz.prog w = .ok true w := by
 have hS : Tryz.prog.underlying 65 = some (.struct (Tryz.prog.fieldsOf 65)) := by kernel_rfl
 have hp : Tryz.prog.stoodInHeld 65 = false := by kernel_rfl
 rw [run_equalIn_agg w (d + 1) 65 _ _ hS hp];simp only [Program.fieldsOf,underlying65];refine Eq.trans (QaM (x := strV []) (y := strV []) (by decide) (by kernel_rfl) (by kernel_rfl) (eqS d [] [] w) (QaM (x := intV x.line) (y := intV x.line) (by decide) (by kernel_rfl) (by kernel_rfl) (eqI d x.line x.line w) (QaM (x := intV x.col) (y := intV x.col) (by decide) (by kernel_rfl) (by kernel_rfl) (eqI d x.col x.col w) (QaM (x := intV x.k) (y := intV x.k) (by decide) (by kernel_rfl) (by kernel_rfl) (eqK d x.k x.k w) QeU)))) ?_;simp
theorem eq_rlink (d : Nat) (x : LinkL) (w : World) : (Op.equalIn (d + 2) 63 (.agg (Qcp x).toArray) (.agg (Qcp x).toArray)).run Tryz.prog w = .ok true w := by
 have hS : Tryz.prog.underlying 63 = some (.struct (Tryz.prog.fieldsOf 63)) := by kernel_rfl
 have hp : Tryz.prog.stoodInHeld 63 = false := by kernel_rfl
 rw [run_equalIn_agg w (d + 1) 63 _ _ hS hp];simp only [Program.fieldsOf,underlying63];refine Eq.trans (QaM (x := strV x.target) (y := strV x.target) (by decide) (by kernel_rfl) (by kernel_rfl) (eqS d x.target x.target w) (QaM (x := strV x.name) (y := strV x.name) (by decide) (by kernel_rfl) (by kernel_rfl) (eqS d x.name x.name w) (QaM (x := intV x.line) (y := intV x.line) (by decide) (by kernel_rfl) (by kernel_rfl) (eqI d x.line x.line w) QeU))) ?_;simp
theorem eq_rrule (d : Nat) (x : RuleL × Int) (w : World) : (Op.equalIn (d + 4) 61 (.agg (Qbu x).toArray) (.agg (Qbu x).toArray)).run Tryz.prog w = .ok true w := by
 have hS : Tryz.prog.underlying 61 = some (.struct (Tryz.prog.fieldsOf 61)) := by kernel_rfl
 have hp : Tryz.prog.stoodInHeld 61 = false := by kernel_rfl
 rw [run_equalIn_agg w (d + 3) 61 _ _ hS hp];simp only [Program.fieldsOf,underlying61];refine Eq.trans (QaM (x := Qoo x.1) (y := Qoo x.1) (by decide) (by kernel_rfl) (by kernel_rfl) (eq_rule d x.1 x.1 w) (QaM (x := intV x.2) (y := intV x.2) (by decide) (by kernel_rfl) (by kernel_rfl) (eqI (d + 2) x.2 x.2 w) QeU)) ?_;simp
theorem Qok (x : DiagL) : ∀ w,(binOp .neq 65 (.agg (QcM x).toArray) (.agg (QcM x).toArray)).run Tryz.prog w = .ok (.bool false) w := fun w => by
 rw [run_neq_struct,show (10000 : Nat) = 9998 + 2 from rfl,eq_diag 9998 x w];rfl
theorem QmZ (x : LinkL) : ∀ w,(binOp .neq 63 (.agg (Qcp x).toArray) (.agg (Qcp x).toArray)).run Tryz.prog w = .ok (.bool false) w := fun w => by
 rw [run_neq_struct,show (10000 : Nat) = 9998 + 2 from rfl,eq_rlink 9998 x w];rfl
theorem QmY (x : RuleL × Int) : ∀ w,(binOp .neq 61 (.agg (Qbu x).toArray) (.agg (Qbu x).toArray)).run Tryz.prog w = .ok (.bool false) w := fun w => by
 rw [run_neq_struct,show (10000 : Nat) = 9996 + 4 from rfl,eq_rrule 9996 x w];rfl
theorem Qnv (x y : Operand) (cs ds : Array Value) : ∀ w,(eqGuard .neq 65 x y (.agg cs) (.agg ds)).run Tryz.prog w = .ok () w := fun _ => by kernel_rfl
theorem Qlg (x y : Operand) (cs ds : Array Value) : ∀ w,(eqGuard .neq 63 x y (.agg cs) (.agg ds)).run Tryz.prog w = .ok () w := fun _ => by kernel_rfl
theorem Qlf (x y : Operand) (cs ds : Array Value) : ∀ w,(eqGuard .neq 61 x y (.agg cs) (.agg ds)).run Tryz.prog w = .ok () w := fun _ => by kernel_rfl
/- a struct of a row,as the walk loads it -/
theorem QdC {X : Type} {f : X → List Value} {k : Nat} (hf : ∀ x,(f x).length = k) {w : World} {A : Option Addr} {l : List X} (h : Rd w k A l.length (l.flatMap f)) {i : Nat} (hi : i < l.length) : ∃ b off,A = some ⟨b,off,none⟩ ∧ ∀ j,j < (f l[i]).toArray.size → w.cell? ⟨b,off + i * k + j,none⟩ = (f l[i]).toArray[j]? := by
 obtain ⟨b,off,e,hc⟩ := Qhh hf h (List.getElem?_eq_getElem hi);refine ⟨b,off,e,fun j hj => ?_⟩;rw [hc j (by simpa [hf] using hj)];simp
end Go.Proofs.YtlfjknndkjgciaaGreatDoor
