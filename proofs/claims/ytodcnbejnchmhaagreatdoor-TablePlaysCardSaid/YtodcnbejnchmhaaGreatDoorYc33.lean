import Derived.Test.YtodcnbejnchmhaaGreatDoorYc16
import Derived.Great.BuildSlice
import Derived.BigQuiet
import Derived.Deep.QuietTactic
import Derived.Deep.LoopGhost
import Derived.Deep.Slices
import Derived.Test.YtodcnbejnchmhaaGreatDoorYc32
import Derived.Test.YtodcnbejnchmhaaGreatDoorYc14
import Derived.Test.YtodcnbejnchmhaaGreatDoorYc15
set_option maxRecDepth 100000
set_option maxHeartbeats 3200000
namespace Go.Proofs.YtodcnbejnchmhaaGreatDoor
open Go.RowKit Go.Mem Go.Lin Go.Dcm

/-- rows of the type e -/
def TB (B : Nat) (e : TypeId) (w : World) (i : Nat) : Prop := B ≤ i ∧ ∃ cs,Blk w i e cs
theorem tb_own {X : Type} {w w' : World} {B : Nat} {e : TypeId} {k : Nat} {f : X → List Value} {v : Value} {l : List X} (h : Own w B e k f v l) (hf : Fr w w' (fun i => some i = v.ownBlock)) : Fr w w' (TB B e w) :=
 hf.mono fun i _ hi => by
  obtain ⟨h1,-,h2⟩ := Qdx h hi.symm;exact ⟨h1,h2⟩
theorem far_tb {X : Type} {w w' : World} {B B' : Nat} {e e' : TypeId} {k : Nat} {f : X → List Value} {v : Value} {l : List X} (h : Own w B' e k f v l) (hf : Fr w w' (TB B e' w)) (hne : e ≠ e') : Own w' B' e k f v l :=
 QkY h hf fun _ _ _ hb hx => hne (QcA hb hx.2.choose_spec)
theorem Qhn {X : Type} {w w' : World} {g B : Nat} {e : TypeId} {k : Nat} {f : X → List Value} {v : Value} {l : List X} (h : Own w B e k f v l) (hf : Fr w w' (fun i => i = g)) (hg : g < B) : Own w' B e k f v l :=
 QkY h hf fun _ _ hi _ hx => by omega
theorem zs_g {w w' : World} {g B : Nat} {v : Value} {zs : List ZoneL} (h : ZsAt w B v zs) (hf : Fr w w' (fun i => i = g)) (hg : g < B) : ZsAt w' B v zs :=
 h.fr hf (fun _ _ hi _ hx => by omega) (fun _ _ hi _ hx => by omega) (fun _ _ hi _ hx => by omega)
/-- the rows of a state -/
structure GR (w : World) (B : Nat) (vr vz vl vd : Value) (s : StL) : Prop where
 r : Own w B 100 12 Qng vr s.rules
 z : ZsAt w B vz s.zones
 l : Own w B 102 3 QnE vl s.links
 d : Own w B 125 4 QnZ vd s.diags
theorem GR.kept {w w' : World} {B : Nat} {vr vz vl vd : Value} {s : StL} (h : GR w B vr vz vl vd s) (hf : Fr w w' (fun _ => False)) : GR w' B vr vz vl vd s :=
 ⟨h.r.kept hf,h.z.fr hf (fun _ _ _ _ h => h) (fun _ _ _ _ h => h) (fun _ _ _ _ h => h),h.l.kept hf,h.d.kept hf⟩
theorem GR.g {w w' : World} {g B : Nat} {vr vz vl vd : Value} {s : StL} (h : GR w B vr vz vl vd s) (hf : Fr w w' (fun i => i = g)) (hg : g < B) : GR w' B vr vz vl vd s :=
 ⟨Qhn h.r hf hg,zs_g h.z hf hg,Qhn h.l hf hg,Qhn h.d hf hg⟩
theorem GR.base {w : World} {B : Nat} {vr vz vl vd : Value} {s : StL} (h : GR w B vr vz vl vd s) : B ≤ w.heap.size := by
 obtain ⟨zv,M,-,-,-,h1,h2,-⟩ := h.z;omega
theorem GAt.open_ {w : World} {g B : Nat} {i : Int} {s : StL} (h : GAt w g B i s) : ∃ vr vz vl vd,Blk w g 128 #[vr,vz,vl,vd,intV i,.bool s.opn] ∧ GR w B vr vz vl vd s := by
 obtain ⟨-,vr,vz,vl,vd,hb,hr,hz,hl,hd⟩ := h;exact ⟨vr,vz,vl,vd,hb,hr,hz,hl,hd⟩
theorem gat_mk {w : World} {g B : Nat} {i : Int} {s : StL} {vr vz vl vd : Value} (hg : g < B) (hb : Blk w g 128 #[vr,vz,vl,vd,intV i,.bool s.opn]) (h : GR w B vr vz vl vd s) : GAt w g B i s := ⟨hg,vr,vz,vl,vd,hb,h.r,h.z,h.l,h.d⟩
theorem GAt.kept {w w' : World} {g B : Nat} {i : Int} {s : StL} (h : GAt w g B i s) (hf : Fr w w' (fun _ => False)) : GAt w' g B i s := by
 obtain ⟨vr,vz,vl,vd,hb,hr⟩ := h.open_;exact gat_mk h.lt (hf.blk hb (fun h => h)) (hr.kept hf)
theorem Qoi {P : Program} {o : Oper} {a : Act} {w : World} {K : Act → World → Prop} {Q : Exit → Act → World → Prop} {ty t : TypeId} {x y : Operand} {g off : Nat} {old : Array Value} {v : Value} (ho : o.op = .store ty x y) (hd : o.dst = none) (hx : a.eval x = .pointer (some ⟨g,off,none⟩)) (hy : a.eval y = v) (hg : Blk w g t old)
  (hi : (P.info? ty).map (·.size) = some 1) (h1 : v.oneCell' = true) (hfit : off < old.size) (hK : K a (w.setCell ⟨g,off,none⟩ v)) : o.wp P a w K Q := by
 unfold Oper.wp execOp;simp only [ho,hx,hy,Instr.storeAt,Instr.sureAddr,Sem.run_bind,Sem.run_pure,Result.andThen_ok,Qdt w g off t ty old v hg hi h1 hfit];simpa only [Oper.upon,hd,Act.put] using hK
/-- what a region's loads want of the world -/
def HS (g q : Nat) (i : Int) (x : LineL) (w : World) : Prop := w.cell? ⟨g,4,none⟩ = some (intV i) ∧ Blk w q 71 (Qad x)
theorem keep {g q : Nat} {i : Int} {x : LineL} {w w' : World} (hf : Fr w w' (fun _ => False)) (h : HS g q i x w) : HS g q i x w' := ⟨Qdk hf h.1 (fun h => h),hf.blk h.2 (fun h => h)⟩
theorem ff0 {a c d : World} (h : Fr a c (fun _ => False)) (h2 : Fr c d (fun _ => False)) : Fr a d (fun _ => False) := h.trans h2 (fun _ _ h => h) (fun _ _ h => h)
/-- a row in its block -/
theorem Qps {X : Type} {w : World} {B : Nat} {e : TypeId} {k : Nat} {f : X → List Value} {b n cap : Nat} {l : List X} (h : Own w B e k f (.slice (some ⟨b,0,none⟩) n cap) l) (_hn : n = l.length) : ∃ cs : Array Value,B ≤ b ∧ Blk w b e cs ∧ l.length * k ≤ cs.size ∧ ∀ (j : Nat) (u : Value),(l.flatMap f)[j]? = some u → cs[j]? = some u := by
 rcases h.2 with ⟨h',_⟩ | ⟨g',cap',cur,h',hb,hg,hnc,hcm,hcs,ht⟩
 ·simp at h'
 ·injection h' with h1 h2 h3;injection h1 with h1;injection h1 with h1;subst h1 h3;refine ⟨cur,hb,hg,by rw [hcs]; exact Nat.mul_le_mul_right _ hnc,fun j u hu => ?_⟩;rw [← ht,List.getElem?_take] at hu;split at hu
  ·simpa using hu
  ·cases hu
theorem QlQ (a : List ZV) : (a.flatMap Qfb).length = a.length * 3 := Qbk Qfb 3 Qgw a
/-- what is known where an era is told of an open zone -/
structure OpenZ (w : World) (B M bz cap : Nat) (a : List ZV) (y : ZV) (vr vl vd : Value) (s : StL) : Prop where
 oz : Own w B 101 3 Qfb (.slice (some ⟨bz,0,none⟩) (a.length + 1) cap) (a ++ [y])
 ha : ∀ z ∈ a,ZAt w B z
 hu : ∀ z ∈ a,Under M z
 hy : ZAt w M y
 hB : B ≤ M
 hM : M ≤ w.heap.size
 r : Own w B 100 12 Qng vr s.rules
 l : Own w B 102 3 QnE vl s.links
 d : Own w B 125 4 QnZ vd s.diags
theorem OpenZ.kept {w w' : World} {B M bz cap : Nat} {a : List ZV} {y : ZV} {vr vl vd : Value} {s : StL} (h : OpenZ w B M bz cap a y vr vl vd s) (hf : Fr w w' (fun _ => False)) : OpenZ w' B M bz cap a y vr vl vd s :=
 ⟨h.oz.kept hf,fun z hz => (h.ha z hz).kept hf,h.hu,h.hy.kept hf,h.hB,Nat.le_trans h.hM hf.size,h.r.kept hf,h.l.kept hf,h.d.kept hf⟩
theorem OpenZ.g {w w' : World} {B M bz cap : Nat} {a : List ZV} {y : ZV} {vr vl vd : Value} {s : StL} {g : Nat} (h : OpenZ w B M bz cap a y vr vl vd s) (hf : Fr w w' (fun i => i = g)) (hg : g < B) : OpenZ w' B M bz cap a y vr vl vd s :=
 ⟨Qhn h.oz hf hg,fun z hz => ⟨Qhn (h.ha z hz).e hf hg,Qhn (h.ha z hz).l hf hg⟩,h.hu,⟨Qhn h.hy.e hf (Nat.lt_of_lt_of_le hg h.hB),Qhn h.hy.l hf (Nat.lt_of_lt_of_le hg h.hB)⟩,h.hB,Nat.le_trans h.hM hf.size,Qhn h.r hf hg,Qhn h.l hf hg,Qhn h.d hf hg⟩
theorem OpenZ.cells {w : World} {B M bz cap : Nat} {a : List ZV} {y : ZV} {vr vl vd : Value} {s : StL} (h : OpenZ w B M bz cap a y vr vl vd s) : ∃ cs : Array Value,B ≤ bz ∧ Blk w bz 101 cs ∧ a.length * 3 + 2 < cs.size ∧ cs[a.length * 3 + 1]? = some y.2.1 ∧ cs[a.length * 3 + 2]? = some y.2.2 := by
 obtain ⟨cs,h1,h2,h3,h4⟩ := Qps h.oz (by simp);have hl := QlQ a;have hx : ∀ j,j < 3 → ((a ++ [y]).flatMap Qfb)[a.length * 3 + j]? = (Qfb y)[j]? := fun j hj => QeC Qfb 3 Qgw (by simp) j hj;refine ⟨cs,h1,h2,?_,h4 _ _ (hx 1 (by omega)),h4 _ _ (hx 2 (by omega))⟩;rw [List.length_append] at h3;simp only [List.length_cons,List.length_nil] at h3;omega
/-- a slice of lines -/
def LinesAt (w : World) (A : Option Addr) (l : List LineL) : Prop := Rd w 29 A l.length (l.flatMap Qa1)
theorem LinesAt.kept {w w' : World} {A : Option Addr} {l : List LineL} (h : LinesAt w A l) (hf : Fr w w' (fun _ => False)) : LinesAt w' A l := Rd.fr h hf (fun _ _ _ _ h => h)
theorem LinesAt.at_ {w : World} {A : Option Addr} {l : List LineL} (h : LinesAt w A l) {i : Nat} (hi : i < l.length) : ∃ b off,A = some ⟨b,off,none⟩ ∧ ∀ j,j < (Qad l[i]).size → w.cell? ⟨b,off + i * 29 + j,none⟩ = (Qad l[i])[j]? := by
 obtain ⟨b,off,e,hc⟩ := QoU Qbh h (List.getElem?_eq_getElem hi);refine ⟨b,off,e,fun j hj => ?_⟩;rw [hc j hj];show (Qad l[i]).toList[j]? = _;simp
/-- where the loop stands -/
def OInv (w : World) (_A : Option Addr) (l : List LineL) (k : Nat) (v : Value) (wr : World) : Prop := ∃ (i : Nat) (j : Int),i + k = l.length ∧ v = intV (i : Int) ∧ GAt wr (w.heap.size + 1) (w.heap.size + 2) j (ofS (l.take i)) ∧ Blk wr w.heap.size 57 #[.slice none 0 0,.slice none 0 0,.slice none 0 0,.slice none 0 0] ∧ Fr w wr (fun _ => False)
end Go.Proofs.YtodcnbejnchmhaaGreatDoor
namespace Go.Proofs.YtodcnbejnchmhaaGreatDoor
open Go.RowKit Go.Mem Go.Lin Go.WideShapes

instance : Inhabited LineL := ⟨Qae⟩
end Go.Proofs.YtodcnbejnchmhaaGreatDoor
namespace Go.Proofs.YtodcnbejnchmhaaGreatDoor
open _root_.Go.Proofs.Tryz
open Go.RowKit Go.Mem Go.Lin Go.WideShapes

/-- numbers that an int can be,a text that a string can be -/
structure EdR (e : EdL) : Prop where
 l1 : inR e.l1
 c1 : inR e.c1
 l2 : inR e.l2
 c2 : inR e.c2
 s : e.s.length ≤ maxLen
def EdsAt (w : World) (A : Option Addr) (es : List EdL) : Prop := Rd w 5 A es.length (es.flatMap edL)
theorem EdsAt.kept {w w' : World} {A : Option Addr} {es : List EdL} (h : EdsAt w A es) (hf : Fr w w' (fun _ => False)) : EdsAt w' A es := Rd.fr h hf (fun _ _ _ _ h => h)
theorem EdsAt.at_ {w : World} {A : Option Addr} {es : List EdL} (h : EdsAt w A es) {i : Nat} (hi : i < es.length) : ∃ b off,A = some ⟨b,off,none⟩ ∧ ∀ j,j < (edC es[i]).size → w.cell? ⟨b,off + i * 5 + j,none⟩ = (edC es[i])[j]? := by
 obtain ⟨b,off,e,hc⟩ := QoU QiP h (List.getElem?_eq_getElem hi);refine ⟨b,off,e,fun j hj => ?_⟩;rw [hc j hj];show (edC es[i]).toList[j]? = _;simp
theorem Qly : Tryz.prog.cellsOf 37 = 5 := by kernel_rfl
theorem array5 {α : Type} {cs : Array α} (h : cs.size = 5) : ∃ c0 c1 c2 c3 c4,cs = #[c0,c1,c2,c3,c4] := by
 obtain ⟨l⟩ := cs
 match l,h with
 | [c0,c1,c2,c3,c4],_ => exact ⟨c0,c1,c2,c3,c4,rfl⟩
section
variable {H : Type} {enc : TypeId × Value → H} {w : World} {base : Nat} {spare : Nat → Bool} {held : Bool}
theorem open_ed {n : Nat} {c0 c1 c2 c3 c4 : Value} {y : DataW H × List MemPlace} (h : DataW.trod enc Tryz.prog w base spare held n 37 [c0,c1,c2,c3,c4] = some y) :
  ∃ x : EdL,c0 = intV x.l1 ∧ c1 = intV x.c1 ∧ c2 = intV x.l2 ∧ c3 = intV x.c2 ∧ c4 = strV x.s ∧ EdR x := by
 obtain ⟨xs,m,-,-,-,hlen,hf⟩ := DataW.trod_struct underlying37 h;obtain ⟨y0,g0⟩ := fld hlen hf 0 _ rfl;simp only [List.getElem_toArray,List.getElem_cons_zero,QfA,List.drop_zero,List.take_succ_cons,List.take_zero] at g0;obtain ⟨a0,e0,l0⟩ := Qgo g0;obtain ⟨y1,g1⟩ := fld hlen hf 1 _ rfl;simp only [List.getElem_toArray,List.getElem_cons_zero,List.getElem_cons_succ,QfA,List.drop_succ_cons,List.drop_zero,List.take_succ_cons,List.take_zero] at g1;obtain ⟨a1,e1,l1⟩ := Qgo g1;obtain ⟨y2,g2⟩ := fld hlen hf 2 _ rfl;simp only [List.getElem_toArray,List.getElem_cons_zero,List.getElem_cons_succ,QfA,List.drop_succ_cons,List.drop_zero,List.take_succ_cons,List.take_zero] at g2;obtain ⟨a2,e2,l2⟩ := Qgo g2;obtain ⟨y3,g3⟩ := fld hlen hf 3 _ rfl;simp only [List.getElem_toArray,List.getElem_cons_zero,List.getElem_cons_succ,QfA,List.drop_succ_cons,List.drop_zero,List.take_succ_cons,List.take_zero] at g3;obtain ⟨a3,e3,l3⟩ := Qgo g3;obtain ⟨y4,g4⟩ := fld hlen hf 4 _ rfl;simp only [List.getElem_toArray,List.getElem_cons_zero,List.getElem_cons_succ,Qqd,List.drop_succ_cons,List.drop_zero,List.take_succ_cons,List.take_zero] at g4;obtain ⟨a4,e4,l4⟩ := leaf_str g4;exact ⟨⟨a0,a1,a2,a3,a4⟩,e0,e1,e2,e3,e4,⟨l0,l1,l2,l3,l4⟩⟩
end
/-- a slice of edits that came in -/
theorem eds_in {H : Type} {enc : TypeId × Value → H} {w : World} {base fuel : Nat} {spare : Nat → Bool} {held : Bool} {a : Option Addr} {len cap : Nat} {x : DataW H × List MemPlace}
  (h : DataW.trod enc Tryz.prog w base spare held fuel 22 [Value.slice a len cap] = some x) :
  ∃ l : List EdL,EdsAt w a l ∧ l.length = len ∧ len ≤ maxLen ∧ ∀ e ∈ l,EdR e := by
 rcases Go.Deep.open_slice underlying22 h with ⟨hcs,-⟩ | ⟨ad,l,c,m,n,D,Pl,hcs,hb,hl,hm,hmm,hx,hi⟩
 ·simp at hcs;obtain ⟨rfl,rfl,rfl⟩ := hcs;exact ⟨[],⟨rfl,fun h => absurd h (by simp)⟩,rfl,Nat.zero_le _,by simp⟩
 ·simp at hcs;obtain ⟨rfl,rfl,rfl⟩ := hcs;have hlm : len ≤ m := by rw [hmm]; split <;> omega
  rw [Qly] at hi;have each : ∀ i,i < len → ∃ e : EdL,(∀ j,j < 5 → w.cell? (ad.add (i * 5 + j)) = (edL e)[j]?) ∧ EdR e := by
   intro i hlt;obtain ⟨cs,h1,h2⟩ := hi i (by omega);obtain ⟨-,hlen,hat⟩ := World.cells?_some h1;obtain ⟨c0,c1,c2,c3,c4,e⟩ := array5 (cs := cs.toArray) (by simpa using hlen);have e : cs = [c0,c1,c2,c3,c4] := by simpa using congrArg Array.toList e
   subst e;obtain ⟨x,e0,e1,e2,e3,e4,l⟩ := open_ed h2;subst e0 e1 e2 e3 e4;refine ⟨x,fun j hj => ?_,l⟩;have k := hat j hj;rw [Go.Deep.add_add] at k;exact k
  obtain ⟨f,hf⟩ := Go.Deep.choose_lt each;refine ⟨(List.range len).map f,⟨?_,fun hpos => ?_⟩,by simp,by omega,?_⟩
  ·rw [Qbk edL 5 QiP]
  ·rw [List.length_map,List.length_range] at hpos;have h0 := (hf 0 hpos).1 0 (by omega);obtain ⟨b,off,rfl⟩ : ∃ b off,ad = ⟨b,off,none⟩ := by
    obtain ⟨b,off,spot⟩ := ad;cases spot with
    | none => exact ⟨b,off,rfl⟩
    | some s =>
     exfalso;have h0 : w.cell? ((⟨b,off,some s⟩ : Addr).add (0 * 5 + 0)) = some (intV (f 0).l1) := h0;simp [Addr.add,World.cell?] at h0;split at h0 <;> simp at h0
   have hadd : ∀ j,(⟨b,off,none⟩ : Addr).add j = ⟨b,off + j,none⟩ := fun j => by unfold Addr.add; split <;> simp_all
   refine ⟨b,off,rfl,fun j u hu => ?_⟩;have hj : j < len * 5 := by
    have := (List.getElem?_eq_some_iff.1 hu).1;rw [Qbk edL 5 QiP,List.length_map,List.length_range] at this;exact this
   have h1 : ((List.range len).map f)[j / 5]? = some (f (j / 5)) := by
    rw [List.getElem?_map,List.getElem?_range (by omega)];rfl
   have h2 := QeC edL 5 QiP h1 (j % 5) (Nat.mod_lt _ (by omega));rw [show j / 5 * 5 + j % 5 = j by omega] at h2;have h3 := (hf (j / 5) (by omega)).1 (j % 5) (Nat.mod_lt _ (by omega));rw [hadd,show j / 5 * 5 + j % 5 = j by omega] at h3;rw [h3,← h2,hu]
  ·intro e he;obtain ⟨i,hi,rfl⟩ := List.mem_map.1 he;exact (hf i (List.mem_range.1 hi)).2
end Go.Proofs.YtodcnbejnchmhaaGreatDoor
namespace Go.Proofs.YtodcnbejnchmhaaGreatDoor
open _root_.Go.Proofs.Tryz
open Go.Rope hiding Bs
open Go.RowKit Go.Mem Go.Lin Go.Dcm

theorem Qfs : ∀ (fn : Fn) (first cap : Array Value) (w : World),(Instr.makeFunc fn first cap).run Tryz.prog w = .ok (.func fn first cap) w := fun _ _ _ _ => rfl
abbrev offF (v : Value) : Value := .func (.func 51) #[v] #[]
abbrev lineF (v : Value) : Value := .func (.func 34) #[v] #[]
/-- the ways that stretch goes -/
def StrR (w : World) (f t k : Int) (e : Ending) (w' : World) : Prop := e = .returned (.tuple #[intV f,intV t,intV k]) ∧ Fr w w' (fun _ => False)
theorem Qkk {w : World} {v x : Value} {l : Bs} {h : Nat} (r : S3.RopeAt w v x l h) (hl : l.length ≤ 20000) (e : EdL) (h1 : S3.Qa9 l e.l1 e.c1 = (0,2)) : Calls Tryz.prog 50 #[offF v,edV e] w (StrR w 0 0 2) := by
 obtain ⟨l1,c1,l2,c2,s⟩ := e;have HO := Xi (fun (W : World) (f : Fr w W (fun _ => False)) => S3.QdF (r.keep f) hl l1 c1 0 2 h1);clear r h1;unfold edV edC;go_enter func50,ntmps50;go_wp2_with fail;refine (HO.out _ (Fr.new _ _ _)).mono ?_;rintro e w2 ⟨rfl,rfl⟩;go_wp2_with fail
 go_ret3
 exact ⟨rfl,Fr.new _ _ _⟩
theorem Qkj {w : World} {v x : Value} {l : Bs} {h : Nat} (r : S3.RopeAt w v x l h) (hl : l.length ≤ 20000) (e : EdL) (a : Nat) (h1 : S3.Qa9 l e.l1 e.c1 = ((a : Int),0)) (h2 : S3.Qa9 l e.l2 e.c2 = (0,2)) : Calls Tryz.prog 50 #[offF v,edV e] w (StrR w 0 0 2) := by
 obtain ⟨l1,c1,l2,c2,s⟩ := e;have HO := Xi (fun (W : World) (f : Fr w W (fun _ => False)) => S3.QdF (r.keep f) hl l1 c1 (a : Int) 0 h1);have HP := Xi (fun (W : World) (f : Fr w W (fun _ => False)) => S3.QdF (r.keep f) hl l2 c2 0 2 h2);clear r h1 h2;unfold edV edC;go_enter func50,ntmps50;go_wp2_with fail;refine (HO.out _ (Fr.new _ _ _)).mono ?_;rintro e w2 ⟨rfl,rfl⟩;go_wp2_with fail;refine (HP.out _ (Fr.new _ _ _)).mono ?_;rintro e w3 ⟨rfl,rfl⟩;go_wp2_with fail
 go_ret3
 exact ⟨rfl,Fr.new _ _ _⟩
theorem Qet {w : World} {v x : Value} {l : Bs} {h : Nat} (r : S3.RopeAt w v x l h) (hl : l.length ≤ 20000) (e : EdL) (a b : Nat) (h1 : S3.Qa9 l e.l1 e.c1 = ((a : Int),0)) (h2 : S3.Qa9 l e.l2 e.c2 = ((b : Int),0)) : Calls Tryz.prog 50 #[offF v,edV e] w (StrR w a b 0) := by
 obtain ⟨l1,c1,l2,c2,s⟩ := e;have HO := Xi (fun (W : World) (f : Fr w W (fun _ => False)) => S3.QdF (r.keep f) hl l1 c1 (a : Int) 0 h1);have HP := Xi (fun (W : World) (f : Fr w W (fun _ => False)) => S3.QdF (r.keep f) hl l2 c2 (b : Int) 0 h2);clear r h1 h2;unfold edV edC;go_enter func50,ntmps50;go_wp2_with fail;refine (HO.out _ (Fr.new _ _ _)).mono ?_;rintro e w2 ⟨rfl,rfl⟩;go_wp2_with fail;refine (HP.out _ (Fr.new _ _ _)).mono ?_;rintro e w3 ⟨rfl,rfl⟩;go_wp2_with fail
 go_ret3
 exact ⟨rfl,Fr.new _ _ _⟩
/-- what changed answers -/
def chgD (l : Bs) (e : EdL) : Bs := if (Qcc l e).2 = 0 then (Qcc l e).1 else []
theorem Qhq {w : World} {v : Value} (e : EdL) (HS : RowKit.Hid (∀ W,Fr w W (fun _ => False) → Calls Tryz.prog 50 #[offF v,edV e] W (StrR W 0 0 2))) : Calls Tryz.prog 32 #[v,edV e] w (S3.Qqz w [] 2) := by
 obtain ⟨l1,c1,l2,c2,s⟩ := e;have hmf := Qfs;unfold edV edC at *;go_enter func32,ntmps32;go_wp2_with fail;refine (HS.out _ (Fr.new _ _ _)).mono ?_;rintro e w2 ⟨rfl,hf2⟩;have HF2 := Xi (ff0 (Fr.new w _ (fun _ => False)) hf2);clear hf2;go_wp2_with fail
 go_ret2
 exact ⟨_,_,_,rfl,S3.RopeAt.nil _,HF2.out⟩
theorem Qhr {w : World} {v x : Value} {l : Bs} {h : Nat} (r : S3.RopeAt w v x l h) (hl : l.length ≤ 20000) (e : EdL) (hz : e.s.length ≤ 20100) : Calls Tryz.prog 32 #[v,edV e] w (S3.Qqz w (chgD l e) (Qcc l e).2) := by
 unfold chgD;have hmf := Qfs;cases Qp4 l e with
 | no1 h1 hd =>
  rw [hd];exact Qhq e (Xi fun W f => Qkk (r.keep f) hl e h1)
 | no2 a h1 h2 hd =>
  rw [hd];exact Qhq e (Xi fun W f => Qkj (r.keep f) hl e a h1 h2)
 | back a b h1 h2 h3 hd =>
  rw [hd];have HS := Xi (fun (W : World) (f : Fr w W (fun _ => False)) => Qet (r.keep f) hl e a b h1 h2);have HP := Xi (fun (W : World) (f : Fr w W (fun _ => False)) => S3.QeJ (r.keep f) hl (a : Int) (b : Int) e.s hz [] 2 h3);obtain ⟨l1,c1,l2,c2,s⟩ := e;clear r h1 h2 h3 hd;unfold edV edC at *;go_enter func32,ntmps32;go_wp2_with fail;refine (HS.out _ (Fr.new _ _ _)).mono ?_;rintro e w2 ⟨rfl,hf2⟩;have c4 := hf2.cell0 (blkc (Blk.made w 39 #[intV l1,intV c1,intV l2,intV c2,strV s]) 4 _ rfl);have HF2 := Xi (ff0 (Fr.new w _ (fun _ => False)) hf2);clear hf2;go_wp2_with fail;refine (HP.out _ HF2.out).mono ?_;rintro e w3 ⟨v3,x3,h3,rfl,hr3,hf3⟩;have HF3 := Xi (ff0 HF2.out hf3);clear hf3 hr3;go_wp2_with fail
  go_ret2
  exact ⟨_,_,_,rfl,S3.RopeAt.nil _,HF3.out⟩
 | large a b h1 h2 h3 hd =>
  rw [hd];have HS := Xi (fun (W : World) (f : Fr w W (fun _ => False)) => Qet (r.keep f) hl e a b h1 h2);have HP := Xi (fun (W : World) (f : Fr w W (fun _ => False)) => S3.QeJ (r.keep f) hl (a : Int) (b : Int) e.s hz [] 17 h3);obtain ⟨l1,c1,l2,c2,s⟩ := e;clear r h1 h2 h3 hd;unfold edV edC at *;go_enter func32,ntmps32;go_wp2_with fail;refine (HS.out _ (Fr.new _ _ _)).mono ?_;rintro e w2 ⟨rfl,hf2⟩;have c4 := hf2.cell0 (blkc (Blk.made w 39 #[intV l1,intV c1,intV l2,intV c2,strV s]) 4 _ rfl);have HF2 := Xi (ff0 (Fr.new w _ (fun _ => False)) hf2);clear hf2;go_wp2_with fail;refine (HP.out _ HF2.out).mono ?_;rintro e w3 ⟨v3,x3,h3,rfl,hr3,hf3⟩;have HF3 := Xi (ff0 HF2.out hf3);clear hf3 hr3;go_wp2_with fail
  go_ret2
  exact ⟨_,_,_,rfl,S3.RopeAt.nil _,HF3.out⟩
 | many a b t h1 h2 h3 ht hm hd =>
  rw [hd];have HS := Xi (fun (W : World) (f : Fr w W (fun _ => False)) => Qet (r.keep f) hl e a b h1 h2);have HP := Xi (fun (W : World) (f : Fr w W (fun _ => False)) => S3.QeJ (r.keep f) hl (a : Int) (b : Int) e.s hz t 0 h3);obtain ⟨l1,c1,l2,c2,s⟩ := e;have hm1 : (400 : Int) < ((Qah t + 1 : Nat) : Int) := by omega
  clear r h1 h2 h3 hd;unfold edV edC at *;go_enter func32,ntmps32;go_wp2_with fail;refine (HS.out _ (Fr.new _ _ _)).mono ?_;rintro e w2 ⟨rfl,hf2⟩;have c4 := hf2.cell0 (blkc (Blk.made w 39 #[intV l1,intV c1,intV l2,intV c2,strV s]) 4 _ rfl);have HF2 := Xi (ff0 (Fr.new w _ (fun _ => False)) hf2);clear hf2;go_wp2_with fail;refine (HP.out _ HF2.out).mono ?_;rintro e w3 ⟨v3,x3,h3,rfl,hr3,hf3⟩;have HF3 := Xi (ff0 HF2.out hf3);have HL := Xi (S3.Qeo hr3 ht);clear hf3 hr3;go_wp2_with fail;refine HL.out.mono ?_;rintro e w4 ⟨rfl,rfl⟩;go_wp2_with fail
  go_ret2
  exact ⟨_,_,_,rfl,S3.RopeAt.nil _,HF3.out⟩
 | ok i j a b t hi hj h1 h2 h3 ht hm hd hs hab hij hc =>
  rw [hd];have HS := Xi (fun (W : World) (f : Fr w W (fun _ => False)) => Qet (r.keep f) hl e a b h1 h2);have HP := Xi (fun (W : World) (f : Fr w W (fun _ => False)) => S3.QeJ (r.keep f) hl (a : Int) (b : Int) e.s hz t 0 h3);obtain ⟨l1,c1,l2,c2,s⟩ := e;have hm1 : ((Qah t + 1 : Nat) : Int) ≤ (400 : Int) := by omega
  clear r h1 h2 h3 hd hi hj hs hc;unfold edV edC at *;go_enter func32,ntmps32;go_wp2_with fail;refine (HS.out _ (Fr.new _ _ _)).mono ?_;rintro e w2 ⟨rfl,hf2⟩;have c4 := hf2.cell0 (blkc (Blk.made w 39 #[intV l1,intV c1,intV l2,intV c2,strV s]) 4 _ rfl);have HF2 := Xi (ff0 (Fr.new w _ (fun _ => False)) hf2);clear hf2;go_wp2_with fail;refine (HP.out _ HF2.out).mono ?_;rintro e w3 ⟨v3,x3,h3,rfl,hr3,hf3⟩;have HF3 := Xi (ff0 HF2.out hf3);have HL := Xi (S3.Qeo hr3 ht);have HR3 := Xi hr3;clear hf3 hr3;go_wp2_with fail;refine HL.out.mono ?_;rintro e w4 ⟨rfl,rfl⟩;go_wp2_with fail
  go_ret2
  exact ⟨_,_,_,rfl,HR3.out,HF3.out⟩
end Go.Proofs.YtodcnbejnchmhaaGreatDoor
namespace Go.Mem
open Go.RowKit
section
variable {P : Program} {ops : Array Oper} {rest : List Oper} {o : Oper} {a : Act} {w : World} {Q : Exit → Act → World → Prop}
/-- two structs are told apart: in a region that draws its order,and in a plain one -/
theorem QmO {S : World → Prop} {t : TypeId} {x y : Operand} {z : TypeId} {cs ds : Array Value} {b : Bool} (hgd : Region.wanted o (yielded ops a.tmps) = true) (ho : o.op = .binOp .neq t x y z) (hx : a.eval x = .agg cs) (hy : a.eval y = .agg ds)
  (hg : ∀ w,(eqGuard .neq t x y (.agg cs) (.agg ds)).run P w = .ok () w) (h : ∀ w,(binOp .neq t (.agg cs) (.agg ds)).run P w = .ok (.bool b) w) : YieldsIf P ops S o (.bool b) a :=
 .inl ⟨hgd,fun w _ => by
  unfold execOp;simp only [ho,hx,hy,Sem.run_bind,hg,h,Result.andThen_ok,Sem.run_pure]⟩
end
end Go.Mem
namespace Go.Proofs.YtodcnbejnchmhaaGreatDoor
open Go.RowKit Go.Mem Go.Lin Go.Dcm
end Go.Proofs.YtodcnbejnchmhaaGreatDoor
namespace Go.Proofs.YtodcnbejnchmhaaGreatDoor
open _root_.Go.Proofs.Tryz
open Go.Rope hiding Bs
open Go.RowKit Go.Mem Go.Lin Go.Dcm

/- the document's answer: Fits,Do -/
theorem Ql8 (l : Bs) (w : World) (hl : l.length ≤ 20000) : Calls Tryz.prog 25 #[strV l] w fun e w' => ∃ A c,e = .returned (.slice A (Qah l + 1) c) ∧ Fr w w' (fun _ => False) := by
 refine (S3.QhX l w hl).mono ?_;rintro e w' ⟨v,rfl,hs,hf⟩;obtain ⟨A,c,rfl,-⟩ := S3.QgI hs;rw [Qb3];exact ⟨A,c,rfl,hf⟩
theorem Qi0 (l : Bs) (w : World) (x : Bool) (hx : x = true ↔ Fits l) : Calls Tryz.prog 12 #[strV l] w fun e w' => e = .returned (.bool x) ∧ Fr w w' (fun _ => False) := by
 have hz := Qal l;have HX := Xi hx;clear hx;by_cases h1 : l.length ≤ 20000
 ·have HL := Xi (Ql8 l w h1);have hf := QbM l;by_cases h2 : Qah l + 1 ≤ 400
  ·obtain rfl : x = true := HX.out.2 ⟨h1,h2⟩;have h3 : ((Qah l : Int) + 1) ≤ 400 := by omega
   go_enter func12,ntmps12;go_wp2_with fail;refine HL.out.mono ?_;rintro e w2 ⟨A,c,rfl,hf2⟩;have HF2 := Xi hf2;clear hf2;go_wp2_with fail;go_ret;exact ⟨by simp,HF2.out⟩
  ·obtain rfl : x = false := by rw [Bool.eq_false_iff]; intro e; exact h2 (HX.out.1 e).2
   go_enter func12,ntmps12;go_wp2_with fail;refine HL.out.mono ?_;rintro e w2 ⟨A,c,rfl,hf2⟩;have HF2 := Xi hf2;clear hf2;go_wp2_with fail;go_ret;exact ⟨by simp; omega,HF2.out⟩
 ·obtain rfl : x = false := by rw [Bool.eq_false_iff]; intro e; exact h1 (HX.out.1 e).1
  go_enter func12,ntmps12;go_wp2_with fail;go_ret;exact ⟨rfl,Fr.refl _ _⟩
/-- how many lines Do tells -/
def doD (l : Bs) (e : EdL) : Int := if (Qcc l e).2 = 0 then (Qah e.s : Int) + 1 else 0
def DoR (l : Bs) (e : EdL) (w : World) (en : Ending) (w' : World) : Prop := en = .returned (.tuple #[strV (Qcc l e).1,intV (doD l e),intV (Qcc l e).2]) ∧ Fr w w' (fun _ => False)
theorem Qlt {l : Bs} {e : EdL} {t : Bs} {k : Int} (h : Qcc l e = (t,k)) : doD l e = if k = 0 then (Qah e.s : Int) + 1 else 0 := by unfold doD; rw [h]
theorem Qpu {l : Bs} {i c : Int} {b : Nat} (h : S3.Qa9 l i c = ((b : Int),0)) : b ≤ l.length := by
 by_cases k : OkP l i c
 ·rw [Qfq k] at h;have := (Prod.mk.inj h).1;have := (Qf4 k).2.2.2;omega
 ·rw [Qg4 k] at h;exact absurd (Prod.mk.inj h).2 (by decide)
theorem QoE {l : Bs} {a b : Nat} {s : Bs} (hb : b ≤ l.length) (h : S3.Qb9 l (a : Int) (b : Int) s = ([],2)) : b < a := by
 refine Decidable.byContradiction fun hn => ?_;rw [Qjf s hb (by omega)] at h;split at h
 ·exact absurd (Prod.mk.inj h).2 (by decide)
 ·exact absurd (Prod.mk.inj h).2 (by decide)
theorem Qjg {l : Bs} {a b : Nat} {s t : Bs} {k : Int} (hk : k ≠ 2) (h : S3.Qb9 l (a : Int) (b : Int) s = (t,k)) : a ≤ b := by
 refine Decidable.byContradiction fun hn => ?_;rw [QgN s (by omega)] at h;exact hk (Prod.mk.inj h).2.symm
theorem Do_any (l : Bs) (e : EdL) (w : World) (hl : l.length ≤ 20000) (hz : e.s.length ≤ 20100) : Calls Tryz.prog 16 #[strV l,edV e] w (DoR l e w) := by
 have HO := Xi (fun (W : World) (o k : Int) (h : S3.Qa9 l e.l1 e.c1 = (o,k)) => S3.QgY l e.l1 e.c1 W hl o k h);have HP := Xi (fun (W : World) (o k : Int) (h : S3.Qa9 l e.l2 e.c2 = (o,k)) => S3.QgY l e.l2 e.c2 W hl o k h);have HSp := Xi (fun (W : World) (a b : Int) (t : Bs) (k : Int) (h : S3.Qb9 l a b e.s = (t,k)) => S3.QkL l a b e.s W hl hz t k h);unfold DoR;cases Qp4 l e with
 | no1 h1 hd =>
  rw [Qlt hd,hd];obtain ⟨⟨o2,k2⟩,h2⟩ : ∃ p,S3.Qa9 l e.l2 e.c2 = p := ⟨_,rfl⟩;have HO1 := Xi (fun (W : World) => HO.out W _ _ h1);have HP1 := Xi (fun (W : World) => HP.out W _ _ h2);obtain ⟨l1,c1,l2,c2,es⟩ := e;unfold edV edC;clear HO HP HSp h1 h2 hd;go_enter func16,ntmps16;go_wp2_with fail;refine (HO1.out _).mono ?_;rintro e w2 ⟨rfl,hf2⟩;have HB2 := Xi (hf2.blk (Blk.made w 37 #[intV l1,intV c1,intV l2,intV c2,strV es]) (fun h => h));have HF2 := Xi (ff0 (Fr.new w (.cells #[intV l1,intV c1,intV l2,intV c2,strV es] 37) (fun _ => False)) hf2);have c2' := blkc HB2.out 2 _ rfl;have c3' := blkc HB2.out 3 _ rfl;clear hf2;go_wp2_with fail;refine (HP1.out _).mono ?_;rintro e w3 ⟨rfl,hf3⟩;have HB3 := Xb hf3 HB2;have HF3 := Xi (ff0 HF2.out hf3);clear hf3 c2' c3';go_wp2_with fail
  go_ret3
  exact ⟨rfl,HF3.out⟩
 | no2 a h1 h2 hd =>
  rw [Qlt hd,hd];have HO1 := Xi (fun (W : World) => HO.out W _ _ h1);have HP1 := Xi (fun (W : World) => HP.out W _ _ h2);obtain ⟨l1,c1,l2,c2,es⟩ := e;unfold edV edC;clear HO HP HSp h1 h2 hd;go_enter func16,ntmps16;go_wp2_with fail;refine (HO1.out _).mono ?_;rintro e w2 ⟨rfl,hf2⟩;have HB2 := Xi (hf2.blk (Blk.made w 37 #[intV l1,intV c1,intV l2,intV c2,strV es]) (fun h => h));have HF2 := Xi (ff0 (Fr.new w (.cells #[intV l1,intV c1,intV l2,intV c2,strV es] 37) (fun _ => False)) hf2);have c2' := blkc HB2.out 2 _ rfl;have c3' := blkc HB2.out 3 _ rfl;clear hf2;go_wp2_with fail;refine (HP1.out _).mono ?_;rintro e w3 ⟨rfl,hf3⟩;have HB3 := Xb hf3 HB2;have HF3 := Xi (ff0 HF2.out hf3);clear hf3 c2' c3';go_wp2_with fail
  go_ret3
  exact ⟨rfl,HF3.out⟩
 | back a b h1 h2 h3 hd =>
  rw [Qlt hd,hd];have hba := QoE (Qpu h2) h3;have hba : (b : Int) < (a : Int) := by omega
  have HO1 := Xi (fun (W : World) => HO.out W _ _ h1);have HP1 := Xi (fun (W : World) => HP.out W _ _ h2);obtain ⟨l1,c1,l2,c2,es⟩ := e;unfold edV edC;clear HO HP HSp h1 h2 h3 hd;go_enter func16,ntmps16;go_wp2_with fail;refine (HO1.out _).mono ?_;rintro e w2 ⟨rfl,hf2⟩;have HB2 := Xi (hf2.blk (Blk.made w 37 #[intV l1,intV c1,intV l2,intV c2,strV es]) (fun h => h));have HF2 := Xi (ff0 (Fr.new w (.cells #[intV l1,intV c1,intV l2,intV c2,strV es] 37) (fun _ => False)) hf2);have c2' := blkc HB2.out 2 _ rfl;have c3' := blkc HB2.out 3 _ rfl;clear hf2;go_wp2_with fail;refine (HP1.out _).mono ?_;rintro e w3 ⟨rfl,hf3⟩;have HB3 := Xb hf3 HB2;have HF3 := Xi (ff0 HF2.out hf3);clear hf3 c2' c3';go_wp2_with fail
  go_ret3
  exact ⟨rfl,HF3.out⟩
 | large a b h1 h2 h3 hd =>
  rw [Qlt hd,hd];have hab := Qjg (by decide) h3;have hab : (a : Int) ≤ (b : Int) := by omega
  have HS1 := Xi (fun (W : World) => HSp.out W _ _ _ _ h3);have HO1 := Xi (fun (W : World) => HO.out W _ _ h1);have HP1 := Xi (fun (W : World) => HP.out W _ _ h2);obtain ⟨l1,c1,l2,c2,es⟩ := e;unfold edV edC;clear HO HP HSp h1 h2 h3 hd;go_enter func16,ntmps16;go_wp2_with fail;refine (HO1.out _).mono ?_;rintro e w2 ⟨rfl,hf2⟩;have HB2 := Xi (hf2.blk (Blk.made w 37 #[intV l1,intV c1,intV l2,intV c2,strV es]) (fun h => h));have HF2 := Xi (ff0 (Fr.new w (.cells #[intV l1,intV c1,intV l2,intV c2,strV es] 37) (fun _ => False)) hf2);have c2' := blkc HB2.out 2 _ rfl;have c3' := blkc HB2.out 3 _ rfl;clear hf2;go_wp2_with fail;refine (HP1.out _).mono ?_;rintro e w3 ⟨rfl,hf3⟩;have HB3 := Xb hf3 HB2;have HF3 := Xi (ff0 HF2.out hf3);clear hf3 c2' c3';have c4' := blkc HB3.out 4 _ rfl;go_wp2_with fail;refine (HS1.out _).mono ?_;rintro e w4 ⟨rfl,hf4⟩;have HB4 := Xb hf4 HB3;have HF4 := Xi (ff0 HF3.out hf4);clear hf4 c4';go_wp2_with fail
  go_ret3
  exact ⟨rfl,HF4.out⟩
 | many a b t h1 h2 h3 ht hm hd =>
  rw [Qlt hd,hd];have hab := Qjg (by decide) h3;have hab : (a : Int) ≤ (b : Int) := by omega
  have HS1 := Xi (fun (W : World) => HSp.out W _ _ _ _ h3);have HT1 := Xi (fun (W : World) => Qi0 t W false (by unfold Fits; simp; omega));have HO1 := Xi (fun (W : World) => HO.out W _ _ h1);have HP1 := Xi (fun (W : World) => HP.out W _ _ h2);obtain ⟨l1,c1,l2,c2,es⟩ := e;unfold edV edC;clear HO HP HSp h1 h2 h3 hd;go_enter func16,ntmps16;go_wp2_with fail;refine (HO1.out _).mono ?_;rintro e w2 ⟨rfl,hf2⟩;have HB2 := Xi (hf2.blk (Blk.made w 37 #[intV l1,intV c1,intV l2,intV c2,strV es]) (fun h => h));have HF2 := Xi (ff0 (Fr.new w (.cells #[intV l1,intV c1,intV l2,intV c2,strV es] 37) (fun _ => False)) hf2);have c2' := blkc HB2.out 2 _ rfl;have c3' := blkc HB2.out 3 _ rfl;clear hf2;go_wp2_with fail;refine (HP1.out _).mono ?_;rintro e w3 ⟨rfl,hf3⟩;have HB3 := Xb hf3 HB2;have HF3 := Xi (ff0 HF2.out hf3);clear hf3 c2' c3';have c4' := blkc HB3.out 4 _ rfl;go_wp2_with fail;refine (HS1.out _).mono ?_;rintro e w4 ⟨rfl,hf4⟩;have HB4 := Xb hf4 HB3;have HF4 := Xi (ff0 HF3.out hf4);clear hf4 c4';go_wp2_with fail;refine (HT1.out _).mono ?_;rintro e w5 ⟨rfl,hf5⟩;have HF5 := Xi (ff0 HF4.out hf5);clear hf5;go_wp2_with fail
  go_ret3
  exact ⟨rfl,HF5.out⟩
 | ok i j a b t hi hj h1 h2 h3 ht hm hd hs hab hij hc =>
  rw [Qlt hd,hd];have hab : (a : Int) ≤ (b : Int) := by omega
  have hel : e.s.length ≤ 20000 := by
   rw [hc,List.length_append,List.length_append] at ht;omega
  have HS1 := Xi (fun (W : World) => HSp.out W _ _ _ _ h3);have HT1 := Xi (fun (W : World) => Qi0 t W true (by unfold Fits; simp; omega));have HL1 := Xi (fun (W : World) => Ql8 e.s W hel);have hfs := QbM e.s;have HO1 := Xi (fun (W : World) => HO.out W _ _ h1);have HP1 := Xi (fun (W : World) => HP.out W _ _ h2);obtain ⟨l1,c1,l2,c2,es⟩ := e;unfold edV edC;clear HO HP HSp h1 h2 h3 hd hs hc hi hj;go_enter func16,ntmps16;go_wp2_with fail;refine (HO1.out _).mono ?_;rintro e w2 ⟨rfl,hf2⟩;have HB2 := Xi (hf2.blk (Blk.made w 37 #[intV l1,intV c1,intV l2,intV c2,strV es]) (fun h => h));have HF2 := Xi (ff0 (Fr.new w (.cells #[intV l1,intV c1,intV l2,intV c2,strV es] 37) (fun _ => False)) hf2);have c2' := blkc HB2.out 2 _ rfl;have c3' := blkc HB2.out 3 _ rfl;clear hf2;go_wp2_with fail;refine (HP1.out _).mono ?_;rintro e w3 ⟨rfl,hf3⟩;have HB3 := Xb hf3 HB2;have HF3 := Xi (ff0 HF2.out hf3);clear hf3 c2' c3';have c4' := blkc HB3.out 4 _ rfl;go_wp2_with fail;refine (HS1.out _).mono ?_;rintro e w4 ⟨rfl,hf4⟩;have HB4 := Xb hf4 HB3;have HF4 := Xi (ff0 HF3.out hf4);clear hf4 c4';go_wp2_with fail;refine (HT1.out _).mono ?_;rintro e w5 ⟨rfl,hf5⟩;have HF5 := Xi (ff0 HF4.out hf5);have c4' := blkc (hf5.blk HB4.out (fun h => h)) 4 _ rfl;clear hf5;go_wp2_with fail;refine (HL1.out _).mono ?_;rintro e w6 ⟨A6,c6,rfl,hf6⟩;have HF6 := Xi (ff0 HF5.out hf6);clear hf6;go_wp2_with fail
  go_ret3
  exact ⟨rfl,HF6.out⟩
end Go.Proofs.YtodcnbejnchmhaaGreatDoor
namespace Go.Mem
open Go.RowKit
section
variable {P : Program} {ops : Array Oper} {rest : List Oper} {o : Oper} {a : Act} {w : World} {Q : Exit → Act → World → Prop}
/-- a slice of one element is made: the world Qak it is opaque -/
theorem Qkc {t e : TypeId} {y : Operand} {v : Value} (cs : Array Value) (hgd : Region.wanted o (yielded ops a.tmps) = true) (ho : o.op = .buildSlice t 1 #[(0,y)]) (hy : a.eval y = v)
  (hm : ∀ w,(Instr.buildSlice t 1 #[(0,v)]).run P w = .ok (.slice (some ⟨w.heap.size,0,none⟩) 1 1) (w.alloc (.cells cs e)))
  (h : ∀ W,Fr w W (fun _ => False) → W.heap.size = w.heap.size + 1 → Blk W w.heap.size e cs → Rd W cs.size (some ⟨w.heap.size,0,none⟩) 1 cs.toList → wpList P ops Q rest (a.put o.dst (.slice (some ⟨w.heap.size,0,none⟩) 1 1)) W) : wpList P ops Q (o :: rest) a w :=
 wpList_step fun _ hK => by
  rw [if_pos hgd];unfold Oper.wp execOp;simp only [ho,Sem.run_bind,List.map_toArray,List.map_cons,List.map_nil,hy,hm,Result.andThen_ok];refine hK _ _ (h _ (Fr.new w _ _) (by simp) (Blk.made w e cs) ?_);refine ⟨by simp,fun _ => ⟨w.heap.size,0,rfl,fun j u hu => ?_⟩⟩;have := Qaa (Blk.made w e cs) j;rw [Nat.zero_add,this];simpa using hu
end
end Go.Mem
namespace Go.Proofs.YtodcnbejnchmhaaGreatDoor
open Go.RowKit Go.Mem Go.Lin Go.Dcm
/-- one element more: the row Qak it,the world opaque -/
theorem QhA {P : Program} {ops : Array Oper} {rest : List Oper} {o : Oper} {a : Act} {w : World} {Q : Exit → Act → World → Prop} {X : Type} {f : X → List Value} {l : List X} (s y : Operand) (t : TypeId)
  (hgd : o.guard = none) (ho : o.op = .call { callee := .builtin .append,args := #[s,y],argTypes := #[t,t] })
  (base : Nat) (e : TypeId) (z : Value) (size bytes : Nat) (ht : P.underlying t = some (.slice e)) (hi : (P.info? e).map (fun i => (i.zero,i.size,i.bytes)) = some (some z,size,bytes)) (hzs : z.cells.size = size) (hsz : 0 < size)
  (v : Value) (hs : a.eval s = v) (hown : Own w base e size f v l) (A : Option Addr) (c : Nat) (x : X) (cs : List Value) (hx : a.eval y = .slice A 1 c) (hr : Rd w size A 1 cs) (hcs : cs = f x) (h1 : ∀ u ∈ cs,u.oneCell' = true)
  (h63 : l.length ≤ 100000) (hby : bytes ≤ 1000) (hbase : base ≤ w.heap.size)
  (h : ∀ A9 c9 w9,Own w9 base e size f (.slice A9 (l.length + 1) c9) (l ++ [x]) → Fr w w9 (fun i => some i = v.ownBlock) → wpList P ops Q rest (a.put o.dst (.slice A9 (l.length + 1) c9)) w9) : wpList P ops Q (o :: rest) a w := by
 obtain ⟨i0,hi0,hz0,hz1,hz2⟩ := info_parts hi;refine QaF w hgd s y t ho base e i0 z size bytes ht hi0 hz0 hz1 hz2 hzs hsz v l.length _ hs hown A 1 c cs hx hr h1 (by simp only [maxLen]; omega) ?_ hbase ?_
 ·have : (l.length + 1) * bytes ≤ 100001 * 1000 := Nat.mul_le_mul (by omega) hby
  omega
 ·intro v9 w9 hown9 hg9 _;obtain ⟨A9,c9,rfl⟩ := Go.Mem.Qcf hown9;exact h A9 c9 w9 (own_more hown9 hcs) (Fr.ofGrown hg9)
namespace R
/-- v owns a row of zones,the last one's rows Qak all others' -/
def ZsAt (w : World) (base : Nat) (v : Value) (zs : List ZoneL) : Prop := ∃ (zv : List ZV) (M : Nat),zv.map (·.1) = zs ∧ Own w base 95 3 Qfb v zv ∧ (∀ x ∈ zv,ZAt w base x) ∧ base ≤ M ∧ M ≤ w.heap.size ∧
 ∀ a x,zv = a ++ [x] → ZAt w M x ∧ ∀ y ∈ a,Under M y
theorem ZsAt.fr {w w' : World} {S : Nat → Prop} {base : Nat} {v : Value} {zs : List ZoneL} (h : ZsAt w base v zs) (hf : Fr w w' S) (h0 : ∀ k cs,base ≤ k → Blk w k 95 cs → ¬ S k) (h1 : ∀ k cs,base ≤ k → Blk w k 69 cs → ¬ S k) (h2 : ∀ k cs,base ≤ k → Blk w k 3 cs → ¬ S k) : ZsAt w' base v zs := by
 obtain ⟨zv,M,e,ho,hz,hb,hM,hl⟩ := h;refine ⟨zv,M,e,ho.fr hf fun g hg => ?_,fun x hx => (hz x hx).fr hf h1 h2,hb,Nat.le_trans hM hf.size,fun a x ex => ?_⟩
 ·obtain ⟨hb,-,cs,hk⟩ := Qdx ho hg;exact h0 g cs hb hk
 ·obtain ⟨k1,k2⟩ := hl a x ex;exact ⟨k1.fr hf (fun k cs hk => h1 k cs (by omega)) (fun k cs hk => h2 k cs (by omega)),k2⟩
/-- the rows of a state -/
structure GR (w : World) (B : Nat) (vr vz vl vd : Value) (s : StL) : Prop where
 r : Own w B 91 12 Qng vr s.rules
 z : ZsAt w B vz s.zones
 l : Own w B 99 3 QnE vl s.links
 d : Own w B 125 4 QnZ vd s.diags
theorem GR.kept {w w' : World} {B : Nat} {vr vz vl vd : Value} {s : StL} (h : GR w B vr vz vl vd s) (hf : Fr w w' (fun _ => False)) : GR w' B vr vz vl vd s :=
 ⟨h.r.kept hf,h.z.fr hf (fun _ _ _ _ h => h) (fun _ _ _ _ h => h) (fun _ _ _ _ h => h),h.l.kept hf,h.d.kept hf⟩
theorem GR.base {w : World} {B : Nat} {vr vz vl vd : Value} {s : StL} (h : GR w B vr vz vl vd s) : B ≤ w.heap.size := by
 obtain ⟨zv,M,-,-,-,h1,h2,-⟩ := h.z;omega
/-- what is known where an era is told of an open zone -/
structure OpenZ (w : World) (B M bz cap : Nat) (a : List ZV) (y : ZV) (vr vl vd : Value) (s : StL) : Prop where
 oz : Own w B 95 3 Qfb (.slice (some ⟨bz,0,none⟩) (a.length + 1) cap) (a ++ [y])
 ha : ∀ z ∈ a,ZAt w B z
 hu : ∀ z ∈ a,Under M z
 hy : ZAt w M y
 hB : B ≤ M
 hM : M ≤ w.heap.size
 r : Own w B 91 12 Qng vr s.rules
 l : Own w B 99 3 QnE vl s.links
 d : Own w B 125 4 QnZ vd s.diags
theorem OpenZ.kept {w w' : World} {B M bz cap : Nat} {a : List ZV} {y : ZV} {vr vl vd : Value} {s : StL} (h : OpenZ w B M bz cap a y vr vl vd s) (hf : Fr w w' (fun _ => False)) : OpenZ w' B M bz cap a y vr vl vd s :=
 ⟨h.oz.kept hf,fun z hz => (h.ha z hz).kept hf,h.hu,h.hy.kept hf,h.hB,Nat.le_trans h.hM hf.size,h.r.kept hf,h.l.kept hf,h.d.kept hf⟩
theorem OpenZ.cells {w : World} {B M bz cap : Nat} {a : List ZV} {y : ZV} {vr vl vd : Value} {s : StL} (h : OpenZ w B M bz cap a y vr vl vd s) : ∃ cs : Array Value,B ≤ bz ∧ Blk w bz 95 cs ∧ a.length * 3 + 2 < cs.size ∧ cs[a.length * 3 + 1]? = some y.2.1 ∧ cs[a.length * 3 + 2]? = some y.2.2 := by
 obtain ⟨cs,h1,h2,h3,h4⟩ := Qps h.oz (by simp);have hl := QlQ a;have hx : ∀ j,j < 3 → ((a ++ [y]).flatMap Qfb)[a.length * 3 + j]? = (Qfb y)[j]? := fun j hj => QeC Qfb 3 Qgw (by simp) j hj;refine ⟨cs,h1,h2,?_,h4 _ _ (hx 1 (by omega)),h4 _ _ (hx 2 (by omega))⟩;rw [List.length_append] at h3;simp only [List.length_cons,List.length_nil] at h3;omega
/-- the document at D holds the state s -/
def At (w : World) (D B : Nat) (s : StL) : Prop := D < B ∧ ∃ vr vz vl vd,Blk w D 51 #[vr,vz,vl,vd] ∧ GR w B vr vz vl vd s
theorem At.kept {w w' : World} {D B : Nat} {s : StL} (h : At w D B s) (hf : Fr w w' (fun _ => False)) : At w' D B s := by
 obtain ⟨h0,vr,vz,vl,vd,h1,h2⟩ := h;exact ⟨h0,vr,vz,vl,vd,hf.blk h1 (fun h => h),h2.kept hf⟩
/-- only the block i turns,which is of another type than the rows -/
theorem GR.far {w w' : World} {B q : Nat} {e : TypeId} {cs : Array Value} {vr vz vl vd : Value} {s : StL} (h : GR w B vr vz vl vd s) (hf : Fr w w' (fun i => i = q)) (hq : Blk w q e cs) (h1 : 91 ≠ e) (h2 : 95 ≠ e) (h3 : 99 ≠ e) (h4 : 125 ≠ e) (h5 : 69 ≠ e) (h6 : 3 ≠ e) : GR w' B vr vz vl vd s := by
 have key : ∀ {X : Type} {b : Nat} {e' : TypeId} {k : Nat} {f : X → List Value} {v : Value} {l : List X},e' ≠ e → Own w b e' k f v l → Own w' b e' k f v l := fun hne ho =>
  QkY ho hf fun i cs' _ hb e => by subst e; exact hne (QcA hb hq)
 exact ⟨key h1 h.r,h.z.fr hf (fun i cs' _ hb e => by subst e; exact h2 (QcA hb hq)) (fun i cs' _ hb e => by subst e; exact h5 (QcA hb hq)) (fun i cs' _ hb e => by subst e; exact h6 (QcA hb hq)),key h3 h.l,key h4 h.d⟩
end R
end Go.Proofs.YtodcnbejnchmhaaGreatDoor
