import Derived.Test.YtodcnbejnchmhaaGreatDoorYc39
import Derived.Laws.OwnMore
import Derived.Test.YtodcnbejnchmhaaGreatDoorYc32
import Derived.Test.YtodcnbejnchmhaaGreatDoorYc24
import Derived.Lib.SliceRun
import Derived.Test.YtodcnbejnchmhaaGreatDoorYc33
set_option maxRecDepth 100000
set_option maxHeartbeats 3200000
namespace Go.Proofs.YtodcnbejnchmhaaGreatDoor
open Go.RowKit Go.Mem Go.Lin Go.Dcm

theorem Qgq : (Tryz.prog.info? 71).map (fun i => (i.zero,i.size,i.bytes)) = some (some (.agg (Qad Qae)),29,280) := by kernel_rfl
theorem Qh3 (n : Nat) : (madeCells (Qad Qae) (n * 29)).toList = (List.replicate n Qae).flatMap Qa1 := by
 apply List.ext_getElem?;intro j;by_cases hj : j < n * 29
 ·have h1 : (List.replicate n Qae)[j / 29]? = some Qae := by
   rw [List.getElem?_replicate,if_pos (by omega)]
  have h2 := QeC Qa1 29 Qbh h1 (j % 29) (Nat.mod_lt _ (by omega));rw [show j / 29 * 29 + j % 29 = j by omega] at h2;rw [h2];have hs : (Qad Qae).size = 29 := rfl;have hm : j % 29 < (Qad Qae).size := Nat.mod_lt _ (by decide);have e1 : (Qa1 Qae)[j % 29]? = some (Qad Qae)[j % 29] := by
   show (Qad Qae).toList[j % 29]? = _;rw [Array.getElem?_toList,Array.getElem?_eq_getElem hm]
  rw [e1];simp only [madeCells,Array.toList_map,Array.toList_range,List.getElem?_map,List.getElem?_range hj,Option.map_some,hs];rw [getElem!_pos (Qad Qae) (j % 29) hm]
 ·rw [List.getElem?_eq_none (by simp [madeCells]; omega),List.getElem?_eq_none (by rw [Qbk Qa1 29 Qbh]; simp; omega)]
/-- a row of structs,one of them turned -/
theorem QpB {X : Type} (f : X → List Value) (k : Nat) (hf : ∀ x,(f x).length = k) (a : List X) (x y : X) (b : List X) : Qbz ((a ++ x :: b).flatMap f).toArray (a.length * k) (f y) = ((a ++ y :: b).flatMap f).toArray := by
 have ha := Qbk f k hf a;refine Qdm (by simp [hf,ha] <;> omega) ?_;simp only [List.flatMap_append,List.flatMap_cons];have e : (a.flatMap f ++ (f x ++ b.flatMap f)).drop (a.length * k + (f y).length) = b.flatMap f := by
  rw [← List.append_assoc,List.drop_left' (by rw [List.length_append,hf,hf,ha])]
 rw [e,List.take_left' ha]
theorem Qhe {w : World} {b : Nat} {l : List LineL} (h : Blk w b 71 (l.flatMap Qa1).toArray) : LinesAt w (some ⟨b,0,none⟩) l := by
 refine ⟨Qbk Qa1 29 Qbh l,fun _ => ⟨b,0,rfl,fun j u hu => ?_⟩⟩;have := Qaa h j;rw [Nat.zero_add,this];simpa using hu
end Go.Proofs.YtodcnbejnchmhaaGreatDoor
namespace Go.Proofs.YtodcnbejnchmhaaGreatDoor
open _root_.Go.Proofs.Tryz
open Go.Rope hiding Bs
open Go.RowKit Go.Mem Go.Lin Go.Dcm

/- a rope,Qak what turns no node and no rope -/
theorem S3.NodeAt.far {w w' : World} {B B' : Nat} {v : Value} {s : Bs} {h : Nat} {S : Nat → Prop} (n : S3.NodeAt w B v s h) (hf : Fr w w' S) (hS : ∀ k cs,Blk w k 192 cs → ¬ S k) (hB : B ≤ B') : S3.NodeAt w' B' v s h := by
 induction n with
 | empty => exact .empty
 | leaf hg hk h0 h1 => exact .leaf (by omega) (hf.blk hk (hS _ _ hk)) h0 h1
 | pair hg hk na nb h1 h2 h3 h4 iha ihb => exact .pair (by omega) (hf.blk hk (hS _ _ hk)) iha ihb h1 h2 h3 h4
theorem S3.RopeAt.far {w w' : World} {v x : Value} {l : Bs} {h : Nat} {S : Nat → Prop} (r : S3.RopeAt w v x l h) (hf : Fr w w' S) (hn : ∀ k cs,Blk w k 192 cs → ¬ S k) (hr : ∀ k cs,Blk w k 155 cs → ¬ S k) : S3.RopeAt w' v x l h := by
 refine ⟨r.1.far hf hn hf.size,?_⟩;rcases r.2 with h | ⟨g,h1,h2⟩
 ·exact .inl h
 ·exact .inr ⟨g,h1,hf.blk h2 (hr _ _ h2)⟩
abbrev pT (g : Nat) : Value := .pointer (some ⟨g,0,none⟩)
/-- the cells of what a text's lines say -/
def Qir (l : Bs) : Array Value := ((Qdh l).flatMap Qa1).toArray
/-- the value v is what a text's lines say,or it is nil,of the empty text -/
def LsAt (w : World) (v : Value) (l : Bs) : Prop := (v = .slice none 0 0 ∧ l = []) ∨ ∃ b,v = .slice (some ⟨b,0,none⟩) (Qah l + 1) (Qah l + 1) ∧ Blk w b 71 (Qir l)
/-- a table of the text l at g; n: how many lines were read -/
structure TabAt (w : World) (g : Nat) (l : Bs) (n : Int) : Prop where
 fits : Fits l
 ex : ∃ vr vl x h,Blk w g 74 #[vr,vl,intV n] ∧ S3.RopeAt w vr x l h ∧ LsAt w vl l
theorem TabAt.kept {w w' : World} {g : Nat} {l : Bs} {n : Int} (h : TabAt w g l n) (hf : Fr w w' (fun _ => False)) : TabAt w' g l n := by
 obtain ⟨vr,vl,x,k,h1,h2,h3⟩ := h.ex;refine ⟨h.fits,vr,vl,x,k,hf.blk h1 (fun h => h),h2.keep hf,?_⟩;rcases h3 with h3 | ⟨b,e,hb⟩
 ·exact .inl h3
 ·exact .inr ⟨b,e,hf.blk hb (fun h => h)⟩
/-- a table,Qak what turns another one -/
theorem TabAt.far {w w' : World} {g g' : Nat} {l : Bs} {n : Int} {cs : Array Value} (h : TabAt w g l n) (hf : Fr w w' (fun k => k = g')) (hb : Blk w g' 74 cs) (hne : g ≠ g') : TabAt w' g l n := by
 obtain ⟨vr,vl,x,k,h1,h2,h3⟩ := h.ex;refine ⟨h.fits,vr,vl,x,k,hf.blk h1 hne,h2.far hf (fun k cs hk e => ?_) (fun k cs hk e => ?_),?_⟩
 ·subst e;exact absurd (QcA hk hb) (by decide)
 ·subst e;exact absurd (QcA hk hb) (by decide)
 ·rcases h3 with h3 | ⟨b,e,hl⟩
  ·exact .inl h3
  ·exact .inr ⟨b,e,hf.blk hl (fun e => by subst e; exact absurd (QcA hl hb) (by decide))⟩
theorem TabAt.blk {w : World} {g : Nat} {l : Bs} {n : Int} (h : TabAt w g l n) : ∃ cs,Blk w g 74 cs := by
 obtain ⟨vr,vl,x,k,h1,-⟩ := h.ex;exact ⟨_,h1⟩
theorem tab_zero (w : World) : TabAt (w.alloc (.cells #[.pointer none,.slice none 0 0,intV 0] 74)) w.heap.size [] 0 :=
 ⟨by decide,_,_,_,_,Blk.made w 74 _,S3.RopeAt.nil _,.inl ⟨rfl,rfl⟩⟩
theorem says_nil : Qdh [] = [Qae] := by
 have h : Qb8 [] = Qae := by decide +kernel
 show [Qb8 (Qcn [])] = _;rw [show Qcn [] = [] from rfl,h]
theorem QoH : Qir [] = Qad Qae := by
 unfold Qir;rw [says_nil];rfl
theorem Qco (w : World) (g : Nat) : (binOp .eql 25 (pT g) (.pointer none)).run Tryz.prog w = .ok (.bool false) w := by kernel_rfl
theorem QjY : ∀ (w : World) (a : Option Addr) (n c n' c' : Nat),(binOp .eql 31 (.slice a n c) (.slice none n' c')).run Tryz.prog w = .ok (.bool a.isNone) w := fun w a n c n' c' => Lib.run_eql_slice_nil w _ _ a n c n' c' underlying31
/-- what kept answers -/
def KeptR (w : World) (l : Bs) (e : Ending) (w' : World) : Prop := ∃ b,e = .returned (.slice (some ⟨b,0,none⟩) (Qah l + 1) (Qah l + 1)) ∧ Blk w' b 71 (Qir l) ∧ Fr w w' (fun _ => False)
theorem Qk7 (w : World) : ∃ w',(Instr.makeSlice 31 (intV 1) (intV 1)).run Tryz.prog w = .ok (.slice (some ⟨w.heap.size,0,none⟩) 1 1) w' ∧ Blk w' w.heap.size 71 (Qir []) ∧ Fr w w' (fun _ => False) := by
 obtain ⟨i0,hi0,hz0,hz1,hz2⟩ := info_parts Qgq;obtain ⟨wM,hrun,hownM,hgM⟩ := run_make_full (P := Tryz.prog) w 0 31 71 i0 _ 29 underlying31 hi0 hz0 hz1 .i64 .i64 1 (by rw [hz2]; omega) (by simp only [maxLen]; omega) (Nat.zero_le _);have hfM : Fr w wM (fun _ => False) := (Fr.ofGrown hgM).mono (fun i _ h => by cases h);refine ⟨wM,hrun,?_,hfM⟩;rcases hownM.2 with ⟨h',-⟩ | ⟨g',cap',cur,h',hb,hg,hnc,hcm,hcs,ht⟩
 ·simp at h'
 ·injection h' with h1 h2 h3;injection h1 with h1;injection h1 with h1;subst h1 h3;rw [List.take_of_length_le (by rw [Array.length_toList,hcs]; exact Nat.le_refl _)] at ht;rw [QoH];have e1 : (Value.agg (Qad Qae)).cells = Qad Qae := rfl;rw [e1,Qh3,show List.replicate 1 Qae = [Qae] from rfl,List.flatMap_singleton] at ht;have : cur = Qad Qae := Array.toList_inj.1 ht;rw [← this];exact hg
theorem Qmp {w : World} {g : Nat} {l : Bs} {n : Int} (h : TabAt w g l n) : Calls Tryz.prog 27 #[pT g] w (KeptR w l) := by
 obtain ⟨vr,vl,x,k,h1,h2,h3⟩ := h.ex;have hne := fun w => Qco w g;have hq := QjY;have c1 := blkc h1 1 _ rfl;rcases h3 with ⟨rfl,rfl⟩ | ⟨b,rfl,hb⟩
 ·obtain ⟨wM,hrun,hbM,hfM⟩ := Qk7 w;have HB := Xi hbM;have HF := Xi hfM;clear h h1 h2 hbM hfM;go_enter func27,ntmps27;go_wp2_with fail;go_ret;exact ⟨_,rfl,HB.out,HF.out⟩
 ·have HB := Xi hb;clear h h1 h2 hb;go_enter func27,ntmps27;go_wp2_with fail;go_ret;exact ⟨_,rfl,HB.out,Fr.refl _ _⟩
/-- the first i of them said -/
def saD (L : List Bs) (i : Nat) : List LineL := (L.take i).map sayD ++ List.replicate (L.length - i) Qae
theorem sa_len (L : List Bs) (i : Nat) (h : i ≤ L.length) : (saD L i).length = L.length := by
 unfold saD;rw [List.length_append,List.length_map,List.length_take,List.length_replicate];omega
theorem sa_all (L : List Bs) : saD L L.length = L.map sayD := by simp [saD]
theorem sa_none (L : List Bs) : saD L 0 = List.replicate L.length Qae := by simp [saD]
theorem sa_step (L : List Bs) (i : Nat) (h : i < L.length) : Qbz ((saD L i).flatMap Qa1).toArray (i * 29) (Qad (sayD L[i])).toList = ((saD L (i + 1)).flatMap Qa1).toArray := by
 have e1 : saD L i = (L.take i).map sayD ++ Qae :: List.replicate (L.length - (i + 1)) Qae := by
  unfold saD;rw [show L.length - i = (L.length - (i + 1)) + 1 by omega,List.replicate_succ]
 have e2 : saD L (i + 1) = (L.take i).map sayD ++ sayD L[i] :: List.replicate (L.length - (i + 1)) Qae := by
  unfold saD;rw [List.take_succ_eq_append_getElem h,List.map_append,List.append_assoc];rfl
 have := QpB Qa1 29 Qbh ((L.take i).map sayD) Qae (sayD L[i]) (List.replicate (L.length - (i + 1)) Qae);rw [List.length_map,List.length_take,Nat.min_eq_left (Nat.le_of_lt h)] at this;rw [e1,e2];exact this
/-- rows of zero lines -/
theorem Qh4 (w : World) (n : Nat) (hn : n ≤ 100000) : ∃ w',(Instr.makeSlice 31 (intV n) (intV n)).run Tryz.prog w = .ok (.slice (some ⟨w.heap.size,0,none⟩) n n) w' ∧ Blk w' w.heap.size 71 ((List.replicate n Qae).flatMap Qa1).toArray ∧ Fr w w' (fun _ => False) := by
 obtain ⟨i0,hi0,hz0,hz1,hz2⟩ := info_parts Qgq;obtain ⟨wM,hrun,hownM,hgM⟩ := run_make_full (P := Tryz.prog) w 0 31 71 i0 _ 29 underlying31 hi0 hz0 hz1 .i64 .i64 n (by rw [hz2]; omega) (by simp only [maxLen]; omega) (Nat.zero_le _);have hfM : Fr w wM (fun _ => False) := (Fr.ofGrown hgM).mono (fun i _ h => by cases h);refine ⟨wM,hrun,?_,hfM⟩;rcases hownM.2 with ⟨h',-⟩ | ⟨g',cap',cur,h',hb,hg,hnc,hcm,hcs,ht⟩
 ·simp at h'
 ·injection h' with h1 h2 h3;injection h1 with h1;injection h1 with h1;subst h1 h3;rw [List.take_of_length_le (by rw [Array.length_toList,hcs]; exact Nat.le_refl _)] at ht;have e : (Value.agg (Qad Qae)).cells = Qad Qae := rfl;rw [e,Qh3] at ht;rw [← ht];exact hg
/-- what the lines from i on of the rope's text are -/
def From (t : Bs) (i : Nat) (L : List Bs) : Prop := ∀ k,k < L.length → i + k ≤ Qah t ∧ L[k]? = some (cut t (Qak t (i + k)) (Qbj t (i + k)))
def SayI (w : World) (L : List Bs) (q : Nat) (k : Nat) (v : Value) (wr : World) : Prop := ∃ i : Nat,i + k = L.length ∧ v = intV (i : Int) ∧ Blk wr q 71 ((saD L i).flatMap Qa1).toArray ∧ w.heap.size ≤ q ∧ Fr w wr (fun _ => False)
theorem say_any {w : World} {v x : Value} {t : Bs} {h : Nat} (r : S3.RopeAt w v x t h) (ht : t.length ≤ 20000) (hw : LOk w) (i m : Nat) (L : List Bs) (hL : L.length = m) (hm : m ≤ 30000) (hl : From t i L) :
  Calls Tryz.prog 33 #[lineF v,intV i,intV m] w fun e w' => ∃ q,e = .returned (.slice (some ⟨q,0,none⟩) m m) ∧ Blk w' q 71 ((L.map sayD).flatMap Qa1).toArray ∧ Fr w w' (fun _ => False) := by
 subst hL;obtain ⟨wM,hrun,hbM,hfM⟩ := Qh4 w L.length (by omega);have HI := Xi (show SayI w L w.heap.size L.length (intV 0) wM from ⟨0,by simp,rfl,by rw [sa_none]; exact hbM,Nat.le_refl _,hfM⟩);have HW := Xi (fun (W : World) (f : Fr w W (fun _ => False)) => hw.fr f);have HR := Xi (fun (W : World) (f : Fr w W (fun _ => False)) (k : Nat) (hk : k ≤ Qah t) => S3.Line_any (r.keep f) ht (k : Int) (cut t (Qak t k) (Qbj t k)) 0 (by unfold S3.lineD; rw [if_pos ⟨by omega,by omega⟩,Int.toNat_natCast]));have HL := Xi hl;have hft := QbM t;clear r hw hl hbM hfM;go_enter func33,ntmps33;go_wp2_with fail
 go_loopg [8,9,10,15] L.length (fun k _ _ _ v15 wr => SayI w L w.heap.size k v15 wr)
 case atStart => exact HI.out
 case round =>
  obtain ⟨k,hik,rfl,hb,hq,hf⟩ := hrel;have HB := Xi hb;have HF := Xi hf;by_cases hlt : k < L.length
  ·obtain ⟨hk1,hk2⟩ := HL.out k hlt;rw [List.getElem?_eq_getElem hlt] at hk2;have hk2 := Option.some.inj hk2;have HLn := Xi (HR.out wr hf (i + k) hk1);have hf0 := QnG hk1;have hle : (cut t (Qak t (i + k)) (Qbj t (i + k))).length ≤ 20000 := by
    have := QeG t (i + k);rw [Go.Rope.Qde,List.length_take,List.length_drop];omega
   rw [← hk2] at HLn hf0 hle;have HU := Xi (sa_step L k hlt);have hi1 : (k : Int) < (L.length : Int) := by omega
   obtain ⟨y,hy⟩ : ∃ y,L[k] = y := ⟨_,rfl⟩;rw [hy] at HLn hf0 hle HU;obtain ⟨z,hz⟩ : ∃ z,sayD y = z := ⟨_,rfl⟩;rw [hz] at HU;have hal := Qla hf0;have hsl := Ql1 y;have HD := Xi (fun (W : World) (f : Fr w W (fun _ => False)) => Qn1 y W (HW.out W f).kwd (by omega));rw [hal] at HD;obtain ⟨y2,hy2⟩ : ∃ y2,Qcn y = y2 := ⟨_,rfl⟩;have hz2 : Qb8 y2 = z := by rw [← hy2]; exact hz
   rw [hy2] at HD hsl;have HP := Xi (fun (W : World) (f : Fr w W (fun _ => False)) => QkX y2 z W (HW.out W f) (by omega) hz2);have hsz : k * 29 + 29 ≤ ((saD L k).flatMap Qa1).toArray.size := by
    rw [List.size_toArray,Qbk Qa1 29 Qbh,sa_len L k (by omega)];omega
   obtain ⟨C1,hC1⟩ : ∃ C,((saD L k).flatMap Qa1).toArray = C := ⟨_,rfl⟩;obtain ⟨C2,hC2⟩ : ∃ C,((saD L (k + 1)).flatMap Qa1).toArray = C := ⟨_,rfl⟩;rw [hC1] at HB hsz;rw [hC1,hC2] at HU;have HC2 := Xi hC2;have hk3 : (i : Int) + (k : Int) ≤ 20000 := by omega
   have hk4 : ((i + k : Nat) : Int) = (i : Int) + (k : Int) := by omega
   rw [hk4] at HLn;clear hb hf hk1 hk2 hy hz hal hy2 hz2 hC1 hC2 hf0 hk4;go_wp2_with fail;refine HLn.out.mono ?_;rintro e w3 ⟨rfl,hf3⟩;have HB3 := Xb hf3 HB;have HF3 := Xi (ff0 HF.out hf3);have HD3 := Xi (HD.out w3 (ff0 HF.out hf3));clear hf3;go_wp2_with fail;refine HD3.out.mono ?_;rintro e w4 ⟨bs,cs,rfl,hbs,ho,hf4⟩;have c1 := (Ql2 ho rfl (i := 0) rfl).1;have HB4 := Xb hf4 HB3;have HF4 := Xi (ff0 HF3.out hf4);have HP4 := Xi (HP.out w4 (ff0 HF3.out hf4));clear hf4 ho;go_wp2_with fail;refine HP4.out.mono ?_;rintro e w5 ⟨rfl,hf5⟩;have HB5 := Xb hf5 HB4;have HF5 := Xi (ff0 HF4.out hf5);clear hf5;go_wp2_with (refine QdV 71 _ _ w.heap.size (k * 29) 71 C1 (Qad z) C2 (by rfl) rfl rfl rfl rfl HB5.out (Qa7 _) (Qar _) hsz HU.out ?_;intro w9 hf9 hb9;have HB9 := Xi hb9;have HF9 := Xi hf9;clear hf9 hb9)
   go_roundg (gk - 1)
   case measure => omega
   case rel =>
    exact ⟨k + 1,by omega,by go_num,by rw [HC2.out]; exact HB9.out,Nat.le_refl _,HF5.out.fresh HF9.out (fun i e => by have e : i = w.heap.size := e; omega)⟩
  ·obtain rfl : k = L.length := by omega
   rw [sa_all] at HB;have hi1 : (L.length : Int) ≤ (L.length : Int) := Int.le_refl _;clear hb hf;go_wp2_with fail;go_ret;exact ⟨_,rfl,HB.out,HF.out⟩
end Go.Proofs.YtodcnbejnchmhaaGreatDoor
namespace Go.Mem
open _root_.Go.Proofs.Tryz
open Go.RowKit
section
variable {P : Program}
theorem at_copy {ops : Array Oper} {rest : List Oper} {a : Act} {w : World} {Q : Exit → Act → World → Prop} {d : Option Tmp} {t t' : TypeId} {ty : TypeId} {pos : String} {af : Array Edge} {g : Option (Nat × Bool)} (s x : Operand) (h : wpList P ops Q (⟨d,.call { callee := .builtin .copy,args := #[s,x],argTypes := #[t,t'] },ty,pos,af,g⟩ :: rest) a w) : wpList P ops Q (⟨d,.call { callee := .builtin .copy,args := #[s,x],argTypes := #[t,t'] },ty,pos,af,g⟩ :: rest) a w := h
theorem Qi4 {w : World} {o : Oper} {a : Act} {K : Act → World → Prop} {Q : Exit → Act → World → Prop} (d s : Operand) (dT sT : TypeId)
  (ho : o.op = .call { callee := .builtin .copy,args := #[d,s],argTypes := #[dT,sT] }) (elem : TypeId) (k n : Nat) (hu : P.underlying dT = some (.slice elem)) (hs : (P.info? elem).map (·.size) = some k)
  (dp sp : Option Addr) (dLen dCap sLen sCap : Nat) (hd : a.eval d = .slice dp dLen dCap) (hx : a.eval s = .slice sp sLen sCap) (g off : Nat) (cur : List Value) (t : TypeId) (hg : Blk w g t cur.toArray) (hn : n = Nat.min sLen dLen) (cs : List Value)
  (hpos : 0 < n → dp = some ⟨g,off,none⟩) (hr : Rd w k sp n cs) (hfit : off + cs.length ≤ cur.length) (h1 : ∀ v ∈ cs,v.oneCell' = true) (cur' : List Value) (hc : splice cur off cs = cur')
  (h : ∀ w',Fr w w' (· = g) → Blk w' g t cur'.toArray → K (a.put o.dst (goInt n)) w') : o.wp P a w K Q := by
 subst hc;obtain ⟨w',hrun,hf,hb⟩ := Qj2 (P := P) w dT sT o.type elem k n hu hs dp sp dLen dCap sLen sCap g off cur t hg hn cs hpos hr hfit h1;unfold Oper.wp;simp [execOp,ho,resolve,invoke,builtin,hd,hx,hrun,Result.andThen];exact h w' hf hb
end
end Go.Mem
namespace Go.Proofs.YtodcnbejnchmhaaGreatDoor
open _root_.Go.Proofs.Tryz
open Go.RowKit Go.Mem
section
variable {P : Program} {ops : Array Oper} {Q : Exit → Act → World → Prop} {md : Region.Mode} {S : World → Prop}
/-- the last store of a region that draws its order: one cell of the block D -/
theorem Qkd {fuel : Nat} {listed : Array Bool} {a : Act} {w : World} (m : Nat) (om : Oper) (hm : ops[m]? = some om) (hr4 : Region.ready md ops listed = [m]) (hr5 : Region.ready md ops (listed.setIfInBounds m true) = []) (gm : om.guard = none)
  {ts : TypeId} {xm ym : Operand} (hom : om.op = .store ts xm ym) (hdm : om.dst = none) (D J : Nat) (t : TypeId) (C : Array Value) (v : Value) (hb : Blk w D t C) (hJ : J < C.size) (hxm : a.eval xm = .pointer (some ⟨D,J,none⟩)) (hym : a.eval ym = v) (h1 : v.oneCell' = true)
  (hits : (P.info? ts).map (·.size) = some 1) (hS : ∀ W,Fr w W (fun i => i = D) → S W) (h : ∀ W,Fr w W (fun i => i = D) → Blk W D t (C.setIfInBounds J v) → Q .normal a W) : wpAnyH P md ops Q S (fuel + 1) listed a w := by
 have hw : ∀ (o : Oper) (y : Nat → Option Bool) (hg : o.guard = none),Region.wanted o y = true := fun o y hg => by simp only [Region.wanted,hg]
 refine wpAnyH_ready hr4 (by simp) (AllReadyH.cons hm (fun K2 hK2 => ?_) AllReadyH.nil);rw [if_pos (hw _ _ gm)];refine Qoi hom hdm hxm hym hb hits h1 hJ ?_;have hs9 := Fr.set (w := w) (a := ⟨D,J,none⟩) (v := v) (S := fun i => i = D) rfl;exact hK2.out _ _ (hS _ hs9) (fun _ => wpAnyH_done hr5 (h _ hs9 (hb.put' J _ rfl)) _)
end
open Go.Rope hiding Bs
open Go.RowKit Go.Mem Go.Lin Go.Dcm

/- three stretches,one Qak the other,laid over a row of as many cells -/
theorem Qjh {Z A : List Value} : splice Z 0 A = A ++ Z.drop A.length := by simp [splice]
theorem QgM {A Z B : List Value} {n : Nat} (hn : n = A.length) : splice (A ++ Z) n B = A ++ (B ++ Z.drop B.length) := by
 subst hn;unfold splice;rw [List.take_left,List.drop_append,List.drop_eq_nil_of_le (by omega),Nat.add_sub_cancel_left];simp
theorem Qgs (L : List LineL) : ∀ u ∈ L.flatMap Qa1,u.oneCell' = true := by
 intro u hu;obtain ⟨x,-,hx⟩ := List.mem_flatMap.1 hu;exact Qmf (Qar x) u hx
theorem QjP : (Tryz.prog.info? 71).map (·.size) = some 29 := by kernel_rfl
theorem Qpm (A M C : List LineL) (N i m : Nat) (hi : i = A.length) (hm : m = M.length) (hN : N = i + m + C.length) :
  splice (splice (splice ((List.replicate N Qae).flatMap Qa1) 0 (A.flatMap Qa1)) (i * 29) (M.flatMap Qa1)) ((i + m) * 29) (C.flatMap Qa1) = (A ++ M ++ C).flatMap Qa1 := by
 have la := Qbk Qa1 29 Qbh A;have lm := Qbk Qa1 29 Qbh M;have lc := Qbk Qa1 29 Qbh C;have lz := Qbk Qa1 29 Qbh (List.replicate N Qae);rw [List.length_replicate] at lz;generalize (List.replicate N Qae).flatMap Qa1 = Z at *;simp only [List.flatMap_append];generalize A.flatMap Qa1 = a at *;generalize M.flatMap Qa1 = b at *;generalize C.flatMap Qa1 = c at *;rw [Qjh,QgM (by rw [la,hi]),← List.append_assoc,QgM (A := a ++ b) (by rw [List.length_append,la,lm]; subst hi hm; rw [Nat.add_mul])];have hz : ((Z.drop a.length).drop b.length).drop c.length = [] := by
  rw [List.drop_drop,List.drop_drop];refine List.drop_eq_nil_of_le ?_;rw [lz,la,lm,lc,hN,hi,hm,← Nat.add_mul,← Nat.add_mul];exact Nat.le_of_eq (by omega)
 rw [hz];simp
/-- what lies at the places of a row from i on,where something is left -/
theorem QmD {r N i : Nat} (h : N ≠ i) : Mem.cutA (some ⟨r,0,none⟩) N i 29 = some ⟨r,i * 29,none⟩ := by
 unfold Mem.cutA;rw [if_neg h];simp [Addr.add];exact Eq.symm
theorem Qou (L : List LineL) (i : Nat) (h : i ≤ L.length) : ((L.flatMap Qa1).drop (0 * 29)).take ((i - 0) * 29) = (L.take i).flatMap Qa1 := by
 have e : L.flatMap Qa1 = (L.take i).flatMap Qa1 ++ (L.drop i).flatMap Qa1 := by rw [← List.flatMap_append,List.take_append_drop]
 have la := Qbk Qa1 29 Qbh (L.take i);rw [List.length_take,Nat.min_eq_left h] at la;rw [Nat.zero_mul,List.drop_zero,Nat.sub_zero,e,← la,List.take_left]
theorem Qp5 (L : List LineL) (j : Nat) (h : j ≤ L.length) : ((L.flatMap Qa1).drop (j * 29)).take ((L.length - j) * 29) = (L.drop j).flatMap Qa1 := by
 have e : L.flatMap Qa1 = (L.take j).flatMap Qa1 ++ (L.drop j).flatMap Qa1 := by rw [← List.flatMap_append,List.take_append_drop]
 have la := Qbk Qa1 29 Qbh (L.take j);have lb := Qbk Qa1 29 Qbh (L.drop j);rw [List.length_take,Nat.min_eq_left h] at la;rw [List.length_drop] at lb;rw [e,← la,List.drop_left,← lb,List.take_length]
theorem tput_any (L M : List LineL) (b q : Nat) (w : World) (hb : Blk w b 71 (L.flatMap Qa1).toArray) (hq : Blk w q 71 (M.flatMap Qa1).toArray) (i j : Nat) (hij : i ≤ j) (hj : j ≤ L.length) (hm : L.length + M.length ≤ 60000) :
  Calls Tryz.prog 36 #[.slice (some ⟨b,0,none⟩) L.length L.length,intV i,intV j,.slice (some ⟨q,0,none⟩) M.length M.length] w fun e w' => ∃ r,e = .returned (.slice (some ⟨r,0,none⟩) (i + M.length + (L.length - j)) (i + M.length + (L.length - j))) ∧ Blk w' r 71 ((L.take i ++ M ++ L.drop j).flatMap Qa1).toArray ∧ Fr w w' (fun _ => False) := by
 have hli : (L.take i).length = i := by rw [List.length_take]; omega
 have hld : (L.drop j).length = L.length - j := List.length_drop;obtain ⟨n,hn⟩ : ∃ n,L.length = n := ⟨_,rfl⟩;obtain ⟨m,hm'⟩ : ∃ m,M.length = m := ⟨_,rfl⟩;obtain ⟨N,hN⟩ : ∃ N,i + m + (n - j) = N := ⟨_,rfl⟩;obtain ⟨wM,hrun,hbM,hfM⟩ := Qh4 w N (by omega);have hpl := Qpm (L.take i) M (L.drop j) N i m hli.symm hm'.symm (by rw [hld,hn]; omega);have hL := Qhe hb;have hMr := Qhe hq;unfold LinesAt at hL hMr;rw [hn] at hL hj hm hld ⊢;rw [hm'] at hMr hm ⊢;have hR0 := hL.cutA (cap := n) (lo := 0) (hi := i) (Nat.zero_le _) (by omega) (Nat.le_refl _);have hR2 := hL.cutA (cap := n) (lo := j) (hi := n) hj (Nat.le_refl _) (Nat.le_refl _);have htf := Qou L i (by omega);have hdf := Qp5 L j (by omega);rw [hn] at hdf;rw [htf,Nat.sub_zero] at hR0;rw [hdf] at hR2;have hc0 := fun w => Qnd (P := Tryz.prog) w 31 71 29 underlying31 (fun w => by kernel_rfl) (some ⟨b,0,none⟩) n n i (by omega);have hc1 := fun W => QfK (P := Tryz.prog) W 31 71 29 underlying31 (fun w => by kernel_rfl) (some ⟨w.heap.size,0,none⟩) N N i (by omega);have hc2 := fun W => QfK (P := Tryz.prog) W 31 71 29 underlying31 (fun w => by kernel_rfl) (some ⟨w.heap.size,0,none⟩) N N (i + m) (by omega);have hc3 := fun w => QfK (P := Tryz.prog) w 31 71 29 underlying31 (fun w => by kernel_rfl) (some ⟨b,0,none⟩) n n j (by omega);rw [show ((i + m : Nat) : Int) = (i : Int) + (m : Int) by omega] at hc2;obtain ⟨A0,hA0⟩ : ∃ A,Mem.cutA (some ⟨b,0,none⟩) n 0 29 = A := ⟨_,rfl⟩;obtain ⟨A1,hA1⟩ : ∃ A,Mem.cutA (some ⟨w.heap.size,0,none⟩) N i 29 = A := ⟨_,rfl⟩;obtain ⟨A2,hA2⟩ : ∃ A,Mem.cutA (some ⟨w.heap.size,0,none⟩) N (i + m) 29 = A := ⟨_,rfl⟩;obtain ⟨A3,hA3⟩ : ∃ A,Mem.cutA (some ⟨b,0,none⟩) n j 29 = A := ⟨_,rfl⟩;rw [hA0] at hc0 hR0;rw [hA1] at hc1;rw [hA2] at hc2;rw [hA3] at hc3 hR2;have HP1 := Xi (show 0 < m → A1 = some ⟨w.heap.size,i * 29,none⟩ from fun h => by rw [← hA1]; exact QmD (by omega));have HP2 := Xi (show 0 < n - j → A2 = some ⟨w.heap.size,(i + m) * 29,none⟩ from fun h => by rw [← hA2]; exact QmD (by omega));have hfl0 := Qbk Qa1 29 Qbh (L.take i);have hfl1 := Qbk Qa1 29 Qbh M;have hfl2 := Qbk Qa1 29 Qbh (L.drop j);have hflz := Qbk Qa1 29 Qbh (List.replicate N Qae);rw [List.length_replicate] at hflz;rw [hli] at hfl0;rw [hm'] at hfl1;rw [hld] at hfl2;have ho0 := Qgs (L.take i);have ho1 := Qgs M;have ho2 := Qgs (L.drop j);obtain ⟨Z,hZ⟩ : ∃ Z,(List.replicate N Qae).flatMap Qa1 = Z := ⟨_,rfl⟩;obtain ⟨X0,hX0⟩ : ∃ X,(L.take i).flatMap Qa1 = X := ⟨_,rfl⟩;obtain ⟨X1,hX1⟩ : ∃ X,M.flatMap Qa1 = X := ⟨_,rfl⟩;obtain ⟨X2,hX2⟩ : ∃ X,(L.drop j).flatMap Qa1 = X := ⟨_,rfl⟩;obtain ⟨Y,hY⟩ : ∃ Y,(L.take i ++ M ++ L.drop j).flatMap Qa1 = Y := ⟨_,rfl⟩;rw [hZ] at hbM hpl hflz;rw [hX0] at hR0 hpl hfl0 ho0;rw [hX1] at hMr hpl hfl1 ho1;rw [hX2] at hR2 hpl hfl2 ho2;rw [hY] at hpl ⊢;obtain ⟨Z1,hZ1⟩ : ∃ Z1,splice Z 0 X0 = Z1 := ⟨_,rfl⟩;rw [hZ1] at hpl;obtain ⟨Z2,hZ2⟩ : ∃ Z2,splice Z1 (i * 29) X1 = Z2 := ⟨_,rfl⟩;rw [hZ2] at hpl;have hl1 : Z1.length = N * 29 := by rw [← hZ1,length_splice _ _ _ (by omega),hflz]
 have hl2 : Z2.length = N * 29 := by rw [← hZ2,length_splice _ _ _ (by omega),hl1]
 have hbl := hb.lt;have hql := hq.lt;have H0 := Xi hbM;have HF0 := Xi hfM;have HR0 := Xi (Rd.fr hR0 hfM (fun _ _ _ _ h => h));have HR1 := Xi (Rd.fr hMr hfM (fun _ _ _ _ h => h));have HR2 := Xi (Rd.fr hR2 hfM (fun _ _ _ _ h => h));have K0 := Xi (And.intro hfl0 (And.intro ho0 hZ1));have K1 := Xi (And.intro hfl1 (And.intro ho1 hZ2));have K2 := Xi (And.intro hfl2 (And.intro ho2 hpl));have KL := Xi (And.intro hflz (And.intro hl1 hl2));have KN := Xi hN;have KA0 := Xi (show ∀ bb oo,A0 = some ⟨bb,oo,none⟩ → bb = b from fun bb oo e => by rw [← hA0] at e; obtain ⟨a,ha,hb⟩ := Qif e; injection ha with ha; subst ha; exact hb.symm);have KA3 := Xi (show ∀ bb oo,A3 = some ⟨bb,oo,none⟩ → bb = b from fun bb oo e => by rw [← hA3] at e; obtain ⟨a,ha,hb⟩ := Qif e; injection ha with ha; subst ha; exact hb.symm);have hNi : (n : Int) - ((j : Int) - (i : Int)) + (m : Int) = (N : Int) := by omega
 have hni : (i : Int) ≤ (j : Int) := by omega
 have hnj : (j : Int) ≤ (n : Int) := by omega
 have hnn : (n : Int) ≤ 60000 := by omega
 have hmm : (m : Int) ≤ 60000 := by omega
 have hwr : IntKind.i64.wrap ((i : Int) + (m : Int)) = (i : Int) + (m : Int) := IntWalk.i64_in _ ⟨by omega,by omega⟩;clear hb hq hL hMr hR0 hR2 htf hdf hfl0 hfl1 hfl2 hflz ho0 ho1 ho2 hpl hZ hX0 hX1 hX2 hY hZ1 hZ2 hl1 hl2 hbM hfM hA0 hA1 hA2 hA3 hli hld hn hm' hN;go_enter func36,ntmps36;go_wp2_with ((with_reducible refine at_copy _ _ ?_); first
  | (refine QdW rfl _ _ 31 31 rfl 71 29 i underlying31 QjP _ A0 N N i n rfl rfl w.heap.size 0 Z 71 H0.out (Nat.min_eq_left (by have := KN.out; omega)).symm X0 (fun _ => rfl) HR0.out (by have := K0.out.1; have := KL.out.1; have := KN.out; omega) K0.out.2.1 Z1 K0.out.2.2 ?_;intro W5 hf5 hb5;have HB5 := Xi hb5;have HR15 := Xi (Rd.fr HR1.out hf5 (fun b' o' e _ h => by injection e with e; injection e with e; omega));have HR25 := Xi (Rd.fr HR2.out hf5 (fun b' o' e _ h => by have := KA3.out b' o' e; omega));have HF5 := Xi (HF0.out.fresh hf5 (fun i e => by have e : i = w.heap.size := e; omega));clear hf5 hb5)
  | (refine QdW rfl _ _ 31 31 rfl 71 29 m underlying31 QjP A1 (some ⟨q,0,none⟩) (N - i) (N - i) m m rfl rfl w.heap.size (i * 29) Z1 71 HB5.out (Nat.min_eq_left (by have := KN.out; omega)).symm X1 HP1.out HR15.out (by have := K1.out.1; have := KL.out.2.1; have := KN.out; omega) K1.out.2.1 Z2 K1.out.2.2 ?_;intro W6 hf6 hb6;have HB6 := Xi hb6;have HR26 := Xi (Rd.fr HR25.out hf6 (fun b' o' e _ h => by have := KA3.out b' o' e; omega));have HF6 := Xi (HF5.out.fresh hf6 (fun i e => by have e : i = w.heap.size := e; omega));clear hf6 hb6))
 refine wp_region_held_drew (S := fun w' => Fr W6 w' (fun k => k = w.heap.size)) (by kernel_rfl) (Fr.drew W6 _) (fun hHeld => ?_);refine Xt 0 (v := ?_) (fun w' hSw => ?_) ?_;rotate_left
 ·go_simp
  try with_reducible rfl
 try simp only [Act.put,Xa]
 refine Xt 1 (v := ?_) (fun w' hSw => ?_) ?_;rotate_left
 ·go_simp
  try with_reducible rfl
 try simp only [Act.put,Xa]
 refine Xt 2 (v := ?_) (fun w' hSw => ?_) ?_;rotate_left
 ·go_simp
  try with_reducible rfl
 try simp only [Act.put,Xa]
 refine Xt 3 (v := ?_) (fun w' hSw => ?_) ?_;rotate_left
 ·go_simp
  try with_reducible rfl
 try simp only [Act.put,Xa]
 refine Xt 4 (v := ?_) (fun w' hSw => ?_) ?_;rotate_left
 ·go_simp
  try with_reducible rfl
 try simp only [Act.put,Xa]
 refine Xt 5 (v := ?_) (fun w' hSw => ?_) ?_;rotate_left
 ·go_simp
  try with_reducible rfl
 try simp only [Act.put,Xa]
 refine Xt 6 (v := ?_) (fun w' hSw => ?_) ?_;rotate_left
 ·go_simp
  try with_reducible rfl
 try simp only [Act.put,Xa]
 refine Xt 7 (v := ?_) (fun w' hSw => ?_) ?_;rotate_left
 ·go_simp
  try with_reducible rfl
 try simp only [Act.put,Xa]
 refine Xt 8 (v := ?_) (fun w' hSw => ?_) ?_;rotate_left
 ·go_simp
  try with_reducible rfl
 try simp only [Act.put,Xa]
 refine wpAnyH_ready (rs := [9]) (by kernel_rfl) (by simp) ?_;refine AllReadyH.cons rfl (fun K hK => ?_) AllReadyH.nil;rw [if_pos (by rfl)];refine Qi4 _ _ 31 31 rfl 71 29 (n - j) underlying31 QjP A2 A3 (N - (i + m)) (N - (i + m)) (n - j) (n - j) rfl rfl w.heap.size ((i + m) * 29) Z2 71 ((Fr.drew W6 (fun _ => False)).blk HB6.out (fun h => h)) (Nat.min_eq_left (by have := KN.out; omega)).symm X2 HP2.out (Rd.fr HR26.out (Fr.drew W6 (fun _ => False)) (fun _ _ _ _ h => h)) (by have := K2.out.1; have := KL.out.2.2; have := KN.out; omega) K2.out.2.1 Y K2.out.2.2 ?_;intro W7 hf7 hb7;refine hK.out _ _ (hHeld.trans hf7 (fun _ _ h => h) (fun _ _ h => h)) (fun _ => wpAnyH_done (by kernel_rfl) ?_ _);have HB7 := Xi hb7;have HF7 := Xi ((ff0 HF6.out (Fr.drew W6 (fun _ => False))).fresh hf7 (fun i e => by have e : i = w.heap.size := e; omega));clear hK hHeld hf7 hb7;go_wp2_with fail;go_ret;exact ⟨_,by rw [KN.out]; rfl,HB7.out,HF7.out⟩
end Go.Proofs.YtodcnbejnchmhaaGreatDoor
namespace Go.Proofs.YtodcnbejnchmhaaGreatDoor
open _root_.Go.Proofs.Tryz
open Go.Rope hiding Bs
open Go.RowKit Go.Mem Go.Lin Go.Dcm

theorem QnP (x y : Operand) (cs ds : Array Value) : ∀ w,(eqGuard .neq 71 x y (.agg cs) (.agg ds)).run Tryz.prog w = .ok () w := fun _ => by kernel_rfl
theorem QoJ (x : LineL) : ∀ w,(binOp .neq 71 (.agg (Qad x)) (.agg (Qad x))).run Tryz.prog w = .ok (.bool false) w := fun w => by rw [neq_line]; simp
def TrueT (w : World) (e : Ending) (w' : World) : Prop := e = .returned (.bool true) ∧ Fr w w' (fun _ => False)
theorem Qis (l : List LineL) (A B : Option Addr) (ca cb : Nat) (w : World) (h1 : LinesAt w A l) (h2 : LinesAt w B l) (hm : l.length ≤ 1000000) : Calls Tryz.prog 13 #[.slice A l.length ca,.slice B l.length cb] w (TrueT w) := by
 have H1 := Xi h1;have H2 := Xi h2;clear h1 h2;go_enter func13,ntmps13;go_wp2_with fail
 go_loopg [5] l.length (fun k v5 wr => ∃ i : Nat,i + k = l.length ∧ v5 = intV (i : Int) ∧ Fr w wr (fun _ => False))
 case atStart => exact ⟨0,by simp,rfl,Fr.refl _ _⟩
 case round =>
  obtain ⟨i,hik,rfl,hf⟩ := hrel;by_cases hlt : i < l.length
  ·have hi1 : (i : Int) < (l.length : Int) := by omega
   obtain ⟨b1,o1,rfl,c1⟩ := (H1.out.kept hf).at_ hlt;obtain ⟨b2,o2,rfl,c2⟩ := (H2.out.kept hf).at_ hlt;obtain ⟨x,hx⟩ : ∃ x,l[i] = x := ⟨_,rfl⟩;rw [hx] at c1 c2;have HF := Xi hf;have C1 := Xi c1;have C2 := Xi c2;clear c1 c2;clear hx hf;go_wp2_with fail;refine wp_region_held_drew (S := fun w' => Fr wr w' (fun _ => False)) (by kernel_rfl) (Fr.drew wr _) (fun hHeld => ?_);refine Xt 0 (v := ?_) (fun w' hSw => ?_) ?_;rotate_left
   ·go_simp
    try with_reducible rfl
   try simp only [Act.put,Xa]
   refine Xt 1 (v := ?_) (fun w' hSw => ?_) ?_;rotate_left
   ·go_simp
    try with_reducible rfl
   try simp only [Act.put,Xa]
   refine Xt 2 (v := ?_) (fun w' hSw => ?_) ?_;rotate_left
   ·go_simp
    try with_reducible rfl
   try simp only [Act.put,Xa]
   refine wpAnyH_take (i := 3) (v := _) rfl (by kernel_rfl) (by kernel_rfl) (by kernel_rfl) (fun _ _ _ h => h) (Qi2 71 _ b1 (o1 + i * 29) (Qad x) _ (by rfl) rfl (by rfl) (fun w' h => Qhs h C1.out (Nat.le_refl _) (fun h => h)) underlying71 rfl QjP) (by assumption) ?_
   try simp only [Act.put,Xa]
   refine Xt 4 (v := ?_) (fun w' hSw => ?_) ?_;rotate_left
   ·go_simp
    try with_reducible rfl
   try simp only [Act.put,Xa]
   refine Xt 5 (v := ?_) (fun w' hSw => ?_) ?_;rotate_left
   ·go_simp
    try with_reducible rfl
   try simp only [Act.put,Xa]
   refine Xt 6 (v := ?_) (fun w' hSw => ?_) ?_;rotate_left
   ·go_simp
    try with_reducible rfl
   try simp only [Act.put,Xa]
   refine wpAnyH_take (i := 7) (v := _) rfl (by kernel_rfl) (by kernel_rfl) (by kernel_rfl) (fun _ _ _ h => h) (Qi2 71 _ b2 (o2 + i * 29) (Qad x) _ (by rfl) rfl (by rfl) (fun w' h => Qhs h C2.out (Nat.le_refl _) (fun h => h)) underlying71 rfl QjP) (by assumption) ?_
   try simp only [Act.put,Xa]
   refine wpAnyH_take (i := 8) (v := _) rfl (by kernel_rfl) (by kernel_rfl) (by kernel_rfl) (fun _ _ _ h => h) (QmO (by rfl) rfl (by rfl) (by rfl) (QnP _ _ _ _) (QoJ x)) (by assumption) ?_
   try simp only [Act.put,Xa]
   refine wpAnyH_done (by kernel_rfl) ?_ _;clear hHeld;have HD := Xi (ff0 HF.out (Fr.drew wr (fun _ => False)));go_wp2_with fail
   go_roundg (l.length - (i + 1))
   case measure => omega
   case rel => exact ⟨i + 1,by omega,by go_num,HD.out⟩
  ·obtain rfl : i = l.length := by omega
   have hi1 : (l.length : Int) ≤ (l.length : Int) := Int.le_refl _;have HF := Xi hf;clear hf;go_wp2_with fail;go_ret;exact ⟨rfl,HF.out⟩
theorem own_res {w : World} {q : Nat} {cs : Array Value} (hs : cs.size = 5) (hb : Blk w q 39 cs) (tmps : Array Value) (hp : tmps.getD 2 undef = .pointer (some ⟨q,0,none⟩)) : (results f18 tmps).run Tryz.prog w = .ok (.agg cs) w :=
 results_cell_row (P := Tryz.prog) (fn := f18) (p := 2) (ty := 39) rfl tmps _ q 39 cs (0,0) _ hp hb underlying39 rfl (by rw [hs]; kernel_rfl)
theorem Own_any (e : EdL) (w : World) : Calls Tryz.prog 18 #[edV e] w fun en w' => en = .returned (edV e) ∧ Fr w w' (fun _ => False) := by
 obtain ⟨l1,c1,l2,c2,s⟩ := e;unfold edV edC;have hB := Blk.made (w.alloc (.cells #[intV l1,intV c1,intV l2,intV c2,strV s] 37)) 39 #[intV l1,intV c1,intV l2,intV c2,strV s];have hf0 := ff0 (Fr.new w (.cells #[intV l1,intV c1,intV l2,intV c2,strV s] 37) (fun _ => False)) (Fr.new _ (.cells #[intV l1,intV c1,intV l2,intV c2,strV s] 39) (fun _ => False));have hs1 : (w.alloc (.cells #[intV l1,intV c1,intV l2,intV c2,strV s] 37)).heap.size = w.heap.size + 1 := by simp
 rw [hs1] at hB;have HB := Xi hB;have HF := Xi hf0;clear hB hf0 hs1;go_enter func18,ntmps18;go_wp2_with fail;exact bodyPost_ret (own_res rfl HB.out _ rfl) rfl ⟨rfl,HF.out⟩
/-- what Light says -/
def Qj8 (s : Bs) (l : List EdL) (n : Nat) : Prop := s.length ≤ n ∧ l.length ≤ 30 ∧ ∀ e ∈ l,e.s.length ≤ n
instance (s : Bs) (l : List EdL) (n : Nat) : Decidable (Qj8 s l n) := by unfold Qj8; infer_instance
theorem Qqx (s : Bs) (A : Option Addr) (c : Nat) (l : List EdL) (n : Nat) (w : World) (hr : EdsAt w A l) (_hs : s.length ≤ maxLen) (hl : l.length ≤ maxLen) (he : ∀ e ∈ l,e.s.length ≤ maxLen) (_hn : n ≤ 100000) (x : Bool) (hx : x = true ↔ Qj8 s l n) :
  Calls Tryz.prog 9 #[strV s,.slice A l.length c,intV n] w fun e w' => e = .returned (.bool x) ∧ Fr w w' (fun _ => False) := by
 unfold maxLen at _hs hl he;have hz := Qal s;have HX := Xi hx;have HR := Xi hr;have HS := Xi he;clear hx hr he;by_cases h1 : n < s.length
 ·have hf : x = false := by
   rw [Bool.eq_false_iff];intro e;have := (HX.out.1 e).1;omega
  subst hf;go_enter func9,ntmps9;go_wp2_with fail;go_ret;exact ⟨rfl,Fr.refl _ _⟩
 ·by_cases h2 : 30 < l.length
  ·have hf : x = false := by
    rw [Bool.eq_false_iff];intro e;have := (HX.out.1 e).2.1;omega
   subst hf;have h1' : s.length ≤ n := by omega
   clear h1;go_enter func9,ntmps9;go_wp2_with fail;go_ret;exact ⟨rfl,Fr.refl _ _⟩
  ·have h1' : s.length ≤ n := by omega
   have h2' : l.length ≤ 30 := by omega
   clear h1 h2;go_enter func9,ntmps9;go_wp2_with fail
   go_loopg [7] l.length (fun k v7 wr => ∃ i : Nat,i + k = l.length ∧ v7 = intV (i : Int) ∧ (∀ e ∈ l.take i,e.s.length ≤ n) ∧ Fr w wr (fun _ => False))
   case atStart => exact ⟨0,by simp,rfl,by simp,Fr.refl _ _⟩
   case round =>
    obtain ⟨i,hik,rfl,hpre,hf⟩ := hrel;have HP := Xi hpre;have HF := Xi hf;by_cases hlt : i < l.length
    ·obtain ⟨b,off,rfl,hc⟩ := (HR.out.kept hf).at_ hlt;have HT := Xi (List.take_succ_eq_append_getElem hlt);have hle := HS.out _ (List.getElem_mem hlt);have HM := Xi (show ∀ y,(∀ e ∈ l,e.s.length ≤ y) → l[i].s.length ≤ y from fun y h => h _ (List.getElem_mem hlt));obtain ⟨ed,hed⟩ : ∃ ed,l[i] = ed := ⟨_,rfl⟩;rw [hed] at hc HT hle HM;have c4 : wr.cell? ⟨b,off + i * 5 + 4,none⟩ = some (strV ed.s) := hc 4 (show 4 < 5 by decide);have hsz := Qal ed.s;have hi1 : (i : Int) < (l.length : Int) := by omega
     obtain ⟨y,hy⟩ : ∃ y,ed.s = y := ⟨_,rfl⟩;rw [hy] at c4 hsz hle HM;have HY := Xi hy;clear hed hc hy hpre hf;by_cases hbig : n < y.length
     ·have hf : x = false := by
       rw [Bool.eq_false_iff];intro e;have := HM.out n (HX.out.1 e).2.2;omega
      subst hf;go_wp2_with fail;go_ret;exact ⟨rfl,HF.out⟩
     ·have hbig' : y.length ≤ n := by omega
      clear hbig;go_wp2_with fail
      go_roundg (l.length - (i + 1))
      case measure => omega
      case rel =>
       refine ⟨i + 1,by omega,by go_num,?_,HF.out⟩;rw [HT.out];intro z hz;rcases List.mem_append.1 hz with hz | hz
       ·exact HP.out z hz
       ·simp at hz; rw [hz,HY.out]; exact hbig'
    ·have hf : x = true := HX.out.2 ⟨h1',by omega,by
      have := HP.out
      rwa [List.take_of_length_le (by omega)] at this⟩
     have hi1 : (l.length : Int) ≤ (i : Int) := by omega
     have hi2 : (i : Int) ≤ (l.length : Int) := by omega
     subst hf;clear hpre;go_wp2_with fail;go_ret;exact ⟨rfl,HF.out⟩
end Go.Proofs.YtodcnbejnchmhaaGreatDoor
