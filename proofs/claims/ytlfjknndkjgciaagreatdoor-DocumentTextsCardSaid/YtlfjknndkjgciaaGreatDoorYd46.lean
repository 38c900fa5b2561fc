import Derived.Test.YtlfjknndkjgciaaGreatDoorYd34
import Derived.Laws.OwnMore
import Derived.Test.YtlfjknndkjgciaaGreatDoorYd09
import Derived.Test.YtlfjknndkjgciaaGreatDoorYd23
import Derived.Test.YtlfjknndkjgciaaGreatDoorYd35
import Derived.Test.YtlfjknndkjgciaaGreatDoorYd07
set_option maxRecDepth 100000
set_option maxHeartbeats 3200000
namespace Go.Proofs.YtlfjknndkjgciaaGreatDoor
open _root_.Go.Proofs.Tryz
open Go.RowKit Go.Mem Go.Lin Go.Dcm

theorem Qmh : (Tryz.prog.info? 58).map (fun i => (i.zero,i.size,i.bytes)) = some (some (.agg (Qad Qae)),29,280) := by kernel_rfl
theorem Qnn (n : Nat) : (madeCells (Qad Qae) (n * 29)).toList = (List.replicate n Qae).flatMap Qen := by
 apply List.ext_getElem?;intro j;by_cases hj : j < n * 29
 ·have h1 : (List.replicate n Qae)[j / 29]? = some Qae := by
   rw [List.getElem?_replicate,if_pos (by omega)]
  have h2 := QdJ Qen 29 Qd5 h1 (j % 29) (Nat.mod_lt _ (by omega));rw [show j / 29 * 29 + j % 29 = j by omega] at h2;rw [h2];have hs : (Qad Qae).size = 29 := rfl;have hm : j % 29 < (Qad Qae).size := Nat.mod_lt _ (by decide);have e1 : (Qen Qae)[j % 29]? = some (Qad Qae)[j % 29] := by
   show (Qad Qae).toList[j % 29]? = _;rw [Array.getElem?_toList,Array.getElem?_eq_getElem hm]
  rw [e1];simp only [madeCells,Array.toList_map,Array.toList_range,List.getElem?_map,List.getElem?_range hj,Option.map_some,hs];rw [getElem!_pos (Qad Qae) (j % 29) hm]
 ·rw [List.getElem?_eq_none (by simp [madeCells]; omega),List.getElem?_eq_none (by rw [Qdj Qen 29 Qd5]; simp; omega)]
/-- the first i of them Qbi -/
def paD (L : List Bs) (i : Nat) : List LineL := (L.take i).map Qbe ++ List.replicate (L.length - i) Qae
theorem pa_len (L : List Bs) (i : Nat) (h : i ≤ L.length) : (paD L i).length = L.length := by
 unfold paD;rw [List.length_append,List.length_map,List.length_take,List.length_replicate];omega
theorem pa_all (L : List Bs) : paD L L.length = L.map Qbe := by simp [paD]
theorem pa_none (L : List Bs) : paD L 0 = List.replicate L.length Qae := by simp [paD]
/-- a row of structs,one of them turned -/
theorem Qo8 {X : Type} (f : X → List Value) (k : Nat) (hf : ∀ x,(f x).length = k) (a : List X) (x y : X) (b : List X) : Qbx ((a ++ x :: b).flatMap f).toArray (a.length * k) (f y) = ((a ++ y :: b).flatMap f).toArray := by
 have ha := Qdj f k hf a;refine QdP (by simp [hf,ha] <;> omega) ?_;simp only [List.flatMap_append,List.flatMap_cons];have e : (a.flatMap f ++ (f x ++ b.flatMap f)).drop (a.length * k + (f y).length) = b.flatMap f := by
  rw [← List.append_assoc,List.drop_left' (by rw [List.length_append,hf,hf,ha])]
 rw [e,List.take_left' ha]
theorem pa_step (L : List Bs) (i : Nat) (h : i < L.length) : Qbx ((paD L i).flatMap Qen).toArray (i * 29) (Qad (Qbe L[i])).toList = ((paD L (i + 1)).flatMap Qen).toArray := by
 have e1 : paD L i = (L.take i).map Qbe ++ Qae :: List.replicate (L.length - (i + 1)) Qae := by
  unfold paD;rw [show L.length - i = (L.length - (i + 1)) + 1 by omega,List.replicate_succ]
 have e2 : paD L (i + 1) = (L.take i).map Qbe ++ Qbe L[i] :: List.replicate (L.length - (i + 1)) Qae := by
  unfold paD;rw [List.take_succ_eq_append_getElem h,List.map_append,List.append_assoc];rfl
 have := Qo8 Qen 29 Qd5 ((L.take i).map Qbe) Qae (Qbe L[i]) (List.replicate (L.length - (i + 1)) Qae);rw [List.length_map,List.length_take,Nat.min_eq_left (Nat.le_of_lt h)] at this;rw [e1,e2];exact this
theorem Qjb {tr tz tl : TypeId} {w : World} {a b : Nat} {vr vz vl vd : Value} {d : DocL} (h : DocAt tr tz tl w b vr vz vl vd d) (hb : a ≤ b) : DocAt tr tz tl w a vr vz vl vd d := by
 obtain ⟨zv,h1,h2,h3⟩ := h.z;exact ⟨QaU h.r hb,⟨zv,h1,QaU h2 hb,fun x hx => QgK (h3 x hx) hb⟩,QaU h.l hb,QaU h.g hb⟩
theorem res_doc {w : World} {q : Nat} {cs : Array Value} (hs : cs.size = 4) (hb : Blk w q 37 cs) (tmps : Array Value) (hp : tmps.getD 2 undef = .pointer (some ⟨q,0,none⟩)) : (results f18 tmps).run Tryz.prog w = .ok (.agg cs) w :=
 results_cell_row (P := Tryz.prog) (fn := f18) (p := 2) (ty := 37) rfl tmps _ q 37 cs (0,0) _ hp hb underlying37 rfl (by rw [hs]; exact QhG)
theorem Qpf {w : World} {b : Nat} {l : List LineL} (h : Blk w b 58 (l.flatMap Qen).toArray) : LinesAt w (some ⟨b,0,none⟩) l := by
 refine ⟨Qdj Qen 29 Qd5 l,fun _ => ⟨b,0,rfl,fun j u hu => ?_⟩⟩;have := Qaa h j;rw [Nat.zero_add,this];simpa using hu
def PI (w : World) (L : List Bs) (b bs c : Nat) (k : Nat) (v : Value) (wr : World) : Prop := ∃ i : Nat,i + k = L.length ∧ v = intV (i : Int) ∧ Blk wr b 58 ((paD L i).flatMap Qen).toArray ∧ Own wr w.heap.size 9 1 strL (.slice (some ⟨bs,0,none⟩) L.length c) L ∧ Blk wr w.heap.size 37 #[.slice none 0 0,.slice none 0 0,.slice none 0 0,.slice none 0 0] ∧ w.heap.size < b ∧ Fr w wr (fun _ => False)
theorem QhM (l : Bs) (w : World) (hw : LOk w) (hl : l.length ≤ 30000) : Calls Tryz.prog 18 #[strV l] w (Qgn 72 71 78 w (ofD ((Qda l).map Qbe))) := by
 have hf0 := Fr.new w (.cells #[.slice none 0 0,.slice none 0 0,.slice none 0 0,.slice none 0 0] 37) (fun _ => False);have HL := Xi (QiA l _ (hw.fr hf0).kwd (by omega));have HR0 := Xi (Blk.made w 37 #[.slice none 0 0,.slice none 0 0,.slice none 0 0,.slice none 0 0]);have HF0 := Xi hf0;have HW := Xi (fun (W : World) (f : Fr w W (fun _ => False)) => hw.fr f);have hle := QhA l;obtain ⟨L,hL⟩ : ∃ L,Qda l = L := ⟨_,rfl⟩;rw [hL] at HL hle ⊢;have HX := Xi (show ∀ x ∈ L,x.length ≤ 100000 from fun x hx => Nat.le_trans (hle.2 x hx) (by omega));have hn : L.length ≤ 30001 := by omega
 clear hw hf0 hL hle hl;go_enter func18,ntmps18;go_wp2_with fail;refine HL.out.mono ?_;rintro e w2 ⟨bs,c,rfl,hbs,ho,hf⟩;obtain ⟨i0,hi0,hz0,hz1,hz2⟩ := info_parts Qmh;obtain ⟨wM,hrun,hownM,hgM⟩ := run_make_full (P := Tryz.prog) w2 0 22 58 i0 _ 29 underlying22 hi0 hz0 hz1 .i64 .i64 L.length (by rw [hz2]; omega) (by simp only [maxLen]; omega) (Nat.zero_le _);have hfM := Fr.ofGrown hgM;have hfM : Fr w2 wM (fun _ => False) := hfM.mono (fun i _ h => by cases h);obtain ⟨cs,-,hbM,hcs⟩ : ∃ cs,0 ≤ 0 ∧ Blk wM w2.heap.size 58 cs ∧ cs = ((paD L 0).flatMap Qen).toArray := by
  rcases hownM.2 with ⟨h',-⟩ | ⟨g',cap',cur,h',hb,hg,hnc,hcm,hcs,ht⟩
  ·simp at h'
  ·injection h' with h1 h2 h3;injection h1 with h1;injection h1 with h1;subst h1 h3;refine ⟨cur,Nat.le_refl _,hg,?_⟩;rw [List.take_of_length_le (by rw [Array.length_toList,hcs]; exact Nat.le_refl _)] at ht;rw [pa_none,← Qnn];have e : (Value.agg (Qad Qae)).cells = Qad Qae := rfl;rw [e] at ht;exact Array.toList_inj.1 (by rw [ht])
 subst hcs;have hfw := ff0 HF0.out hf;have hs2 := hfw.size;have hs1 : (w.alloc (.cells #[.slice none 0 0,.slice none 0 0,.slice none 0 0,.slice none 0 0] 37)).heap.size = w.heap.size + 1 := by simp
 have hs3 := hf.size;have HI := Xi (show PI w L w2.heap.size bs c L.length (intV 0) wM from ⟨0,by simp,rfl,hbM,QaU (ho.kept hfM) (by rw [hs1]; omega),hfM.blk (hf.blk HR0.out (fun h => h)) (fun h => h),by omega,ff0 hfw hfM⟩);clear ho hf hownM hgM hbM hfM hfw hs1 hs3;go_wp2_with fail
 go_loopg [5,6,14] L.length (fun k _ _ v14 wr => PI w L w2.heap.size bs c k v14 wr)
 case atStart => exact HI.out
 case round =>
  obtain ⟨i,hik,rfl,hb,ho,hR,hwb,hf⟩ := hrel;have HB := Xi hb;have HO := Xi ho;have HR := Xi hR;have HF := Xi hf;by_cases hlt : i < L.length
  ·have c1 := (QlU ho rfl (List.getElem?_eq_getElem hlt)).1;have hxl := HX.out L[i] (List.getElem_mem hlt);have HU := Xi (pa_step L i hlt);have hi1 : (i : Int) < (L.length : Int) := by omega
   obtain ⟨x,hx⟩ : ∃ x,L[i] = x := ⟨_,rfl⟩;rw [hx] at c1 hxl HU;obtain ⟨y,hy⟩ : ∃ y,Qbe x = y := ⟨_,rfl⟩;have HP := Xi (QkZ x y wr (HW.out wr hf) hxl hy);rw [hy] at HU;have hsz : i * 29 + 29 ≤ ((paD L i).flatMap Qen).toArray.size := by
    rw [List.size_toArray,Qdj Qen 29 Qd5,pa_len L i (by omega)];omega
   obtain ⟨C1,hC1⟩ : ∃ C,((paD L i).flatMap Qen).toArray = C := ⟨_,rfl⟩;obtain ⟨C2,hC2⟩ : ∃ C,((paD L (i + 1)).flatMap Qen).toArray = C := ⟨_,rfl⟩;rw [hC1] at HB hsz;rw [hC1,hC2] at HU;have HC2 := Xi hC2;clear hb ho hR hf hx hy hxl hC1 hC2;go_wp2_with fail;refine HP.out.mono ?_;rintro e w3 ⟨rfl,hf3⟩;have HB3 := Xb hf3 HB;have HO3 := Xi (HO.out.kept hf3);have HR3 := Xb hf3 HR;have HF3 := Xi (ff0 HF.out hf3);clear hf3;go_wp2_with (refine Qbg 58 _ _ w2.heap.size (i * 29) 58 C1 (Qad y) C2 (by rfl) rfl rfl rfl rfl HB3.out (QaL _) (Qaj _) hsz HU.out ?_;intro w9 hf9 hb9;have HB9 := Xi hb9;have HF9 := Xi hf9;clear hf9 hb9)
   go_roundg (gk - 1)
   case measure => omega
   case rel =>
    refine ⟨i + 1,by omega,by go_num,by rw [HC2.out]; exact HB9.out,Qel HO3.out HF9.out (fun k cs _ hb e => by subst e; exact absurd (Qal hb HB3.out) (by decide)),HF9.out.blk HR3.out (fun e => by omega),hwb,HF3.out.fresh HF9.out (fun i e => by have e : i = w2.heap.size := e; omega)⟩
  ·obtain rfl : i = L.length := by omega
   rw [pa_all] at HB;have hpl : (L.map Qbe).length = L.length := List.length_map _;have HD := Xi (show Calls Tryz.prog 13 #[.slice (some ⟨w2.heap.size,0,none⟩) L.length L.length] wr (Qgn 72 71 78 wr (ofD (L.map Qbe))) by
    have := dOf_any (L.map Qbe) _ L.length wr (Qpf HB.out) (by rw [hpl]; omega);rw [hpl] at this;exact this)
   have hi1 : (L.length : Int) ≤ (L.length : Int) := Int.le_refl _;have hws := hf.size;clear hb ho hR hf hpl;go_wp2_with fail;refine HD.out.mono ?_;rintro e w3 ⟨vr,vz,vl,vd,rfl,hd3,hf3⟩;have HD3 := Xi (Qjb hd3 hws);have HR3 := Xb hf3 HR;have HF3 := Xi (ff0 HF.out hf3);clear hd3 hf3;go_wp2_with (
    (refine Qbg 37 _ _ w.heap.size 0 37 _ #[vr,vz,vl,vd] #[vr,vz,vl,vd] (by rfl) rfl rfl rfl rfl HR3.out QhG (Qlp HD3.out) (show 0 + 4 ≤ 4 by decide) rfl ?_;intro w9 hf9 hb9;have HE9 := Xi hb9;have HF9 := Xi hf9;clear hf9 hb9))
   (try simp only [Exit.inBlock,Exit.then]);exact bodyPost_ret (res_doc rfl HE9.out _ rfl) rfl ⟨vr,vz,vl,vd,rfl,Qgk HD3.out HF9.out HR3.out,HF3.out.fresh HF9.out (fun i e => by have e : i = w.heap.size := e; omega)⟩
/- the chapter's example -/
def aW : Bs := [90,111,110,101,32,65,32,49,58,48,48,32,45,32,88,32,50,48,48,48,10,48,32,45,32,89]
def aF1 : List Bs := [[90,111,110,101],[65],[49,58,48,48],[45],[88],[50,48,48,48]]
def aF2 : List Bs := [[48],[45],[89]]
def aE1 : EraL := ⟨3600,0,0,[],[88],⟨true,2000,1,day1,atZ⟩⟩
def aE2 : EraL := ⟨0,0,0,[],[89],tilZ⟩
theorem a_lines : Qda aW = [Go.Lxr.QeG aF1,Go.Lxr.QeG aF2] := by decide +kernel
theorem a_era1 : eraP aF1 2 = .ok aE1 := by
 have h1 : Go.Clk.amtD [49,58,48,48] = some 3600 := by decide +kernel
 have h2 : Qb4 [45] = some (0,0,[]) := by decide +kernel
 have h3 : Qcm [88] = true := by decide +kernel
 have h4 : Qfj [50,48,48,48] = some 2000 := by decide +kernel
 unfold eraP QcC QdH Qgp QeJ aF1;simp only [gt,List.getD_cons_succ,List.getD_cons_zero,h1,h2,h3,h4,QaC,Qbq,Qan,List.length_cons,List.length_nil];rfl
theorem a_era2 : eraP aF2 0 = .ok aE2 := by
 have h1 : Go.Clk.amtD [48] = some 0 := by decide +kernel
 have h2 : Qb4 [45] = some (0,0,[]) := by decide +kernel
 have h3 : Qcm [89] = true := by decide +kernel
 unfold eraP aF2;simp only [gt,List.getD_cons_succ,List.getD_cons_zero,h1,h2,h3,QaC,Qbq,Qan,List.length_cons,List.length_nil];rfl
theorem a_parse1 : Qbe (Go.Lxr.QeG aF1) = { Qae with kind := 2,name := [65],era := aE1 } := by
 obtain ⟨fs,h1,h2⟩ := Go.Lxr.QfC aF1 0 (by decide);unfold Qbe;rw [Qj3 h1 (by decide),if_neg (by simp)];have hlen : fs.length = 6 := by rw [← List.length_map (·.1),h2]; rfl
 have hz : Go.Kwd.QbR [65] = true := by decide +kernel
 unfold Qdh;rw [h2,if_neg (fun e => by have e : fs = [] := e; rw [e] at hlen; cases hlen),show QeI (gt aF1 0) = false by decide +kernel,if_neg (by decide),show Go.Kwd.headD (gt aF1 0) = 2 by decide +kernel,if_neg (by decide),if_pos rfl,if_neg (by simp only [hlen]; decide),
  show gt aF1 1 = [65] from rfl,hz,Qbq,Qan,a_era1]
 rfl
theorem a_parse2 : Qbe (Go.Lxr.QeG aF2) = { Qae with kind := 3,era := aE2 } := by
 obtain ⟨fs,h1,h2⟩ := Go.Lxr.QfC aF2 0 (by decide);unfold Qbe;rw [Qj3 h1 (by decide),if_neg (by simp)];have hlen : fs.length = 3 := by rw [← List.length_map (·.1),h2]; rfl
 unfold Qdh;rw [h2,if_neg (fun e => by have e : fs = [] := e; rw [e] at hlen; cases hlen),show QeI (gt aF2 0) = true by decide +kernel,if_pos rfl,if_neg (by simp only [hlen]; decide),a_era2];rfl
theorem a_doc : ofD ((Qda aW).map Qbe) = ⟨[],[⟨[65],[aE1,aE2],[0,1]⟩],[],[]⟩ := by
 rw [a_lines];show ofD [Qbe _,Qbe _] = _;rw [a_parse1,a_parse2];rfl
theorem QlC (w : World) (hw : LOk w) : Calls Tryz.prog 10 #[] w fun e w' => e = .returned (.bool true) ∧ Fr w w' (fun _ => False) := by
 have HP := Xi (QhM aW w hw (by decide));rw [a_doc] at HP;clear hw;go_enter func10,ntmps10;go_wp2_with fail;refine HP.out.mono ?_;rintro e w2 ⟨vr,vz,vl,vd,rfl,hd,hf⟩;obtain ⟨zv,hzv,hoz,hall⟩ := hd.z;obtain ⟨z,rfl⟩ : ∃ z,zv = [z] := by
  have h1 : zv.length = 1 := by
   have := congrArg List.length hzv;simpa using this
  exact List.length_eq_one_iff.1 h1
 obtain ⟨⟨z',ve,vn⟩,hz⟩ : ∃ y,z = y := ⟨_,rfl⟩;subst hz;have hz' : z' = ⟨[65],[aE1,aE2],[0,1]⟩ := by simpa using hzv
 subst hz';obtain ⟨Ae,ce,hve⟩ := (hall _ (List.mem_singleton.2 rfl)).e.slice;have hve : ve = .slice Ae 2 ce := hve;subst hve;obtain ⟨Ar,cr,rfl⟩ := hd.r.slice;obtain ⟨Al,cl,rfl⟩ := hd.l.slice;obtain ⟨Ad,cd,rfl⟩ := hd.g.slice;obtain ⟨Az,cz,rfl,-,-,hrd⟩ := hoz.rd;obtain ⟨bz,off,rfl,hc⟩ := Qhh QcF hrd (i := 0) (x := _) rfl;have c0 : w2.cell? ⟨bz,off,none⟩ = some (strV [65]) := by have := hc 0 (by omega); simpa [Qa1] using this
 have c1 : w2.cell? ⟨bz,off + 1,none⟩ = some (.slice Ae 2 ce) := by have := hc 1 (by omega); simpa [Qa1] using this
 have hn := Fr.new w2 (.cells #[.slice Ar 0 cr,.slice (some ⟨bz,off,none⟩) 1 cz,.slice Al 0 cl,.slice Ad 0 cd] 37) (fun _ => False);have c0 := QaF hn c0 (fun h => h);have c1 := QaF hn c1 (fun h => h);have HF := Xi (ff0 hf hn);clear hn hd hoz hall hrd hc hzv hf;go_wp2_with fail;go_ret;exact ⟨rfl,HF.out⟩
end Go.Proofs.YtlfjknndkjgciaaGreatDoor
namespace Go.Proofs.YtlfjknndkjgciaaGreatDoor
open Go.RowKit Go.Mem Go.Lin Go.Dcm

/-- a document in a variable of its own -/
structure DVar (tr tz tl td : TypeId) (w : World) (q : Nat) (d : DocL) (vr vz vl vd : Value) : Prop where
 b : Blk w q td #[vr,vz,vl,vd]
 d : DocAt tr tz tl w 0 vr vz vl vd d
theorem DVar.kept {tr tz tl td : TypeId} {w w' : World} {q : Nat} {d : DocL} {vr vz vl vd : Value} (h : DVar tr tz tl td w q d vr vz vl vd) (hf : Fr w w' (fun _ => False)) : DVar tr tz tl td w' q d vr vz vl vd := ⟨hf.blk h.b (fun h => h),h.d.kept hf⟩
theorem Qmq {tr tz tl : TypeId} (td : TypeId) {w : World} {B : Nat} {d : DocL} {vr vz vl vd : Value} (h : DocAt tr tz tl w B vr vz vl vd d) : DVar tr tz tl td (w.alloc (.cells #[vr,vz,vl,vd] td)) w.heap.size d vr vz vl vd :=
 ⟨Blk.made w td _,(Qjb h (Nat.zero_le _)).kept (Fr.new _ _ _)⟩
/-- the four slices -/
theorem Qiz {tr tz tl : TypeId} {w : World} {B : Nat} {d : DocL} {vr vz vl vd : Value} (h : DocAt tr tz tl w B vr vz vl vd d) : ∃ Ar cr Az cz Al cl Ad cd,vr = .slice Ar d.rules.length cr ∧ vz = .slice Az d.zones.length cz ∧ vl = .slice Al d.links.length cl ∧ vd = .slice Ad d.diags.length cd := by
 obtain ⟨A1,c1,e1⟩ := h.r.slice;obtain ⟨zv,hz,ho,-⟩ := h.z;obtain ⟨A2,c2,e2⟩ := ho.slice;obtain ⟨A3,c3,e3⟩ := h.l.slice;obtain ⟨A4,c4,e4⟩ := h.g.slice;have hl : zv.length = d.zones.length := by rw [← hz,List.length_map]
 rw [hl] at e2;exact ⟨A1,c1,A2,c2,A3,c3,A4,c4,e1,e2,e3,e4⟩
/-- a zone of a document: its cells,its slices -/
theorem doc_zone {tr tz tl : TypeId} {w : World} {B : Nat} {d : DocL} {vr vl vd : Value} {Az : Option Addr} {nz cz : Nat} (h : DocAt tr tz tl w B vr (.slice Az nz cz) vl vd d) {i : Nat} (hi : i < d.zones.length) : ∃ bz off Ae ce An cn,Az = some ⟨bz,off,none⟩ ∧
  w.cell? ⟨bz,off + i * 3,none⟩ = some (strV d.zones[i].name) ∧ w.cell? ⟨bz,off + i * 3 + 1,none⟩ = some (.slice Ae d.zones[i].eras.length ce) ∧ w.cell? ⟨bz,off + i * 3 + 2,none⟩ = some (.slice An d.zones[i].lines.length cn) ∧
  Rd w 13 Ae d.zones[i].eras.length (d.zones[i].eras.flatMap eraL) ∧ Rd w 1 An d.zones[i].lines.length (d.zones[i].lines.flatMap intL) := by
 obtain ⟨zv,hz,ho,hall⟩ := h.z;have hl : zv.length = d.zones.length := by rw [← hz,List.length_map]
 have hiz : i < zv.length := by omega
 have e : d.zones[i] = zv[i].1 := by simp only [← hz,List.getElem_map]
 obtain ⟨A,c,e1,-,-,hrd⟩ := ho.rd;injection e1 with e1;subst e1;obtain ⟨bz,off,rfl,hc⟩ := Qhh QcF hrd (List.getElem?_eq_getElem hiz);have hza := hall zv[i] (List.getElem_mem hiz);obtain ⟨Ae,ce,he,-,-,hre⟩ := hza.e.rd;obtain ⟨An,cn,hn,-,-,hrn⟩ := hza.l.rd;have k0 := hc 0 (by omega);have k1 := hc 1 (by omega);have k2 := hc 2 (by omega);simp only [Qa1,List.getElem?_cons_zero,List.getElem?_cons_succ,he,hn] at k0 k1 k2;rw [Nat.add_zero] at k0;rw [e];exact ⟨bz,off,Ae,ce,An,cn,rfl,k0,k1,k2,hre,hrn⟩
theorem int_cell {w : World} {A : Option Addr} {l : List Int} (h : Rd w 1 A l.length (l.flatMap intL)) {k : Nat} (hk : k < l.length) : ∃ b off,A = some ⟨b,off,none⟩ ∧ w.cell? ⟨b,off + k,none⟩ = some (intV l[k]) := by
 obtain ⟨b,off,e,hc⟩ := Qhh Qi5 h (List.getElem?_eq_getElem hk);have := hc 0 (by omega);rw [Nat.mul_one,Nat.add_zero] at this;exact ⟨b,off,e,this⟩
def Qp7 (w : World) (e : Ending) (w' : World) : Prop := e = .returned (.bool true) ∧ Fr w w' (fun _ => False)
end Go.Proofs.YtlfjknndkjgciaaGreatDoor
namespace Go.Proofs.YtlfjknndkjgciaaGreatDoor
open _root_.Go.Proofs.Tryz
open Go.RowKit Go.Mem Go.Lin Go.Dcm

theorem Qj0 : (Tryz.prog.info? 65).map (·.size) = some 4 := by kernel_rfl
theorem Qpo : (Tryz.prog.info? 61).map (·.size) = some 12 := by kernel_rfl
theorem Qpp : (Tryz.prog.info? 63).map (·.size) = some 3 := by kernel_rfl
theorem Qeq : (Tryz.prog.info? 69).map (·.size) = some 3 := by kernel_rfl
theorem int_at {w : World} {A : Option Addr} {l : List Int} (h : Rd w 1 A l.length (l.flatMap intL)) {i : Nat} (hi : i < l.length) : ∃ b off,A = some ⟨b,off,none⟩ ∧ w.cell? ⟨b,off + i,none⟩ = some (intV l[i]) := int_cell h hi
theorem Qqd (l : List DiagL) (A B : Option Addr) (ca cb : Nat) (w : World) (h1 : Rd w 4 A l.length (l.flatMap QcM)) (h2 : Rd w 4 B l.length (l.flatMap QcM)) (hm : l.length ≤ 1000000) : Calls Tryz.prog 22 #[.slice A l.length ca,.slice B l.length cb] w (Qp7 w) := by
 have H1 := Xi h1;have H2 := Xi h2;clear h1 h2;go_enter func22,ntmps22;go_wp2_with fail
 go_loopg [5] l.length (fun k v5 wr => ∃ i : Nat,i + k = l.length ∧ v5 = intV (i : Int) ∧ Fr w wr (fun _ => False))
 case atStart => exact ⟨0,by simp,rfl,Fr.refl _ _⟩
 case round =>
  obtain ⟨i,hik,rfl,hf⟩ := hrel;by_cases hlt : i < l.length
  ·have hi1 : (i : Int) < (l.length : Int) := by omega
   obtain ⟨b1,o1,rfl,c1⟩ := QdC Qj8 (Rd.fr H1.out hf (fun _ _ _ _ h => h)) hlt;obtain ⟨b2,o2,rfl,c2⟩ := QdC Qj8 (Rd.fr H2.out hf (fun _ _ _ _ h => h)) hlt;obtain ⟨x,hx⟩ : ∃ x,l[i] = x := ⟨_,rfl⟩;rw [hx] at c1 c2;have HF := Xi hf;have C1 := Xi c1;have C2 := Xi c2;clear c1 c2;clear hx hf;go_wp2_with fail;refine wp_region_held_drew (S := fun w' => Fr wr w' (fun _ => False)) (by kernel_rfl) (Fr.drew wr _) (fun hHeld => ?_);refine Xt 0 (v := ?_) (fun w' hSw => ?_) ?_;rotate_left
   ·skip;go_simp
    try with_reducible rfl
   try simp only [Act.put,Xa]
   refine Xt 1 (v := ?_) (fun w' hSw => ?_) ?_;rotate_left
   ·skip;go_simp
    try with_reducible rfl
   try simp only [Act.put,Xa]
   refine Xt 2 (v := ?_) (fun w' hSw => ?_) ?_;rotate_left
   ·skip;go_simp
    try with_reducible rfl
   try simp only [Act.put,Xa]
   refine wpAnyH_take (i := 3) (v := _) rfl (by kernel_rfl) (by kernel_rfl) (by kernel_rfl) (fun _ _ _ h => h) (Qch 65 _ b1 (o1 + i * 4) (QcM x).toArray _ (by rfl) rfl (by rfl) (fun w' h => QbA h C1.out (Nat.le_refl _) (fun h => h)) underlying65 rfl Qj0) (by assumption) ?_
   try simp only [Act.put,Xa]
   refine Xt 4 (v := ?_) (fun w' hSw => ?_) ?_;rotate_left
   ·skip;go_simp
    try with_reducible rfl
   try simp only [Act.put,Xa]
   refine Xt 5 (v := ?_) (fun w' hSw => ?_) ?_;rotate_left
   ·skip;go_simp
    try with_reducible rfl
   try simp only [Act.put,Xa]
   refine Xt 6 (v := ?_) (fun w' hSw => ?_) ?_;rotate_left
   ·skip;go_simp
    try with_reducible rfl
   try simp only [Act.put,Xa]
   refine wpAnyH_take (i := 7) (v := _) rfl (by kernel_rfl) (by kernel_rfl) (by kernel_rfl) (fun _ _ _ h => h) (Qch 65 _ b2 (o2 + i * 4) (QcM x).toArray _ (by rfl) rfl (by rfl) (fun w' h => QbA h C2.out (Nat.le_refl _) (fun h => h)) underlying65 rfl Qj0) (by assumption) ?_
   try simp only [Act.put,Xa]
   refine wpAnyH_take (i := 8) (v := _) rfl (by kernel_rfl) (by kernel_rfl) (by kernel_rfl) (fun _ _ _ h => h) (Qe1 (by rfl) rfl (by rfl) (by rfl) (Qnv _ _ _ _) (Qok x)) (by assumption) ?_
   try simp only [Act.put,Xa]
   refine wpAnyH_done (by kernel_rfl) ?_ _;clear hHeld;have HD := Xi (ff0 HF.out (Fr.drew wr (fun _ => False)));go_wp2_with fail
   go_roundg (l.length - (i + 1))
   case measure => omega
   case rel => exact ⟨i + 1,by omega,by go_num,HD.out⟩
  ·obtain rfl : i = l.length := by omega
   have hi1 : (l.length : Int) ≤ (l.length : Int) := Int.le_refl _;have HF := Xi hf;clear hf;go_wp2_with fail;go_ret;exact ⟨rfl,HF.out⟩
theorem Eras_any (l : List EraL) (A B : Option Addr) (ca cb : Nat) (w : World) (h1 : Rd w 13 A l.length (l.flatMap eraL)) (h2 : Rd w 13 B l.length (l.flatMap eraL)) (hm : l.length ≤ 1000000) : Calls Tryz.prog 23 #[.slice A l.length ca,.slice B l.length cb] w (Qp7 w) := by
 have H1 := Xi h1;have H2 := Xi h2;clear h1 h2;go_enter func23,ntmps23;go_wp2_with fail
 go_loopg [5] l.length (fun k v5 wr => ∃ i : Nat,i + k = l.length ∧ v5 = intV (i : Int) ∧ Fr w wr (fun _ => False))
 case atStart => exact ⟨0,by simp,rfl,Fr.refl _ _⟩
 case round =>
  obtain ⟨i,hik,rfl,hf⟩ := hrel;by_cases hlt : i < l.length
  ·have hi1 : (i : Int) < (l.length : Int) := by omega
   obtain ⟨b1,o1,rfl,c1⟩ := QdC Qmn (Rd.fr H1.out hf (fun _ _ _ _ h => h)) hlt;obtain ⟨b2,o2,rfl,c2⟩ := QdC Qmn (Rd.fr H2.out hf (fun _ _ _ _ h => h)) hlt;obtain ⟨x,hx⟩ : ∃ x,l[i] = x := ⟨_,rfl⟩;rw [hx] at c1 c2;have HF := Xi hf;have C1 := Xi c1;have C2 := Xi c2;clear c1 c2;clear hx hf;go_wp2_with fail;refine wp_region_held_drew (S := fun w' => Fr wr w' (fun _ => False)) (by kernel_rfl) (Fr.drew wr _) (fun hHeld => ?_);refine Xt 0 (v := ?_) (fun w' hSw => ?_) ?_;rotate_left
   ·skip;go_simp
    try with_reducible rfl
   try simp only [Act.put,Xa]
   refine Xt 1 (v := ?_) (fun w' hSw => ?_) ?_;rotate_left
   ·skip;go_simp
    try with_reducible rfl
   try simp only [Act.put,Xa]
   refine Xt 2 (v := ?_) (fun w' hSw => ?_) ?_;rotate_left
   ·skip;go_simp
    try with_reducible rfl
   try simp only [Act.put,Xa]
   refine wpAnyH_take (i := 3) (v := _) rfl (by kernel_rfl) (by kernel_rfl) (by kernel_rfl) (fun _ _ _ h => h) (Qch 55 _ b1 (o1 + i * 13) (eraL x).toArray _ (by rfl) rfl (by rfl) (fun w' h => QbA h C1.out (Nat.le_refl _) (fun h => h)) underlying55 rfl (show _ = some 13 by kernel_rfl)) (by assumption) ?_
   try simp only [Act.put,Xa]
   refine Xt 4 (v := ?_) (fun w' hSw => ?_) ?_;rotate_left
   ·skip;go_simp
    try with_reducible rfl
   try simp only [Act.put,Xa]
   refine Xt 5 (v := ?_) (fun w' hSw => ?_) ?_;rotate_left
   ·skip;go_simp
    try with_reducible rfl
   try simp only [Act.put,Xa]
   refine Xt 6 (v := ?_) (fun w' hSw => ?_) ?_;rotate_left
   ·skip;go_simp
    try with_reducible rfl
   try simp only [Act.put,Xa]
   refine wpAnyH_take (i := 7) (v := _) rfl (by kernel_rfl) (by kernel_rfl) (by kernel_rfl) (fun _ _ _ h => h) (Qch 55 _ b2 (o2 + i * 13) (eraL x).toArray _ (by rfl) rfl (by rfl) (fun w' h => QbA h C2.out (Nat.le_refl _) (fun h => h)) underlying55 rfl (show _ = some 13 by kernel_rfl)) (by assumption) ?_
   try simp only [Act.put,Xa]
   refine wpAnyH_take (i := 8) (v := _) rfl (by kernel_rfl) (by kernel_rfl) (by kernel_rfl) (fun _ _ _ h => h) (Qe1 (by rfl) rfl (by rfl) (by rfl) (QpC _ _ _ _) (show ∀ w,(binOp .neq 55 (.agg (eraL x).toArray) (.agg (eraL x).toArray)).run Tryz.prog w = .ok (.bool false) w from same_era x)) (by assumption) ?_
   try simp only [Act.put,Xa]
   refine wpAnyH_done (by kernel_rfl) ?_ _;clear hHeld;have HD := Xi (ff0 HF.out (Fr.drew wr (fun _ => False)));go_wp2_with fail
   go_roundg (l.length - (i + 1))
   case measure => omega
   case rel => exact ⟨i + 1,by omega,by go_num,HD.out⟩
  ·obtain rfl : i = l.length := by omega
   have hi1 : (l.length : Int) ≤ (l.length : Int) := Int.le_refl _;have HF := Xi hf;clear hf;go_wp2_with fail;go_ret;exact ⟨rfl,HF.out⟩
theorem Ints_any (l : List Int) (A B : Option Addr) (ca cb : Nat) (w : World) (h1 : Rd w 1 A l.length (l.flatMap intL)) (h2 : Rd w 1 B l.length (l.flatMap intL)) (hm : l.length ≤ 1000000) : Calls Tryz.prog 24 #[.slice A l.length ca,.slice B l.length cb] w (Qp7 w) := by
 have H1 := Xi h1;have H2 := Xi h2;clear h1 h2;go_enter func24,ntmps24;go_wp2_with fail
 go_loopg [5] l.length (fun k v5 wr => ∃ i : Nat,i + k = l.length ∧ v5 = intV (i : Int) ∧ Fr w wr (fun _ => False))
 case atStart => exact ⟨0,by simp,rfl,Fr.refl _ _⟩
 case round =>
  obtain ⟨i,hik,rfl,hf⟩ := hrel;by_cases hlt : i < l.length
  ·have hi1 : (i : Int) < (l.length : Int) := by omega
   obtain ⟨b1,o1,rfl,c1⟩ := int_at (Rd.fr H1.out hf (fun _ _ _ _ h => h)) hlt;obtain ⟨b2,o2,rfl,c2⟩ := int_at (Rd.fr H2.out hf (fun _ _ _ _ h => h)) hlt;obtain ⟨x,hx⟩ : ∃ x,l[i] = x := ⟨_,rfl⟩;rw [hx] at c1 c2;have HF := Xi hf;clear hx hf;go_wp2_with fail;refine wp_region_held_drew (S := fun w' => Fr wr w' (fun _ => False)) (by kernel_rfl) (Fr.drew wr _) (fun hHeld => ?_);refine Xt 0 (v := ?_) (fun w' hSw => ?_) ?_;rotate_left
   ·skip;go_simp
    try with_reducible rfl
   try simp only [Act.put,Xa]
   refine Xt 1 (v := ?_) (fun w' hSw => ?_) ?_;rotate_left
   ·skip;go_simp
    try with_reducible rfl
   try simp only [Act.put,Xa]
   refine Xt 2 (v := ?_) (fun w' hSw => ?_) ?_;rotate_left
   ·skip;go_simp
    try with_reducible rfl
   try simp only [Act.put,Xa]
   refine Xt 3 (v := ?_) (fun w' hSw => ?_) ?_;rotate_left
   ·have k1 := QaF hSw c1 (fun h => h); go_simp; try with_reducible rfl
   try simp only [Act.put,Xa]
   refine Xt 4 (v := ?_) (fun w' hSw => ?_) ?_;rotate_left
   ·skip;go_simp
    try with_reducible rfl
   try simp only [Act.put,Xa]
   refine Xt 5 (v := ?_) (fun w' hSw => ?_) ?_;rotate_left
   ·skip;go_simp
    try with_reducible rfl
   try simp only [Act.put,Xa]
   refine Xt 6 (v := ?_) (fun w' hSw => ?_) ?_;rotate_left
   ·skip;go_simp
    try with_reducible rfl
   try simp only [Act.put,Xa]
   refine Xt 7 (v := ?_) (fun w' hSw => ?_) ?_;rotate_left
   ·have k2 := QaF hSw c2 (fun h => h); go_simp; try with_reducible rfl
   try simp only [Act.put,Xa]
   refine Xt 8 (v := ?_) (fun w' hSw => ?_) ?_;rotate_left
   ·skip;go_simp
    try with_reducible rfl
   try simp only [Act.put,Xa]
   refine wpAnyH_done (by kernel_rfl) ?_ _;clear hHeld;have HD := Xi (ff0 HF.out (Fr.drew wr (fun _ => False)));go_wp2_with fail
   go_roundg (l.length - (i + 1))
   case measure => omega
   case rel => exact ⟨i + 1,by omega,by go_num,HD.out⟩
  ·obtain rfl : i = l.length := by omega
   have hi1 : (l.length : Int) ≤ (l.length : Int) := Int.le_refl _;have HF := Xi hf;clear hf;go_wp2_with fail;go_ret;exact ⟨rfl,HF.out⟩
end Go.Proofs.YtlfjknndkjgciaaGreatDoor
namespace Go.Proofs.YtlfjknndkjgciaaGreatDoor
open Go.RowKit Go.Mem Go.Lin Go.Dcm

theorem Qom (r : RuleL × Int) : ∀ j,j < (Qam r.1).size → (Qbu r)[j]? = (Qam r.1)[j]? := by
 intro j hj;unfold Qbu;rw [List.getElem?_append_left (by simpa using hj)];simp
theorem doc_d {tr tz tl : TypeId} {w : World} {B : Nat} {d : DocL} {vr vz vl : Value} {Ad : Option Addr} {n cd : Nat} (h : DocAt tr tz tl w B vr vz vl (.slice Ad n cd) d) : Rd w 4 Ad d.diags.length (d.diags.flatMap QcM) := by
 obtain ⟨A,c,e,-,-,hr⟩ := h.g.rd;injection e with e;subst e;exact hr
theorem doc_r {tr tz tl : TypeId} {w : World} {B : Nat} {d : DocL} {vd vz vl : Value} {Ad : Option Addr} {n cd : Nat} (h : DocAt tr tz tl w B (.slice Ad n cd) vz vl vd d) : Rd w 12 Ad d.rules.length (d.rules.flatMap Qbu) := by
 obtain ⟨A,c,e,-,-,hr⟩ := h.r.rd;injection e with e;subst e;exact hr
/-- what is known once both texts are Qbi -/
structure J2 (w W : World) (p q : Nat) (da db : DocL) (ar az al ad br bz bl bd : Value) : Prop where
 a : DVar 72 71 78 37 W p da ar az al ad
 b : DVar 72 71 78 37 W q db br bz bl bd
 f : Fr w W (fun _ => False)
theorem J2.kept {w W W' : World} {p q : Nat} {da db : DocL} {ar az al ad br bz bl bd : Value} (h : J2 w W p q da db ar az al ad br bz bl bd) (hf : Fr W W' (fun _ => False)) : J2 w W' p q da db ar az al ad br bz bl bd := ⟨h.a.kept hf,h.b.kept hf,ff0 h.f hf⟩
end Go.Proofs.YtlfjknndkjgciaaGreatDoor
