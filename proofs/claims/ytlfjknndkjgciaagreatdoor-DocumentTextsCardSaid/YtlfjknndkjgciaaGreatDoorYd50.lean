import Derived.Test.YtlfjknndkjgciaaGreatDoorYd49
import Derived.Test.YtlfjknndkjgciaaGreatDoorYd35
import Derived.Test.YtlfjknndkjgciaaGreatDoorYd45
import Derived.Test.YtlfjknndkjgciaaGreatDoorYd34
import Derived.LoopTactic
import Derived.Test.YtlfjknndkjgciaaGreatDoorYd46
set_option maxRecDepth 100000
set_option maxHeartbeats 3200000
namespace Go.Proofs.YtlfjknndkjgciaaGreatDoor
open Go.RowKit Go.Mem Go.Lin Go.Dcm

/-- a document of the program,as Back asks it -/
theorem QpQ {tr tz tl : TypeId} {w : World} {B : Nat} {d : DocL} {vr vz vl vd : Value} (h : DocAt tr tz tl w B vr vz vl vd d) : ∃ zv : List ZV,zv.map (·.1) = d.zones ∧ Own w B tr 12 Qbu vr d.rules ∧ Own w B tz 3 Qa1 vz zv ∧ (∀ x ∈ zv,ZAt w B x) ∧ Own w B tl 3 Qcp vl d.links ∧ Own w B 65 4 QcM vd d.diags := by
 obtain ⟨zv,h1,h2,h3⟩ := h.z;exact ⟨zv,h1,h.r,h2,h3,h.l,h.g⟩
theorem back_doc {w w' : World} {B : Nat} {d : DocL} {vr vz vl vd : Value} {zv : List ZV} (hz : zv.map (·.1) = d.zones) (h1 : Own w' w.heap.size 61 12 Qbu vr d.rules) (h2 : Own w' w.heap.size 69 3 Qa1 vz zv) (h3 : Own w' w.heap.size 63 3 Qcp vl d.links)
  (ha : ∀ x ∈ zv,ZAt w B x) (hd : Own w B 65 4 QcM vd d.diags) (hf : Fr w w' (fun _ => False)) : DocAt 61 69 63 w' 0 vr vz vl vd d :=
 ⟨QaU h1 (Nat.zero_le _),⟨zv,hz,QaU h2 (Nat.zero_le _),fun x hx => QgK ((ha x hx).kept hf) (Nat.zero_le _)⟩,QaU h3 (Nat.zero_le _),QaU (hd.kept hf) (Nat.zero_le _)⟩
end Go.Proofs.YtlfjknndkjgciaaGreatDoor
namespace Go.Proofs.YtlfjknndkjgciaaGreatDoor
open _root_.Go.Proofs.Tryz
open Go.RowKit Go.Mem Go.Lin Go.Dcm

theorem QmD {X Y : Type} (g : X → Y) (l : List X) (i : Nat) (h : i < l.length) : (l.take (i + 1)).map g = (l.take i).map g ++ [g l[i]] := by
 rw [List.take_succ_eq_append_getElem h,List.map_append];rfl
/-- while the reference parses lines: the first i of them lie in the row v -/
def PI4 (w : World) (L : List Bs) (H c : Nat) (k : Nat) (v4 v5 : Value) (wr : World) : Prop := ∃ (i : Nat) (A : Option Addr) (cap : Nat),i + k = L.length ∧ v5 = intV (i : Int) ∧ v4 = .slice A i cap ∧ Own wr (w.heap.size + 1) 58 29 Qen (.slice A i cap) ((L.take i).map Qbe) ∧
 Own wr (w.heap.size + 1) 9 1 strL (.slice (some ⟨H,0,none⟩) L.length c) L ∧ Blk wr w.heap.size 31 #[.slice none 0 0,.slice none 0 0,.slice none 0 0,.slice none 0 0] ∧ Fr w wr (fun _ => False)
theorem res_rdoc {w : World} {q : Nat} {cs : Array Value} (hs : cs.size = 4) (hb : Blk w q 31 cs) (tmps : Array Value) (hp : tmps.getD 2 undef = .pointer (some ⟨q,0,none⟩)) : (results f19 tmps).run Tryz.prog w = .ok (.agg cs) w :=
 results_cell_row (P := Tryz.prog) (fn := f19) (p := 2) (ty := 31) rfl tmps _ q 31 cs (0,0) _ hp hb underlying31 rfl (by rw [hs]; exact Qc0)
theorem Qpn (vr vz vl vd : Value) : (Tryz.prog.info? 31).map (·.size) = some (#[vr,vz,vl,vd] : Array Value).size := Qc0
theorem QjJ (l : Bs) (w : World) (hl : l.length ≤ 18000) : Calls Tryz.prog 19 #[strV l] w (Qgn 61 69 63 w (ofD ((Qda l).map Qbe))) := by
 have hf0 := Fr.new w (.cells #[.slice none 0 0,.slice none 0 0,.slice none 0 0,.slice none 0 0] 31) (fun _ => False);have HL := Xi (Qgu l (w.alloc (.cells #[.slice none 0 0,.slice none 0 0,.slice none 0 0,.slice none 0 0] 31)) (by omega));have HR0 := Xi (Blk.made w 31 #[.slice none 0 0,.slice none 0 0,.slice none 0 0,.slice none 0 0]);have HF0 := Xi hf0;have hle := QhA l;have s1 : (w.alloc (.cells #[.slice none 0 0,.slice none 0 0,.slice none 0 0,.slice none 0 0] 31)).heap.size = w.heap.size + 1 := by simp
 obtain ⟨L,hL⟩ : ∃ L,Qda l = L := ⟨_,rfl⟩;rw [hL] at HL hle ⊢;unfold TPost at HL;rw [s1] at HL;have HX := Xi (show ∀ x ∈ L,x.length ≤ 100000 from fun x hx => Nat.le_trans (hle.2 x hx) (by omega));have hn : L.length ≤ 18001 := by omega
 clear hf0 hL hle hl s1;go_enter func19,ntmps19;go_wp2_with fail;refine HL.out.mono ?_;rintro e w2 ⟨H,c,rfl,hHb,ho,hf⟩;have HI := Xi (show PI4 w L H c L.length (.slice none 0 0) (intV 0) w2 from ⟨0,none,0,by simp,rfl,rfl,Qca _ _ _ _ _,ho,hf.blk HR0.out (fun h => h),ff0 HF0.out hf⟩);clear ho hf;go_wp2_with fail
 go_loopg [4,5] L.length (fun k v4 v5 wr => PI4 w L H c k v4 v5 wr)
 case atStart => exact HI.out
 case round =>
  obtain ⟨i,Aw,cap,hik,rfl,rfl,hown,ho,hR,hf⟩ := hrel;by_cases hlt : i < L.length
  ·have c1 := (QlU ho rfl (List.getElem?_eq_getElem hlt)).1;have hxl := HX.out L[i] (List.getElem_mem hlt);have hi1 : (i : Int) < (L.length : Int) := by omega
   have hi0 : (0 : Int) ≤ (i : Int) := by omega
   have hT := QmD Qbe L i hlt;obtain ⟨x,hx⟩ : ∃ x,L[i] = x := ⟨_,rfl⟩;rw [hx] at c1 hxl hT;obtain ⟨y,hy⟩ : ∃ y,Qbe x = y := ⟨_,rfl⟩;have HP := Xi (QkO x y hy wr hxl);rw [hy] at hT;have hli : ((L.take i).map Qbe).length = i := by rw [List.length_map,List.length_take]; omega
   have HO := Xi ho;have HOW := Xi hown;have HR := Xi hR;have HF := Xi hf;have HT := Xi hT;have HLI := Xi hli;clear ho hown hR hf hx hy hxl hT hli;go_wp2_with fail;refine HP.out.mono ?_;rintro e w3 ⟨rfl,hf3⟩;have HO3 := Xi (HO.out.kept hf3);have HOW3 := Xi (HOW.out.kept hf3);have HR3 := Xb hf3 HR;have HF3 := Xi (ff0 HF.out hf3);clear hf3;have i4 : i ≤ 100000 := by omega
   go_wp2_with (first
    | ((with_reducible refine QbC (y := .tmp 19) 22 ?_);refine QaN (t := 22) (e := 58) (y := .tmp 19) (v := .agg (Qad y)) (Qad y) (by rfl) rfl rfl (fun _ => by kernel_rfl) ?_;intro Wm hfm hsm hbm hrm;have HO4 := Xi (HO3.out.kept hfm);have HOW4 := Xi (HOW3.out.kept hfm);have HR4 := Xb hfm HR3;have HF4 := Xi (ff0 HF3.out hfm);have HX4 := Xi hrm;have HB4 := Xi (show w.heap.size + 1 ≤ Wm.heap.size by have := HR3.out.lt; omega);clear hfm hsm hbm hrm)
    | ((with_reducible refine QbI (.tmp 14) (.tmp 20) ?_);refine QaI (f := Qen) (l := (L.take i).map Qbe) (.tmp 14) (.tmp 20) 22 rfl rfl (w.heap.size + 1) 58 _ 29 280 underlying22 Qmh rfl (by decide) _ rfl HOW4.out _ 1 y (Qad y).toList rfl HX4.out rfl (QaZ (Qaj y)) (by rw [HLI.out]; exact i4) (by decide) HB4.out ?_;intro A5 c5 W5 ho5 hf5;have hf5 := Qbn HOW4.out hf5;have HOW5 := Xi ho5;have HO5 := Xi (Qas HO4.out hf5 (by decide));have HR5 := Xi (R.QbH HR4.out hf5 (by decide));have HF5 := Xi (HF4.out.fresh hf5 (fun i h => by have := h.1; omega));clear ho5 hf5))
   go_roundg (gk - 1)
   case measure => omega
   case rel =>
    refine ⟨i + 1,A5,c5,by omega,by go_num,by rw [show min i L.length = i by omega],?_,HO5.out,HR5.out,HF5.out⟩;have := HOW5.out;rw [HLI.out] at this;rw [HT.out];exact this
  ·obtain rfl : i = L.length := by omega
   rw [List.take_length] at hown;have hpl : (L.map Qbe).length = L.length := List.length_map _;have hla : LinesAt wr Aw (L.map Qbe) := by
    obtain ⟨A',c',e',-,-,hr⟩ := hown.rd;injection e' with e1;subst e1;exact hr
   have HD := Xi (show Calls Tryz.prog 14 #[.slice Aw L.length cap] wr (Qgn 61 69 63 wr (ofD (L.map Qbe))) by
    have := QkM (L.map Qbe) Aw cap wr hla (by rw [hpl]; omega);rw [hpl] at this;exact this)
   have hi1 : (L.length : Int) ≤ (L.length : Int) := Int.le_refl _;have hws := hf.size;have HR := Xi hR;have HF := Xi hf;clear hown ho hR hf hpl hla;go_wp2_with fail;refine HD.out.mono ?_;rintro e w3 ⟨vr,vz,vl,vd,rfl,hd3,hf3⟩;have HD3 := Xi (Qjb hd3 hws);have HR3 := Xb hf3 HR;have HF3 := Xi (ff0 HF.out hf3);clear hd3 hf3;go_wp2_with (
    (refine Qbg 31 _ _ w.heap.size 0 31 _ #[vr,vz,vl,vd] #[vr,vz,vl,vd] (by rfl) rfl rfl rfl rfl HR3.out (Qpn _ _ _ _) (Qlp HD3.out) (show 0 + 4 ≤ 4 by decide) rfl ?_;intro w9 hf9 hb9;have HE9 := Xi hb9;have HF9 := Xi hf9;clear hf9 hb9))
   (try simp only [Exit.inBlock,Exit.then]);exact bodyPost_ret (res_rdoc rfl HE9.out _ rfl) rfl ⟨vr,vz,vl,vd,rfl,R.Qgk HD3.out HF9.out HR3.out,HF3.out.fresh HF9.out (fun i e => by have e : i = w.heap.size := e; omega)⟩
theorem Qh9 {α : Type} {ls : List α} {k : Nat} {x : α} (h : ls[k]? = some x) : ls.take (k + 1) = ls.take k ++ [x] := by
 obtain ⟨h1,h2⟩ := List.getElem?_eq_some_iff.1 h;rw [List.take_succ_eq_append_getElem h1,h2]
/-- a slice of texts at a place -/
theorem QlT {w : World} {A : Option Addr} {n : Nat} {ls : List Bs} (h : Rd w 1 A n (ls.map strV)) {k : Nat} (hk : k < n) :
  ∃ b off x,A = some ⟨b,off,none⟩ ∧ ls[k]? = some x ∧ w.cell? ⟨b,off + k,none⟩ = some (strV x) := by
 obtain ⟨b,off,u,e,hu,hc⟩ := h.at_ hk;rw [List.getElem?_map] at hu;obtain ⟨x,hx,rfl⟩ := Option.map_eq_some_iff.1 hu;exact ⟨b,off,x,e,hx,hc⟩
theorem Qjw {w : World} {A : Option Addr} {n : Nat} {ls : List Bs} (h : Rd w 1 A n (ls.map strV)) : ls.length = n := by have := h.1; simpa using this
theorem strV_ne2 {x y : Bs} (h : x ≠ y) : (x == y) = false := by simpa using h
theorem QkK (A B : Option Addr) (n m ca cb : Nat) (la lb : List Bs) (w : World) (ha : Rd w 1 A n (la.map strV)) (hb : Rd w 1 B m (lb.map strV)) (hn : n ≤ maxLen) :
  Calls Tryz.prog 15 #[.slice A n ca,.slice B m cb] w fun e w' => e = .returned (.bool (decide (la = lb))) ∧ ∃ q,w' = w.drewN q := by
 unfold maxLen at hn;have hla := Qjw ha;have hlb := Qjw hb;obtain ⟨x,hx⟩ : ∃ x,decide (la = lb) = x := ⟨_,rfl⟩;rw [hx];by_cases hnm : n = m
 ·subst hnm;have HA := Xi ha;have HB := Xi hb;have HX := Xi hx;have HLA := Xi hla;have HLB := Xi hlb;clear ha hb hx hla hlb;have e0 : ((n : Int) != (n : Int)) = false := by simp
  go_enter func15,ntmps15;go_wp2_with fail
  go_loopw [5] (fun v5 wr => ∃ k : Nat,k ≤ n ∧ v5 = .int .i64 k ∧ la.take k = lb.take k ∧ ∃ q,wr = w.drewN q) (fun v5 _ => n - (intOf v5).toNat)
  case atStart => exact ⟨0,Nat.zero_le _,rfl,rfl,0,rfl⟩
  case round =>
   obtain ⟨k,hk,rfl,hpre,q,hwq⟩ := hrel;have HW := Xi hwq;have HP := Xi hpre;have HA2 : Rd wr 1 A n (la.map strV) := by rw [hwq]; exact HA.out
   have HB2 : Rd wr 1 B n (lb.map strV) := by rw [hwq]; exact HB.out
   have HA2 := Xi HA2;have HB2 := Xi HB2;clear hwq hpre e0;by_cases hlt : k < n
   ·obtain ⟨b1,o1,x1,rfl,hx1,hc1⟩ := QlT HA2.out hlt;obtain ⟨b2,o2,x2,rfl,hx2,hc2⟩ := QlT HB2.out hlt;have HX1 := Xi hx1;have HX2 := Xi hx2;have h1 : (k : Int) < (n : Int) := by omega
    have h2 : (0 : Int) ≤ (k : Int) := by omega
    clear hx1 hx2;by_cases hxx : x1 = x2
    ·subst hxx;have e1 : (x1 == x1) = true := by simp
     go_wp2_with fail
     go_quiet (fail)
     go_wp2_with fail
     go_roundw
     case rel => exact ⟨k + 1,by omega,by go_num,by rw [Qh9 HX1.out,Qh9 HX2.out,HP.out],_,by rw [HW.out,World.drewN_drewN]⟩
     case measure => simp [intOf]; omega
    ·have e1 : (x1 == x2) = false := strV_ne2 hxx;have hf : x = false := by
      rw [← HX.out,decide_eq_false_iff_not];intro e;have h1 := HX1.out;rw [e,HX2.out] at h1;exact hxx (Option.some.inj h1).symm
     subst hf;clear hxx;go_wp2_with fail
     go_quiet (fail)
     go_wp2_with fail;go_ret;exact ⟨rfl,_,by rw [HW.out,World.drewN_drewN]⟩
   ·have hf : x = true := by
     rw [← HX.out,decide_eq_true_iff];have hp := HP.out;rw [List.take_of_length_le (by rw [HLA.out]; omega),List.take_of_length_le (by rw [HLB.out]; omega)] at hp;exact hp
    subst hf;go_wp2_with fail;go_ret;exact ⟨rfl,_,HW.out⟩
 ·have hf : x = false := by
   rw [← hx,decide_eq_false_iff_not];intro e;exact hnm (by rw [← hla,← hlb,e])
  subst hf;have e0 : ((n : Int) != (m : Int)) = true := by simp; omega
  clear ha hb hx hla hlb hnm;go_enter func15,ntmps15;go_wp2_with fail;go_ret;exact ⟨rfl,0,rfl⟩
/-- the law's second half: what a text's lines say,in the code and in the reference -/
theorem Qn9 (s : Bs) (w : World) (hw : LOk w) (_hs : s.length ≤ maxLen) : Calls Tryz.prog 4 #[strV s] w (Qp7 w) := by
 have HW := Xi (fun (W : World) (f : Fr w W (fun _ => False)) => QlC W (hw.fr f));by_cases hb : s.length ≤ 3000
 ·have h1 : (s.length : Int) ≤ 3000 := by omega
  have HA := Xi (fun (W : World) (f : Fr w W (fun _ => False)) => QiA s W (hw.fr f).kwd (by omega));have HB := Xi (fun (W : World) => Qgu s W (by omega));have HC := Xi (fun (W : World) (f : Fr w W (fun _ => False)) => QhM s W (hw.fr f) (by omega));have HD := Xi (fun (W : World) => QjJ s W (by omega));have HZO := Xi (zn_doc (l := (Qda s).map Qbe));have hle := QhA s;have hsz := sizes_of ((Qda s).map Qbe);rw [List.length_map] at hsz;obtain ⟨L,hL⟩ : ∃ L,Qda s = L := ⟨_,rfl⟩;rw [hL] at HA HB HC HD HZO hle hsz;obtain ⟨d,hd⟩ : ∃ d,ofD (L.map Qbe) = d := ⟨_,rfl⟩;rw [hd] at HC HD HZO hsz;obtain ⟨d1,d2,d3,d4⟩ := hsz;have g1 : d.rules.length ≤ 100000 := by omega
  have g2 : d.zones.length ≤ 100000 := by omega
  have g3 : d.links.length ≤ 100000 := by omega
  have g4 : d.diags.length ≤ 100000 := by omega
  have gL : L.length ≤ maxLen := by simp only [maxLen]; omega
  clear hw hd hL d1 d2 d3 d4 hle;go_enter func4,ntmps4;go_wp2_with fail;refine (HA.out w (Fr.refl _ _)).mono ?_;rintro e w2 ⟨b1,c1,rfl,-,ho2,hf2⟩;have HO2 := Xi ho2;have HF2 := Xi hf2;clear ho2 hf2;go_wp2_with fail;refine (HB.out w2).mono ?_;rintro e w3 ⟨b2,c2,rfl,-,ho3,hf3⟩;obtain ⟨A1,k1,e1,-,-,hr1⟩ := (HO2.out.kept hf3).rd;obtain ⟨A2,k2,e2,-,-,hr2⟩ := ho3.rd;injection e1 with e11 e12 e13;injection e2 with e21 e22 e23;subst e11 e21;rw [Qfd] at hr1 hr2;have HT := Xi (QkK _ _ L.length L.length c1 c2 L L w3 hr1 hr2 gL);rw [decide_eq_true rfl] at HT;have HF3 := Xi (ff0 HF2.out hf3);clear ho3 hf3 e12 e13 e22 e23 hr1 hr2;go_wp2_with fail;refine HT.out.mono ?_;rintro e w4 ⟨rfl,q4,rfl⟩;have HF4 := Xi (ff0 HF3.out (Fr.drewN w3 q4 _));have HC4 := Xi (HC.out _ HF4.out);go_wp2_with fail;refine HC4.out.mono ?_;rintro e w5 ⟨vr,vz,vl,vd,rfl,hd5,hf5⟩;obtain ⟨zv,hzv,hr,hz,hall,hl,hg⟩ := QpQ hd5;have HK := Xi (Back_any d vr vz vl vd _ w5 zv hzv hr hz hall hl hg g1 g2 g3);have HF5 := Xi (ff0 HF4.out hf5);have HZV := Xi hzv;have HAL := Xi hall;have HG := Xi hg;clear hd5 hf5 hzv hr hz hall hl hg;go_wp2_with fail;refine HK.out.mono ?_;rintro e w6 ⟨br,bz,bl,rfl,hbr,hbz,hbl,hf6⟩;have HDA := Xi (back_doc HZV.out hbr hbz hbl HAL.out HG.out hf6);have HF6 := Xi (ff0 HF5.out hf6);clear hbr hbz hbl hf6;go_wp2_with fail;refine (HD.out w6).mono ?_;rintro e w7 ⟨cr,cz,cl,cd,rfl,hd7,hf7⟩;have HS := Xi (Same_any d br bz bl vd cr cz cl cd _ _ w7 (HDA.out.kept hf7) hd7 g1 g2 g3 g4 HZO.out);have HF7 := Xi (ff0 HF6.out hf7);clear hd7 hf7;go_wp2_with fail;refine HS.out.mono ?_;rintro e w8 ⟨rfl,hf8⟩;have HA8 := Xi (HW.out w8 (ff0 HF7.out hf8));have HF8 := Xi (ff0 HF7.out hf8);clear hf8;go_wp2_with fail;refine HA8.out.mono ?_;rintro e w9 ⟨rfl,hf9⟩;have HF9 := Xi (ff0 HF8.out hf9);clear hf9;go_wp2_with fail;go_ret;exact ⟨rfl,HF9.out⟩
 ·have h1 : (3000 : Int) < (s.length : Int) := by omega
  have hA := HW.out w (Fr.refl _ _);have HA := Xi hA;clear hw hA hb;go_enter func4,ntmps4;go_wp2_with fail;refine HA.out.mono ?_;rintro e w7 ⟨rfl,hf7⟩;have HF7 := Xi hf7;clear hf7;go_wp2_with fail;go_ret;exact ⟨rfl,HF7.out⟩
end Go.Proofs.YtlfjknndkjgciaaGreatDoor
