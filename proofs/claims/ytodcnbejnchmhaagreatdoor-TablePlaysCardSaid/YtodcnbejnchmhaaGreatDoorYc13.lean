import Derived.Test.YtodcnbejnchmhaaGreatDoorYc12
import Derived.Test.YtodcnbejnchmhaaGreatDoorYc11
import Derived.Test.YtodcnbejnchmhaaGreatDoorProg
import Derived.Test.YtodcnbejnchmhaaGreatDoorYc10
import Derived.Shelf.Strings.BuilderK
import Derived.Lib.FrozenHead2
import Derived.Lib.Hide
set_option maxHeartbeats 2000000
namespace Go.Proofs.YtodcnbejnchmhaaGreatDoor.S3
open _root_.Go.Proofs.Tryz
open Go.RowKit Go.Mem Go.Rope

theorem Qqc (s : ByteArray) (w : World) (hlim : s.size ≤ 1000000) :
  Calls Tryz.prog 150 #[.string s] w fun e w' => e = .returned (.string s) ∧ Fr w w' (fun _ => False) := by
 have HC := Xi (Tryz.stringslite_Clone s w (by omega));go_enter func150,ntmps150;go_wp2_with fail;refine HC.out.mono ?_;rintro e w1 ⟨rfl,hb⟩;have HB := Xi hb;clear hb;go_wp2_with fail;go_ret;exact ⟨rfl,(Fr.ofBelow HB.out).trans (Fr.refl _ (fun _ => False)) (fun i hi h => absurd h (by omega)) (fun _ _ h => h)⟩
theorem QpK {w5 w6 : World} {l : Bs} {x y : Int} (h0 : l ≠ []) (h1 : l.length ≤ 128) (he : w6 = w5.alloc (.cells #[.pointer none,.pointer none,strV l,.int .i64 x,.int .i64 y,.int .i64 1] 192)) (hx : x = (l.length : Int)) (hy : y = (Qah l : Int)) :
  NodeAt w6 w6.heap.size (ptr w5.heap.size) l 1 := by
 subst hx hy;have hb6 : Blk w6 w5.heap.size 192 #[.pointer none,.pointer none,strV l,.int .i64 (l.length : Int),.int .i64 (Qah l : Int),.int .i64 1] := by rw [he]; exact Blk.made _ _ _
 exact .leaf hb6.lt hb6 h0 h1
theorem Qal (l : Bs) : (⟨l.toArray⟩ : ByteArray).size = l.length := by show l.toArray.size = _; simp
theorem Qik (l : Bs) : (⟨l.toArray⟩ : ByteArray).data.toList = l := by simp
theorem str_ne {l : Bs} (h : l ≠ []) : l.isEmpty = false := by simpa using h

theorem Qh2 (w : World) : Calls Tryz.prog 122 #[strV []] w (Qod w [] 0) := by
 go_enter func122,ntmps122;go_wp2_with fail;go_ret;exact ⟨Fr.refl _ _,_,rfl,.empty⟩
theorem Qg7 (l : Bs) (w : World) (h0 : l ≠ []) (h1 : l.length ≤ 128) : Calls Tryz.prog 122 #[strV l] w (Qod w l 1) := by
 have hs := Qal l;have hne := str_ne h0;have hC := Xi (Qqc ⟨l.toArray⟩ w (by rw [hs]; omega));have hK := Xi (fun w => Tryz.strings_Count_one ⟨l.toArray⟩ 10 w);rw [Qik] at hK;have H0 := Xi h0;have HS := Xi hs;clear h0 hs;go_enter func122,ntmps122;go_wp2_with fail;refine hC.out.mono ?_;rintro e w2 ⟨rfl,hf2⟩;have HF2 := Xi hf2;clear hf2;go_wp2_with fail;refine (hK.out _).mono ?_;rintro e w3 ⟨rfl,rfl⟩;go_wp2_with fail;go_ret;exact ⟨ff HF2.out (Fr.new _ _ _),_,rfl,QpK H0.out h1 rfl rfl rfl⟩
theorem kp2 {w a b : World} {p1 p2 o1 o2 : Nat} {v1 v2 : Value} (h : Fr w a (fun _ => False) ∧ a.cell? ⟨p1,o1,none⟩ = some v1 ∧ a.cell? ⟨p2,o2,none⟩ = some v2) (hf : Fr a b (fun _ => False)) :
  Fr w b (fun _ => False) ∧ b.cell? ⟨p1,o1,none⟩ = some v1 ∧ b.cell? ⟨p2,o2,none⟩ = some v2 :=
 ⟨ff h.1 hf,hf.cell0 h.2.1,hf.cell0 h.2.2⟩
/-- joining two nodes,whose heights are n in all at most -/
def Qqy (n : Nat) : Prop := ∀ {w : World} {B : Nat} {va vb : Value} {sa sb : Bs} {ha hb : Nat},NodeAt w B va sa ha → NodeAt w B vb sb hb → sa.length + sb.length ≤ 100000 → ha ≤ 400 → hb ≤ 400 → ha + hb ≤ n →
  Calls Tryz.prog 123 #[va,vb] w (QeR w (sa ++ sb) (max ha hb))

theorem QjN {w : World} {B : Nat} {vb : Value} {sb : Bs} {hb : Nat} (nb : NodeAt w B vb sb hb) : Calls Tryz.prog 123 #[.pointer none,vb] w (QeR w sb hb) := by
 have HB := Xi nb.own;clear nb;go_enter func123,ntmps123;go_wp2_with fail;go_ret;exact ⟨hb,Nat.le_refl _,by omega,Fr.refl _ _,_,rfl,HB.out⟩
theorem QpQ {w : World} {B : Nat} {va : Value} {sa : Bs} {ha : Nat} (na : NodeAt w B va sa ha) (h1 : 1 ≤ ha) : Calls Tryz.prog 123 #[va,.pointer none] w (QeR w sa ha) := by
 obtain ⟨ga,xa,ya,la,rfl,hga,ka⟩ := na.block h1;have hne := fun w => QbF w ga;have HA := Xi na.own;clear na ka;go_enter func123,ntmps123;go_wp2_with fail;go_ret;exact ⟨ha,Nat.le_refl _,by omega,Fr.refl _ _,_,rfl,HA.out⟩

theorem QpR {n : Nat} (IH : Qqy n) {w : World} {B : Nat} {va vb : Value} {sa sb : Bs} {ha hb : Nat} (na : NodeAt w B va sa ha) (nb : NodeAt w B vb sb hb) (h1 : 1 ≤ ha) (h2 : 1 ≤ hb) (hz : sa.length + sb.length ≤ 100000) (hha : ha ≤ 400) (hhb : hb ≤ 400) (hn : ha + hb ≤ n + 1) (hc : hb < ha) :
  Calls Tryz.prog 123 #[va,vb] w (QeR w (sa ++ sb) (max ha hb)) := by
 obtain ⟨gc',xc,yc,lc,e1,hgc,kc⟩ := nb.block h2;subst e1;obtain ⟨g,gc,gd,sc,sd,hc',hd',e2,e3,e4,kg,nc,nd,i1,i2,i3,i4,-⟩ := na.two (by omega);subst e2 e3;rw [List.length_append] at hz;have hne1 := fun w => QbF w g;have hne2 := fun w => QbF w gc';have c0 := Qaa kg 0;have c1 := Qaa kg 1;have c5 := Qaa kg 5;have d5 := Qaa kc 5;simp at c0 c1 c5 d5;have c5' : w.cell? ⟨g,5,none⟩ = some (.int .i64 (ha : Int)) := by rw [c5,e4]; congr
 have HC := Xi nc;have HD := Xi nd;have HB := Xi nb;have hS0 : Hid (∀ k,Fr w (w.drewN k) (fun _ => False) ∧ (w.drewN k).cell? ⟨g,0,none⟩ = some (ptr gc) ∧ (w.drewN k).cell? ⟨g,1,none⟩ = some (ptr gd)) := Xi fun k => ⟨Fr.drewN _ _ _,c0,c1⟩;have hS1 : Hid (∀ j k,Fr w ((w.drewN j).drewN k) (fun _ => False) ∧ ((w.drewN j).drewN k).cell? ⟨g,0,none⟩ = some (ptr gc) ∧ ((w.drewN j).drewN k).cell? ⟨g,1,none⟩ = some (ptr gd)) := Xi fun j k => ⟨ff (Fr.drewN _ _ _) (Fr.drewN _ _ _),c0,c1⟩;have t1 : (ha : Int) > (hb : Int) := by omega
 clear na nb kg kc nc nd c5;go_enter func123,ntmps123;go_wp2_with fail
 go_quiet (fail)
 go_wp2_with fail
 go_region_held3 (fun w' => Fr w w' (fun _ => False) ∧ w'.cell? ⟨g,0,none⟩ = some (ptr gc) ∧ w'.cell? ⟨g,1,none⟩ = some (ptr gd))
  (first | with_reducible exact kp2 (hS0.out _) (Fr.drew _ _) | with_reducible exact kp2 (hS1.out _ _) (Fr.drew _ _) | with_reducible exact kp2 hS hf6 | with_reducible exact kp2 hS hf5 | with_reducible exact kp2 (hS0.out _) hf5 | with_reducible assumption)
  ((first
   | (go_at_call 151; rename_i hS _ _; refine (Qmy (HC.out.keepo hS.1) n5 (by omega) (by omega) (by omega) (by omega) (by simp; omega) (by omega)).mono ?_; rintro e w6 ⟨h6,l6,u6,p6,hf6,v6,rfl,n6⟩)
   | (go_at_call 123; rename_i hS _ _; (first | refine (IH (HD.out.keepo hS.1) (HB.out.keepo hS.1) (by omega) (by omega) (by omega) (by omega)).mono ?_ | refine (IH (HD.out.keepo (hS0.out _).1) (HB.out.keepo (hS0.out _).1) (by omega) (by omega) (by omega) (by omega)).mono ?_); rintro e w5 ⟨h5,l5,u5,hf5,v5,rfl,n5⟩; obtain ⟨g5,x5,y5,z5,rfl,-,-⟩ := n5.block (by omega))))
 rename_i hS;have HS := Xi hS.1;have HN6 := Xi n6;clear hS n6;go_wp2_with fail;go_ret;refine ⟨h6,?_,?_,HS.out,_,rfl,HN6.out.cast (by simp)⟩ <;> omega

theorem join_low {n : Nat} (IH : Qqy n) {w : World} {B : Nat} {va vb : Value} {sa sb : Bs} {ha hb : Nat} (na : NodeAt w B va sa ha) (nb : NodeAt w B vb sb hb) (h1 : 1 ≤ ha) (h2 : 1 ≤ hb) (hz : sa.length + sb.length ≤ 100000) (hha : ha ≤ 400) (hhb : hb ≤ 400) (hn : ha + hb ≤ n + 1) (hc : ha < hb) :
  Calls Tryz.prog 123 #[va,vb] w (QeR w (sa ++ sb) (max ha hb)) := by
 obtain ⟨gc',xc,yc,lc,e1,hgc,kc⟩ := na.block h1;subst e1;obtain ⟨g,gc,gd,sc,sd,hc',hd',e2,e3,e4,kg,nc,nd,i1,i2,i3,i4,-⟩ := nb.two (by omega);subst e2 e3;rw [List.length_append] at hz;have hne1 := fun w => QbF w g;have hne2 := fun w => QbF w gc';have c0 := Qaa kg 0;have c1 := Qaa kg 1;have c5 := Qaa kg 5;have d5 := Qaa kc 5;simp at c0 c1 c5 d5;have c5' : w.cell? ⟨g,5,none⟩ = some (.int .i64 (hb : Int)) := by rw [c5,e4]; congr
 have HC := Xi nc;have HD := Xi nd;have HA := Xi na;have hS0 : Hid (∀ k,Fr w (w.drewN k) (fun _ => False) ∧ (w.drewN k).cell? ⟨g,0,none⟩ = some (ptr gc) ∧ (w.drewN k).cell? ⟨g,1,none⟩ = some (ptr gd)) := Xi fun k => ⟨Fr.drewN _ _ _,c0,c1⟩;have hS1 : Hid (∀ j k,Fr w ((w.drewN j).drewN k) (fun _ => False) ∧ ((w.drewN j).drewN k).cell? ⟨g,0,none⟩ = some (ptr gc) ∧ ((w.drewN j).drewN k).cell? ⟨g,1,none⟩ = some (ptr gd)) := Xi fun j k => ⟨ff (Fr.drewN _ _ _) (Fr.drewN _ _ _),c0,c1⟩;have t1 : ¬ ((ha : Int) > (hb : Int)) := by omega
 have t2 : (ha : Int) < (hb : Int) := by omega
 clear na nb kg kc nc nd c5;go_enter func123,ntmps123;go_wp2_with fail
 go_quiet (fail)
 go_wp2_with fail
 go_quiet (fail)
 go_wp2_with fail
 go_region_held3 (fun w' => Fr w w' (fun _ => False) ∧ w'.cell? ⟨g,0,none⟩ = some (ptr gc) ∧ w'.cell? ⟨g,1,none⟩ = some (ptr gd))
  (first | with_reducible exact kp2 (hS0.out _) (Fr.drew _ _) | with_reducible exact kp2 (hS1.out _ _) (Fr.drew _ _) | with_reducible exact kp2 hS hf6 | with_reducible exact kp2 hS hf5 | with_reducible exact kp2 (hS0.out _) hf5 | with_reducible assumption)
  ((first
   | (go_at_call 151; rename_i hS _ _; refine (Qmy n5 (HD.out.keepo hS.1) (by omega) (by omega) (by omega) (by omega) (by simp; omega) (by omega)).mono ?_; rintro e w6 ⟨h6,l6,u6,p6,hf6,v6,rfl,n6⟩)
   | (go_at_call 123; rename_i hS _ _; (first | refine (IH (HA.out.keepo hS.1) (HC.out.keepo hS.1) (by omega) (by omega) (by omega) (by omega)).mono ?_ | refine (IH (HA.out.keepo (hS0.out _).1) (HC.out.keepo (hS0.out _).1) (by omega) (by omega) (by omega) (by omega)).mono ?_); rintro e w5 ⟨h5,l5,u5,hf5,v5,rfl,n5⟩; obtain ⟨g5,x5,y5,z5,rfl,-,-⟩ := n5.block (by omega))))
 rename_i hS;have HS := Xi hS.1;have HN6 := Xi n6;clear hS n6;go_wp2_with fail;go_ret;refine ⟨h6,?_,?_,HS.out,_,rfl,HN6.out.cast (by simp)⟩ <;> omega

theorem NodeAt.one {w : World} {B : Nat} {v : Value} {s : Bs} {h : Nat} (n : NodeAt w B v s h) (h1 : h = 1) : ∃ g,v = ptr g ∧ Blk w g 192 #[.pointer none,.pointer none,strV s,.int .i64 (s.length : Int),.int .i64 (Qah s : Int),.int .i64 1] ∧ s ≠ [] ∧ s.length ≤ 128 ∧ g < B := by
 cases n with
 | empty => omega
 | leaf hg hk h0 hl => exact ⟨_,rfl,hk,h0,hl,hg⟩
 | pair hg hk na nb k1 k2 k3 k4 => omega
theorem QgK (a b : Bs) : (⟨a.toArray⟩ : ByteArray) ++ ⟨b.toArray⟩ = ⟨(a ++ b).toArray⟩ := by
 apply ByteArray.ext;apply Array.toList_inj.1;simp [ByteArray.data_append]

theorem Qle {w : World} {B : Nat} {va vb : Value} {sa sb : Bs} {ha hb : Nat} (na : NodeAt w B va sa ha) (nb : NodeAt w B vb sb hb) (h1 : ha = 1) (h2 : hb = 1) (hz : sa.length + sb.length ≤ 128) :
  Calls Tryz.prog 123 #[va,vb] w (QeR w (sa ++ sb) 1) := by
 obtain ⟨ga,rfl,ka,ea,la,-⟩ := na.one h1;obtain ⟨gb,rfl,kb,eb,lb,-⟩ := nb.one h2;have hne1 := fun w => QbF w ga;have hne2 := fun w => QbF w gb;have c2 := Qaa ka 2;have c3 := Qaa ka 3;have c5 := Qaa ka 5;have d2 := Qaa kb 2;have d3 := Qaa kb 3;have d5 := Qaa kb 5;simp at c2 c3 c5 d2 d3 d5;have HN := Xi (fun w => Qg7 (sa ++ sb) w (by simp [ea]) (by simp; omega));rw [show strV (sa ++ sb) = .string ((⟨sa.toArray⟩ : ByteArray) ++ ⟨sb.toArray⟩) by rw [QgK]] at HN;have hS2 : Hid (∀ i j,Fr w ((w.drewN i).drewN j) (fun _ => False) ∧ ((w.drewN i).drewN j).cell? ⟨ga,2,none⟩ = some (strV sa) ∧ ((w.drewN i).drewN j).cell? ⟨gb,2,none⟩ = some (strV sb)) := Xi fun i j => ⟨ff (Fr.drewN _ _ _) (Fr.drewN _ _ _),c2,d2⟩;have hS3 : Hid (∀ i j k,Fr w (((w.drewN i).drewN j).drewN k) (fun _ => False) ∧ (((w.drewN i).drewN j).drewN k).cell? ⟨ga,2,none⟩ = some (strV sa) ∧ (((w.drewN i).drewN j).drewN k).cell? ⟨gb,2,none⟩ = some (strV sb)) := Xi fun i j k => ⟨ff (ff (Fr.drewN _ _ _) (Fr.drewN _ _ _)) (Fr.drewN _ _ _),c2,d2⟩;have hS1 : Hid (∀ k,Fr w (w.drewN k) (fun _ => False) ∧ (w.drewN k).cell? ⟨ga,2,none⟩ = some (strV sa) ∧ (w.drewN k).cell? ⟨gb,2,none⟩ = some (strV sb)) := Xi fun k => ⟨Fr.drewN _ _ _,c2,d2⟩;have za := Qal sa;have zb := Qal sb;have wz : IntKind.i64.wrap ((sa.length : Int) + (sb.length : Int)) = (sa.length : Int) + (sb.length : Int) := IntWalk.i64_in _ ⟨by omega,by omega⟩;have hz' : (sa.length : Int) + (sb.length : Int) ≤ 128 := by omega
 have hadd := fun w => run_string_add_sum (P := Tryz.prog) w ⟨sa.toArray⟩ ⟨sb.toArray⟩ (by rw [za,zb]; omega);clear na nb ka kb ea eb;go_enter func123,ntmps123;go_wp2_with fail
 go_quiet (fail)
 go_wp2_with fail
 go_quiet (fail)
 go_wp2_with fail
 go_quiet (fail)
 go_wp2_with fail
 go_region_held3 (fun w' => Fr w w' (fun _ => False) ∧ w'.cell? ⟨ga,2,none⟩ = some (strV sa) ∧ w'.cell? ⟨gb,2,none⟩ = some (strV sb))
  (first | with_reducible exact kp2 (hS1.out _) (Fr.drew _ _) | with_reducible exact kp2 (hS2.out _ _) (Fr.drew _ _) | with_reducible exact kp2 (hS3.out _ _ _) (Fr.drew _ _) | with_reducible exact kp2 hS hf6 | with_reducible exact kp2 (hS1.out _) hf6 | with_reducible assumption)
  ((go_at_call 122; rename_i hS _ _; refine (HN.out _).mono ?_; rintro e w6 ⟨hf6,v6,rfl,n6⟩))
 rename_i hS;have HS := Xi hS.1;have HN6 := Xi n6;clear hS n6;go_wp2_with fail;go_ret;exact ⟨1,Nat.le_refl _,by omega,HS.out,_,rfl,HN6.out⟩

theorem QpP {w : World} {B : Nat} {va vb : Value} {sa sb : Bs} {ha hb : Nat} (na : NodeAt w B va sa ha) (nb : NodeAt w B vb sb hb) (h1 : 1 ≤ ha) (he : ha = hb) (hne : ha = 1 → 128 < sa.length + sb.length) (hz : sa.length + sb.length ≤ 100000) (hha : ha ≤ 400) :
  Calls Tryz.prog 123 #[va,vb] w (QeR w (sa ++ sb) (max ha hb)) := by
 subst he;obtain ⟨ga,xa,ya,la,rfl,hga,ka⟩ := na.block h1;obtain ⟨gb,xb,yb,lb,rfl,hgb,kb⟩ := nb.block h1;have hne1 := fun w => QbF w ga;have hne2 := fun w => QbF w gb;have c3 := Qaa ka 3;have c5 := Qaa ka 5;have d3 := Qaa kb 3;have d5 := Qaa kb 5;simp at c3 c5 d3 d5;have HP := Xi (fun W (hf : Fr w W (fun _ => False)) => Qch (na.keep hf) (nb.keep hf) h1 h1 (by omega) (by omega) (by omega) (by omega) (by omega));have wz : IntKind.i64.wrap ((sa.length : Int) + (sb.length : Int)) = (sa.length : Int) + (sb.length : Int) := IntWalk.i64_in _ ⟨by omega,by omega⟩;have HD := Xi (fun i => Fr.drewN w i (fun _ => False));have HD2 := Xi (fun i j => ff (Fr.drewN w i (fun _ => False)) (Fr.drewN _ j (fun _ => False)));have HD3 := Xi (fun i j k => ff (ff (Fr.drewN w i (fun _ => False)) (Fr.drewN _ j (fun _ => False))) (Fr.drewN _ k (fun _ => False)));clear na nb ka kb;by_cases h1' : ha = 1
 ·have t1 : ((ha : Int) == 1) = true := by simp; omega
  have t2 : ¬ ((sa.length : Int) + (sb.length : Int) ≤ 128) := by have := hne h1'; omega
  clear h1' hne;go_enter func123,ntmps123;go_wp2_with fail
  go_quiet (fail)
  go_wp2_with fail
  go_quiet (fail)
  go_wp2_with fail
  go_quiet (fail)
  go_wp2_with fail
  first
   | (with_reducible refine (HP.out _ (HD.out _)).mono ?_)
   | (with_reducible refine (HP.out _ (HD2.out _ _)).mono ?_)
   | (with_reducible refine (HP.out _ (HD3.out _ _ _)).mono ?_)
  rintro e w6 ⟨hf6,v6,rfl,n6⟩;have HF6 : Hid (Fr w w6 (fun _ => False)) := by
   first
    | with_reducible exact Xi (ff (HD.out _) hf6)
    | with_reducible exact Xi (ff (HD2.out _ _) hf6)
    | with_reducible exact Xi (ff (HD3.out _ _ _) hf6)
  have HN6 := Xi n6;clear hf6 n6;go_wp2_with fail;go_ret;exact ⟨_,by omega,by omega,HF6.out,_,rfl,HN6.out⟩
 ·have t1 : ((ha : Int) == 1) = false := by simp; omega
  clear h1' hne;go_enter func123,ntmps123;go_wp2_with fail
  go_quiet (fail)
  go_wp2_with fail
  go_quiet (fail)
  go_wp2_with fail
  go_quiet (fail)
  go_wp2_with fail
  first
   | (with_reducible refine (HP.out _ (HD.out _)).mono ?_)
   | (with_reducible refine (HP.out _ (HD2.out _ _)).mono ?_)
   | (with_reducible refine (HP.out _ (HD3.out _ _ _)).mono ?_)
  rintro e w6 ⟨hf6,v6,rfl,n6⟩;have HF6 : Hid (Fr w w6 (fun _ => False)) := by
   first
    | with_reducible exact Xi (ff (HD.out _) hf6)
    | with_reducible exact Xi (ff (HD2.out _ _) hf6)
    | with_reducible exact Xi (ff (HD3.out _ _ _) hf6)
  have HN6 := Xi n6;clear hf6 n6;go_wp2_with fail;go_ret;exact ⟨_,by omega,by omega,HF6.out,_,rfl,HN6.out⟩

theorem join_ok : ∀ n,Qqy n := by
 intro n
 induction n with
 | zero =>
  intro w B va vb sa sb ha hb na nb hz hha hhb hn;obtain ⟨rfl,rfl⟩ := na.nil (by omega);have := QjN nb
  rwa [show max ha hb = hb by omega]
 | succ n IH =>
  intro w B va vb sa sb ha hb na nb hz hha hhb hn;rcases Nat.eq_zero_or_pos ha with h0 | h0
  ·obtain ⟨rfl,rfl⟩ := na.nil h0;have := QjN nb
   rwa [show max ha hb = hb by omega]
  ·rcases Nat.eq_zero_or_pos hb with h0' | h0'
   ·obtain ⟨rfl,rfl⟩ := nb.nil h0';have := QpQ na h0
    rwa [List.append_nil,show max ha hb = ha by omega]
   ·rcases Nat.lt_trichotomy ha hb with h | h | h
    ·exact join_low IH na nb h0 h0' hz hha hhb hn h
    ·by_cases hl : ha = 1 ∧ sa.length + sb.length ≤ 128
     ·have := Qle na nb hl.1 (by omega) hl.2
      rwa [show max ha hb = 1 by omega]
     ·exact QpP na nb h0 h (by omega) hz hha
    ·exact QpR IH na nb h0 h0' hz hha hhb hn h
theorem Qgp {w : World} {B : Nat} {va vb : Value} {sa sb : Bs} {ha hb : Nat} (na : NodeAt w B va sa ha) (nb : NodeAt w B vb sb hb) (hz : sa.length + sb.length ≤ 100000) (hha : ha ≤ 400) (hhb : hb ≤ 400) :
  Calls Tryz.prog 123 #[va,vb] w (QeR w (sa ++ sb) (max ha hb)) := join_ok _ na nb hz hha hhb (Nat.le_refl _)
theorem NodeAt.height_le' {w : World} {B : Nat} {v : Value} {s : Bs} {h : Nat} (n : NodeAt w B v s h) (hs : s.length ≤ 100000) : h ≤ 25 := by
 rcases Nat.eq_zero_or_pos h with h0 | h0
 ·omega
 ·have h1 := n.few.2 h0;rcases Nat.lt_or_ge 25 h with h3 | h3
  ·have := QfS (show 26 ≤ h from h3);have e : Qc9 26 = 196418 := by decide +kernel
   omega
  ·exact h3
def Qf9 (w : World) (s : Bs) (e : Ending) (w' : World) : Prop := ∃ h,Qod w s h e w'
theorem QbT (l : Bs) (a b : Nat) : (⟨l.toArray⟩ : ByteArray).extract a b = ⟨(cut l a b).toArray⟩ := by
 apply ByteArray.ext;apply Array.toList_inj.1;simp [cut,List.extract,List.drop_take]

theorem Qk4 (l : Bs) (w : World) (h1 : 128 < l.length) (hz : l.length ≤ 100000) (IH : ∀ (k : Bs) (w : World),k.length < l.length → Calls Tryz.prog 122 #[strV k] w (Qf9 w k)) : Calls Tryz.prog 122 #[strV l] w (Qf9 w l) := by
 have hs := Qal l;have hne := str_ne (l := l) (by intro e; rw [e] at h1; simp at h1);obtain ⟨m,hm⟩ : ∃ m : Nat,m = l.length / 2 := ⟨_,rfl⟩;have hmid : Int.tdiv (l.length : Int) 2 = (m : Int) := by rw [hm,Int.tdiv_eq_ediv_of_nonneg (by omega)]; omega
 have hm0 : (0 : Int) ≤ (m : Int) := by omega
 have hm1 : (m : Int) ≤ (l.length : Int) := by omega
 have HA := Xi (fun w => IH (cut l 0 m) w (by rw [Qbw (by omega) (by omega)]; omega));have HB := Xi (fun w => IH (cut l m l.length) w (by rw [Qbw (by omega) (by omega)]; omega));have hw : wrap64 (m : Int) = (m : Int) := by unfold wrap64; omega
 rw [show strV (cut l 0 m) = .string ((⟨l.toArray⟩ : ByteArray).extract 0 m) by rw [QbT]] at HA;rw [show strV (cut l m l.length) = .string ((⟨l.toArray⟩ : ByteArray).extract m l.length) by rw [QbT]] at HB;have h128 : (128 : Int) < (l.length : Int) := by omega
 have HZ : Hid ((cut l 0 m).length + (cut l m l.length).length ≤ 100000 ∧ (cut l 0 m).length ≤ 100000 ∧ (cut l m l.length).length ≤ 100000) := by
  rw [Qbw (by omega) (by omega),Qbw (by omega) (by omega)];exact Xi ⟨by omega,by omega,by omega⟩
 clear IH hm h1 hz;go_enter func122,ntmps122;go_wp2_with fail
 go_region_held3 (fun w' => Fr w w' (fun _ => False))
  (first | with_reducible exact Fr.drew _ _ | with_reducible exact ff hS hf5 | with_reducible exact ff hS hf6 | with_reducible exact ff hS hf7 | with_reducible assumption)
  ((first
   | (go_at_call 122; rename_i hS _ _; first
     | ((with_reducible refine (HA.out _).mono ?_); rintro e w5 ⟨h5,hf5,v5,rfl,n5⟩)
     | ((with_reducible refine (HB.out _).mono ?_); rintro e w6 ⟨h6,hf6,v6,rfl,n6⟩))
   | (go_at_call 123; rename_i hS _ _; refine (Qgp (n5.keepo hf6) n6 HZ.out.1 (Nat.le_trans (n5.height_le' HZ.out.2.1) (by omega)) (Nat.le_trans (n6.height_le' HZ.out.2.2) (by omega))).mono ?_; rintro e w7 ⟨h7,l7,u7,hf7,v7,rfl,n7⟩)))
 rename_i hS;have HS := Xi hS;have HN := Xi n7;clear hS n7;go_wp2_with fail;go_ret;exact ⟨h7,HS.out,_,rfl,HN.out.cast (by rw [cut_join (by omega) (by omega),Qlw])⟩

theorem QnB (l : Bs) (hz : l.length ≤ 100000) (w : World) : Calls Tryz.prog 122 #[strV l] w (Qf9 w l) := by
 obtain ⟨n,hn⟩ : ∃ n,l.length ≤ n := ⟨_,Nat.le_refl _⟩
 induction n generalizing l w with
 | zero =>
  obtain rfl : l = [] := List.length_eq_zero_iff.1 (by omega);exact (Qh2 w).mono fun e w' h => ⟨0,h⟩
 | succ n ih =>
  by_cases h0 : l = []
  ·subst h0;exact (Qh2 w).mono fun e w' h => ⟨0,h⟩
  ·rcases Nat.lt_or_ge 128 l.length with h | h
   ·exact Qk4 l w h hz fun k w hk => ih k (by omega) w (by omega)
   ·exact (Qg7 l w h0 h).mono fun e w' h => ⟨1,h⟩
theorem Qlj : (Tryz.prog.info? 5).map (fun i => (i.zero,i.size,i.bytes)) = some (some (.int .u8 0),1,1) := by kernel_rfl
theorem QnL : (Tryz.prog.info? 9).map (fun i => (i.zero,i.size,i.bytes)) = some (some (.string ⟨#[]⟩),1,16) := by kernel_rfl
theorem Qli : (Tryz.prog.info? 159).map (fun i => i.size) = some 2 := by kernel_rfl

/-- block b is a Builder that holds the bytes l -/
def IsB (w : World) (b : Nat) (l : Bs) : Prop := Lib.IsBuilderF 159 5 b b (Lib.byteCells l) w
theorem IsB.lt {w : World} {b : Nat} {l : Bs} (h : IsB w b l) : b < w.heap.size := h.elim (fun x => x.lt) (fun x => x.lt)

theorem IsB.fr {w w' : World} {b : Nat} {l : Bs} {S : Nat → Prop} (h : IsB w b l) (hf : Fr w w' S) (hs : ∀ k,b ≤ k → ¬ S k) : IsB w' b l := by
 have each : ∀ p,Lib.BuilderAtF 159 5 b b p (Lib.byteCells l) w → Lib.BuilderAtF 159 5 b b p (Lib.byteCells l) w' := by
  rintro p ⟨hB,v,hb,hown,hne⟩;refine ⟨hB,v,(hf.block b (Array.getElem?_eq_some_iff.1 hb).1 (hs b (Nat.le_refl _))).trans hb,?_,hne⟩;refine ⟨hown.1,?_⟩;rcases hown.2 with hn | ⟨g,cap,cur,fz,rfl,hbg,hgg,rest⟩
  ·exact .inl hn
  ·exact .inr ⟨g,cap,cur,fz,rfl,hbg,(hf.block g (Array.getElem?_eq_some_iff.1 hgg).1 (hs g hbg)).trans hgg,rest⟩
 exact h.imp (each _) (each _)
theorem QiU (B b : Nat) (bs : List Value) (w : World) (h : Lib.IsBuilderF 159 5 B b bs w) :
  Calls Tryz.prog 124 #[.pointer (some ⟨b,0,none⟩)] w fun e w' => e = .returned (.tuple #[]) ∧ (Lib.BuilderAtF 159 5 B b (.pointer (some ⟨b,0,none⟩)) bs w' ∧ Below B w w') := by
 obtain ⟨j,hj,hjs⟩ : ∃ j,Tryz.prog.info? 159 = some j ∧ j.size = 2 := by
  have := Qli;cases hi : Tryz.prog.info? 159 with
  | none => rw [hi] at this; cases this
  | some j => rw [hi] at this; exact ⟨j,rfl,by simpa using this⟩
 rcases h with h | h
 ·have c0 := h.cell0;have f0 := h.frozen0;have hsh := h.shape;have he : ∀ w,(binOp .eql 156 (.pointer none) (.pointer none)).run Tryz.prog w = .ok (.bool true) w := fun w => by kernel_rfl
  have hto := Lib.run_to_unsafe (P := Tryz.prog) w (src := 156) (dst := 214) ⟨b,0,none⟩ underlying156 underlying214 hj (by omega) hsh (by show (0 : Nat) < 2; decide);have hfrom := Lib.run_from_unsafe (P := Tryz.prog) w (src := 214) (dst := 156) ⟨b,0,none⟩ underlying214 underlying156 hj hsh (by kernel_rfl);have hne : ∀ w,(callFunc 153 #[.pointer (some ⟨b,0,none⟩)]).run Tryz.prog w = .ok (.value (.pointer (some ⟨b,0,none⟩))) w := fun w => by kernel_rfl
  have hb2 := h.used (.pointer (some ⟨b,0,none⟩));have c2 := hb2.cell0;have hs2 := fun (w : World) => Lib.run_neq_ptr_same (P := Tryz.prog) w (tp := 156) ⟨b,0,none⟩ underlying156 hj;have HX := Xi hb2;have HB := Xi h.1;clear hb2 h;go_enter func124,ntmps124;go_wp2
  go_end0
  exact ⟨rfl,HX.out,(Below.refl B w).setCell (p := ⟨b,0,none⟩) HB.out _⟩
 ·have c0 := h.cell0;have hs2 := fun (w : World) => Lib.run_neq_ptr_same (P := Tryz.prog) w (tp := 156) ⟨b,0,none⟩ underlying156 hj;have he : ∀ w,(binOp .eql 156 (.pointer (some ⟨b,0,none⟩)) (.pointer none)).run Tryz.prog w = .ok (.bool false) w := fun w => by kernel_rfl
  have HX := Xi h;clear h;go_enter func124,ntmps124;go_wp2
  go_end0
  exact ⟨rfl,HX.out,Below.refl B _⟩

theorem Qqh (b : Nat) (l t : Bs) (s : ByteArray) (w : World) (h : IsB w b l) (hlen : l.length + t.length ≤ 1000000) (hs : s.data.toList = t) :
  Calls Tryz.prog 126 #[.pointer (some ⟨b,0,none⟩),.string s] w fun e w' => e = .returned (.tuple #[.int .i64 s.size,.nilIface]) ∧ IsB w' b (l ++ t) ∧ Fr w w' (fun k => b ≤ k) := by
 obtain ⟨i0,hi,hz0,hz1,hz2⟩ := info_parts Qlj;have hl : (Lib.byteCells l).length = l.length := by simp [Lib.byteCells]
 have HBC := Xi (show Lib.byteCells (l ++ t) = Lib.byteCells l ++ Lib.strCells s by simp [Lib.byteCells,Lib.strCells,hs]);have hss : s.size = t.length := by rw [← hs]; rfl
 have hlt := h.lt;have h' : Lib.IsBuilderF 159 5 b b (Lib.byteCells l) w := h;clear h;generalize Lib.byteCells l = bs at h' hl HBC;rw [← hl,← hss] at hlen;clear hl hs hss;go_enter func126,ntmps126;go_wp2_with fail;refine (QiU b b bs w h').mono ?_;rintro e w1 ⟨rfl,h1,hb1⟩;obtain ⟨hB,v,hbk,hown,hne⟩ := h1;have c1 : w1.cell? ⟨b,1,none⟩ = some v := by rw [Lib.cell_of_heap hbk]; rfl
 have hsz := hb1.size;go_wp2_with (at_builtin; refine Lib.wpList_append_own_stringF _ rfl _ _ 157 9 rfl b 5 i0 underlying157 underlying9 hi hz0 hz1 hz2 _ _ _ rfl hown s rfl ?c3 ?c4 ?c5 ?_)
 case c3 => unfold maxLen; omega
 case c4 => omega
 case c5 => omega
 intro v' w2 hown' hgrow _;have hlt1 : b < w1.heap.size := by omega
 have hb2 : w2.heap[b]? = some (.cells #[.pointer (some ⟨b,0,none⟩),v] 159 (0,0)) := by
  rw [hgrow.block b hlt1 (fun e => hne e.symm)];exact hbk
 have d0 : w2.cell? ⟨b,0,none⟩ = some (.pointer (some ⟨b,0,none⟩)) := by rw [Lib.cell_of_heap hb2]; rfl
 have d1 : w2.cell? ⟨b,1,none⟩ = some v := by rw [Lib.cell_of_heap hb2]; rfl
 have f1 : w2.frozen? ⟨b,1,none⟩ = false := Lib.frozen_of_heap hb2 1;obtain ⟨ao,n',cap,rfl⟩ : ∃ ao n' cap,v' = .slice ao n' cap := by
  rcases hown'.2 with ⟨hv,_⟩ | ⟨g,cap,cur,fz,hv,_⟩
  ·exact ⟨_,_,_,hv⟩
  ·exact ⟨_,_,_,hv⟩
 go_wp2
 go_ret2
 refine ⟨rfl,?_,?_⟩
 ·exact .inr (HBC.out ▸ Lib.BuilderAtF.put (T := 159) (e := 5) hB hb2 (bs' := bs ++ Lib.strCells s) (by simpa [Lib.strCells_length] using hown') (by decide))
 ·exact Fr.ofBelow ((hb1.grown hgrow (by omega) (fun k hk => (hown.lt k hk).1)).setCell (p := ⟨b,1,none⟩) hB _)

theorem QlB (b : Nat) (l : Bs) (w : World) (h : IsB w b l) :
  Calls Tryz.prog 90 #[.pointer (some ⟨b,0,none⟩)] w fun e w' => e = .returned (.string ⟨l.toArray⟩) ∧ Fr w w' (fun k => b ≤ k) :=
 (Tryz.Builder_String_any_k b b l w h (Nat.le_of_lt h.lt)).mono fun _ _ ⟨he,_,hb,_⟩ => ⟨he,Fr.ofBelow hb⟩
theorem Qqi (w : World) (n : Nat) (hn : n ≤ 1000000) :
  Calls Tryz.prog 88 #[.pointer (some ⟨w.heap.size,0,none⟩),.int .i64 (n : Int)] (w.alloc (.cells #[.pointer none,.slice none 0 0] 159)) fun e w' => e = .returned (.tuple #[]) ∧ IsB w' w.heap.size [] ∧ Fr w w' (fun _ => False) :=
 (Tryz.Builder_Grow_fresh w.heap.size w.heap.size n _ (Nat.le_refl _) (heap_alloc_new w _) (by simp) (by omega)).mono fun _ _ ⟨he,hB,hb⟩ =>
  ⟨he,.inr (Lib.BuilderAtF.of hB),(Fr.new w _ (fun _ => False)).fresh (Fr.ofBelow hb) (fun k hk => hk)⟩

def Qj6 (b : Nat) (l : Bs) (w : World) (e : Ending) (w' : World) : Prop := e = .returned (.tuple #[]) ∧ IsB w' b l ∧ Fr w w' (fun k => b ≤ k)
theorem bb {b : Nat} {a c d : World} (h : Fr a c (fun k => b ≤ k)) (h2 : Fr c d (fun k => b ≤ k)) : Fr a d (fun k => b ≤ k) := h.trans h2 (fun _ _ h => h) (fun _ _ h => h)
theorem NodeAt.kept {w w' : World} {B b : Nat} {v : Value} {s : Bs} {h : Nat} (n : NodeAt w B v s h) (hf : Fr w w' (fun k => b ≤ k)) (hB : B ≤ b) : NodeAt w' B v s h := n.fr hf (fun k hk hb => by omega) (Nat.le_refl _)
def Qqr (m : Nat) : Prop := ∀ {w : World} {B b : Nat} {v : Value} {s acc : Bs} {h f t : Nat},NodeAt w B v s h → B ≤ b → IsB w b acc → f ≤ t → t ≤ s.length → acc.length + s.length ≤ 500000 → h ≤ m →
  Calls Tryz.prog 89 #[v,.pointer (some ⟨b,0,none⟩),.int .i64 (f : Int),.int .i64 (t : Int)] w (Qj6 b (acc ++ cut s f t) w)

theorem QhI {w : World} {b : Nat} {v : Value} {s acc : Bs} {f : Nat} (hb : IsB w b acc) : Calls Tryz.prog 89 #[v,.pointer (some ⟨b,0,none⟩),.int .i64 (f : Int),.int .i64 (f : Int)] w (Qj6 b (acc ++ cut s f f) w) := by
 have e : acc ++ cut s f f = acc := by simp [Qde]
 rw [e];have HB := Xi hb;have t1 : ((f : Int) == (f : Int)) = true := by simp
 clear hb e;go_enter func89,ntmps89;go_wp2_with fail
 go_end0
 exact ⟨rfl,HB.out,Fr.refl _ _⟩
theorem QmQ {w : World} {B b : Nat} {v : Value} {s acc : Bs} {h f t : Nat} (n : NodeAt w B v s h) (hb : IsB w b acc) (h1 : f < t) (h2 : t ≤ s.length) (hl : acc.length + s.length ≤ 500000) (hh : h = 1) :
  Calls Tryz.prog 89 #[v,.pointer (some ⟨b,0,none⟩),.int .i64 (f : Int),.int .i64 (t : Int)] w (Qj6 b (acc ++ cut s f t) w) := by
 obtain ⟨g,rfl,kg,-,-,-⟩ := n.one hh;have c2 := Qaa kg 2;have c5 := Qaa kg 5;simp at c2 c5;have hs := Qal s;have HT := Xi (Qqh b acc (cut s f t) ((⟨s.toArray⟩ : ByteArray).extract f t) w hb (by rw [Qbw (by omega) h2]; omega) (by rw [QbT]));have t1 : ((f : Int) == (t : Int)) = false := by simp; omega
 have i0 : (0 : Int) ≤ (f : Int) := by omega
 have i1 : (f : Int) ≤ (t : Int) := by omega
 have i2 : (t : Int) ≤ (s.length : Int) := by omega
 clear n hb kg;go_enter func89,ntmps89;go_wp2_with fail;refine HT.out.mono ?_;rintro e w2 ⟨rfl,hb2,hf2⟩;have HB2 := Xi hb2;have HF2 := Xi hf2;clear hb2 hf2;go_wp2_with fail
 go_end0
 exact ⟨rfl,HB2.out,HF2.out⟩
theorem QmP {m : Nat} (IH : Qqr m) {w : World} {B b : Nat} {v : Value} {s acc : Bs} {h f t : Nat} (n : NodeAt w B v s h) (hB : B ≤ b) (hb : IsB w b acc) (h1 : f < t) (h2 : t ≤ s.length) (hl : acc.length + s.length ≤ 500000) (hh : 2 ≤ h) (hm : h ≤ m + 1) :
  Calls Tryz.prog 89 #[v,.pointer (some ⟨b,0,none⟩),.int .i64 (f : Int),.int .i64 (t : Int)] w (Qj6 b (acc ++ cut s f t) w) := by
 obtain ⟨g,gc,gd,sc,sd,hc,hd,rfl,rfl,e4,kg,nc,nd,i1,i2,i3,i4,hg⟩ := n.two hh;obtain ⟨gc',xc,yc,lc,e1,hgc,kc⟩ := nc.block i1;obtain rfl : gc = gc' := by injection e1 with e1; injection e1 with e1; injection e1
 rw [List.length_append] at h2 hl;have c0 := Qaa kg 0;have c1 := Qaa kg 1;have c5 := Qaa kg 5;have d3 := Qaa kc 3;simp at c0 c1 c5 d3;have c5' : w.cell? ⟨g,5,none⟩ = some (.int .i64 (h : Int)) := by rw [c5,e4]; congr
 have t1 : ((f : Int) == (t : Int)) = false := by simp; omega
 have t2 : ((h : Int) == 1) = false := by simp; omega
 obtain ⟨q,hq⟩ : ∃ q : Nat,q = sc.length := ⟨_,rfl⟩;rw [← hq] at h2 hl d3;have HB := Xi hb;have HD := Xi nd;have HG := Xi kg;have HQ := Xi hq;rcases Nat.lt_or_ge q t with ht | ht
 ·rcases Nat.lt_or_ge f q with hf | hf
  ·-- both
   have HC : Hid (∀ x y : Int,x = (f : Int) → y = (q : Int) → Calls Tryz.prog 89 #[ptr gc,.pointer (some ⟨b,0,none⟩),.int .i64 x,.int .i64 y] w (Qj6 b (acc ++ cut sc f q) w)) := Xi (by rintro x y rfl rfl; exact IH nc hB hb (by omega) (by omega) (by omega) (by omega));have HE : Hid (∀ (w2 : World) (x y : Int),x = 0 → y = ((t - q : Nat) : Int) → IsB w2 b (acc ++ cut sc f q) → Fr w w2 (fun k => b ≤ k) → Calls Tryz.prog 89 #[ptr gd,.pointer (some ⟨b,0,none⟩),.int .i64 x,.int .i64 y] w2 (Qj6 b ((acc ++ cut sc f q) ++ cut sd 0 (t - q)) w2)) := Xi (by
    rintro w2 x y rfl rfl hb2 hf2;exact IH (f := 0) (t := t - q) (nd.kept hf2 hB) hB hb2 (by omega) (by omega) (by rw [List.length_append,Qbw (by omega) (by omega)]; omega) (by omega))
   have HW := Xi (show (acc ++ cut sc f q) ++ cut sd 0 (t - q) = acc ++ cut (sc ++ sd) f t by rw [cut_app (by omega) (by omega),← hq,List.append_assoc]);have a1 : f < q := hf;have a2 : q < t := ht;have a3 : ¬ (t < q) := by omega
   have a4 : ¬ (q < f) := by omega
   clear n hb kg nc nd kc e1 hq c5;go_enter func89,ntmps89;go_wp2_with fail;refine (HC.out _ _ (by first | omega | (simp; omega)) (by first | omega | (simp; omega))).mono ?_;rintro e w2 ⟨rfl,hb2,hf2⟩;have HE2 := Xi (fun x y hx hy => HE.out w2 x y hx hy hb2 hf2);have k0 := Qaa (hf2.blk HG.out (by omega)) 0;have k1 := Qaa (hf2.blk HG.out (by omega)) 1;simp at k0 k1;have HF2 := Xi hf2;clear hf2 hb2;go_wp2_with fail;refine (HE2.out _ _ (by first | omega | (simp; omega)) (by first | omega | (simp; omega))).mono ?_;rintro e w3 ⟨rfl,hb3,hf3⟩;have HF3 := Xi (bb HF2.out hf3);have HB3 := Xi hb3;clear hf3 hb3;go_wp2_with fail
   go_end0
   exact ⟨rfl,HW.out ▸ HB3.out,HF3.out⟩
  ·-- the right one alone
   have HE : Hid (∀ x y : Int,x = ((f - q : Nat) : Int) → y = ((t - q : Nat) : Int) → Calls Tryz.prog 89 #[ptr gd,.pointer (some ⟨b,0,none⟩),.int .i64 x,.int .i64 y] w (Qj6 b (acc ++ cut sd (f - q) (t - q)) w)) := Xi (by rintro x y rfl rfl; exact IH nd hB hb (by omega) (by omega) (by omega) (by omega));have HW := Xi (show acc ++ cut sd (f - q) (t - q) = acc ++ cut (sc ++ sd) f t by rw [Qqa (by omega),← hq]);have a1 : ¬ (f < q) := by omega
   have a2 : q < t := ht;by_cases hfq : q < f
   all_goals
    clear n hb kg nc nd kc e1 hq c5;go_enter func89,ntmps89;go_wp2_with fail;refine (HE.out _ _ (by first | omega | (simp; omega)) (by first | omega | (simp; omega))).mono ?_;rintro e w3 ⟨rfl,hb3,hf3⟩;have HF3 := Xi hf3;have HB3 := Xi hb3;clear hf3 hb3;go_wp2_with fail
    go_end0
    exact ⟨rfl,HW.out ▸ HB3.out,HF3.out⟩
 ·-- the left one alone
  have HC : Hid (∀ x y : Int,x = (f : Int) → y = (t : Int) → Calls Tryz.prog 89 #[ptr gc,.pointer (some ⟨b,0,none⟩),.int .i64 x,.int .i64 y] w (Qj6 b (acc ++ cut sc f t) w)) := Xi (by rintro x y rfl rfl; exact IH nc hB hb (by omega) (by omega) (by omega) (by omega));have HW := Xi (show acc ++ cut sc f t = acc ++ cut (sc ++ sd) f t by rw [cut_left (by omega)]);have a1 : f < q := by omega
  have a2 : ¬ (q < t) := by omega
  by_cases htq : t < q
  all_goals
   clear n hb kg nc nd kc e1 hq c5;go_enter func89,ntmps89;go_wp2_with fail;refine (HC.out _ _ (by first | omega | (simp; omega)) (by first | omega | (simp; omega))).mono ?_;rintro e w3 ⟨rfl,hb3,hf3⟩;have HF3 := Xi hf3;have HB3 := Xi hb3;clear hf3 hb3;go_wp2_with fail
   go_end0
   exact ⟨rfl,HW.out ▸ HB3.out,HF3.out⟩

theorem write_ok : ∀ m,Qqr m := by
 intro m
 induction m with
 | zero =>
  intro w B b v s acc h f t n hB hb h1 h2 hl hm;obtain ⟨rfl,rfl⟩ := n.nil (by omega);obtain rfl : f = t := by simp at h2; omega
  exact QhI hb
 | succ m IH =>
  intro w B b v s acc h f t n hB hb h1 h2 hl hm;rcases Nat.eq_or_lt_of_le h1 with e | h1
  ·subst e;exact QhI hb
  ·have h0 : h ≠ 0 := fun e => by
    obtain ⟨-,rfl⟩ := n.nil e;simp at h2;omega
   by_cases hh : h = 1
   ·exact QmQ n hb h1 h2 hl hh
   ·exact QmP IH n hB hb h1 h2 hl (by omega) hm

theorem Qij {w : World} {B : Nat} {v : Value} {s : Bs} {h f t : Nat} (n : NodeAt w B v s h) (h1 : f ≤ t) (h2 : t ≤ s.length) (hl : s.length ≤ 100000) :
  Calls Tryz.prog 55 #[v,.int .i64 (f : Int),.int .i64 (t : Int)] w fun e w' => e = .returned (strV (cut s f t)) ∧ Fr w w' (fun _ => False) := by
 have HN := Xi n.own;have HG : Hid (∀ x : Int,x = ((t - f : Nat) : Int) → Calls Tryz.prog 88 #[.pointer (some ⟨w.heap.size,0,none⟩),.int .i64 x] (w.alloc (.cells #[.pointer none,.slice none 0 0] 159)) fun e w' => e = .returned (.tuple #[]) ∧ IsB w' w.heap.size [] ∧ Fr w w' (fun _ => False)) := Xi (by rintro x rfl; exact Qqi w (t - f) (by omega));clear n;go_enter func55,ntmps55;go_wp2_with fail;refine (HG.out _ (by first | omega | (simp; omega))).mono ?_;rintro e w2 ⟨rfl,hb2,hf2⟩;have HW := Xi (write_ok _ (HN.out.keep hf2) (Nat.le_refl _) hb2 h1 h2 (by simp; omega) (Nat.le_refl _));have HF2 := Xi hf2;clear hb2 hf2;go_wp2_with fail;refine HW.out.mono ?_;rintro e w3 ⟨rfl,hb3,hf3⟩;have HF3 := Xi (HF2.out.fresh hf3 (fun k hk => hk));have HS := Xi (QlB _ _ _ hb3);clear hb3 hf3;go_wp2_with fail;refine HS.out.mono ?_;rintro e w4 ⟨rfl,hf4⟩;have HF4 := Xi (HF3.out.fresh hf4 (fun k hk => hk));clear hf4;go_wp2_with fail;go_ret;exact ⟨by simp,HF4.out⟩
end Go.Proofs.YtodcnbejnchmhaaGreatDoor.S3
