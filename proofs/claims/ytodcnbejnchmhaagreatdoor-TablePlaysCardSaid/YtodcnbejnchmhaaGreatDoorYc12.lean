import Derived.Test.YtodcnbejnchmhaaGreatDoorProg
import Derived.Test.YtodcnbejnchmhaaGreatDoorYc10
import Derived.Test.YtodcnbejnchmhaaGreatDoorYc08
import Derived.Lib.Hide
import Derived.BigQuiet
import Derived.Deep.QuietTactic
import Derived.WalkLawsBesides
import Derived.IntWalk
import Derived.Deep.RegionHeld3
import Derived.Laws.Rows
import Derived.Handy
set_option maxHeartbeats 2000000
namespace Go.Proofs.YtodcnbejnchmhaaGreatDoor.S3
open _root_.Go.Proofs.Tryz
open Go.RowKit Go.Mem Go.Rope

abbrev strV (l : Bs) : Value := .string ⟨l.toArray⟩
abbrev ptr (g : Nat) : Value := .pointer (some ⟨g,0,none⟩)
/-- the value v is a node (none: nil) in blocks below B: its bytes are s,its height is h -/
inductive NodeAt (w : World) (B : Nat) : Value → Bs → Nat → Prop
 | empty : NodeAt w B (.pointer none) [] 0
 | leaf {g : Nat} {s : Bs} (hg : g < B) (hk : Blk w g 192 #[.pointer none,.pointer none,strV s,.int .i64 (s.length : Int),.int .i64 (Qah s : Int),.int .i64 1])
   (h0 : s ≠ []) (h1 : s.length ≤ 128) : NodeAt w B (ptr g) s 1
 | pair {g : Nat} {va vb : Value} {sa sb : Bs} {ha hb : Nat} (hg : g < B)
   (hk : Blk w g 192 #[va,vb,strV [],.int .i64 ((sa.length + sb.length : Nat) : Int),.int .i64 ((Qah sa + Qah sb : Nat) : Int),.int .i64 ((1 + max ha hb : Nat) : Int)])
   (na : NodeAt w B va sa ha) (nb : NodeAt w B vb sb hb) (h1 : 1 ≤ ha) (h2 : 1 ≤ hb) (h3 : ha ≤ hb + 1) (h4 : hb ≤ ha + 1) : NodeAt w B (ptr g) (sa ++ sb) (1 + max ha hb)

theorem NodeAt.fr {w w' : World} {B B' : Nat} {v : Value} {s : Bs} {h : Nat} {S : Nat → Prop} (n : NodeAt w B v s h) (hf : Fr w w' S) (hS : ∀ k,k < B → ¬ S k) (hB : B ≤ B') : NodeAt w' B' v s h := by
 induction n with
 | empty => exact .empty
 | leaf hg hk h0 h1 => exact .leaf (by omega) (hf.blk hk (hS _ hg)) h0 h1
 | pair hg hk na nb h1 h2 h3 h4 iha ihb => exact .pair (by omega) (hf.blk hk (hS _ hg)) iha ihb h1 h2 h3 h4
theorem NodeAt.mono {w : World} {B B' : Nat} {v : Value} {s : Bs} {h : Nat} (n : NodeAt w B v s h) (hB : B ≤ B') : NodeAt w B' v s h := n.fr (Fr.refl w (fun _ => False)) (fun _ _ x => x) hB
theorem NodeAt.keep {w w' : World} {B : Nat} {v : Value} {s : Bs} {h : Nat} (n : NodeAt w B v s h) (hf : Fr w w' (fun _ => False)) : NodeAt w' B v s h := n.fr hf (fun _ _ x => x) (Nat.le_refl _)
/-- a node's height,and its bytes -/
theorem NodeAt.few {w : World} {B : Nat} {v : Value} {s : Bs} {h : Nat} (n : NodeAt w B v s h) : (h = 0 → s = []) ∧ (1 ≤ h → Qc9 h ≤ s.length) := by
 induction n with
 | empty => exact ⟨fun _ => rfl,fun h => by omega⟩
 | leaf hg hk h0 h1 => exact ⟨fun h => by omega,fun _ => List.length_pos_iff.2 h0⟩
 | pair hg hk na nb h1 h2 h3 h4 iha ihb =>
  refine ⟨fun h => by omega,fun _ => ?_⟩;rw [List.length_append];exact QnI h1 h2 h3 h4 (iha.2 h1) (ihb.2 h2)
theorem NodeAt.zero {w : World} {B : Nat} {v : Value} {s : Bs} {h : Nat} (n : NodeAt w B v s h) : (h = 0 ↔ s = []) := by
 refine ⟨n.few.1,fun e => ?_⟩;rcases Nat.eq_zero_or_pos h with h0 | h0
 ·exact h0
 ·have h1 := n.few.2 h0;have h2 := QfS (show 0 ≤ h by omega);have e0 : Qc9 0 = 1 := rfl;rw [e,List.length_nil] at h1;omega
/-- any node that is there has its height,its bytes and its Qah in its block -/
theorem NodeAt.block {w : World} {B : Nat} {v : Value} {s : Bs} {h : Nat} (n : NodeAt w B v s h) (h1 : 1 ≤ h) : ∃ g x y l,v = ptr g ∧ g < B ∧ Blk w g 192 #[x,y,l,.int .i64 (s.length : Int),.int .i64 (Qah s : Int),.int .i64 (h : Int)] := by
 cases n with
 | empty => omega
 | leaf hg hk h0 h1 => exact ⟨_,_,_,_,rfl,hg,hk⟩
 | pair hg hk na nb h1 h2 h3 h4 =>
  rw [← List.length_append,← QbP] at hk;exact ⟨_,_,_,_,rfl,hg,hk⟩
theorem NodeAt.nil {w : World} {B : Nat} {v : Value} {s : Bs} {h : Nat} (n : NodeAt w B v s h) (h0 : h = 0) : v = .pointer none ∧ s = [] := by
 cases n with
 | empty => exact ⟨rfl,rfl⟩
 | leaf => omega
 | pair => omega

theorem QbF (w : World) (g : Nat) : (binOp .eql 119 (ptr g) (.pointer none)).run Tryz.prog w = .ok (.bool false) w := by kernel_rfl
theorem Qel {w : World} {B : Nat} {v : Value} {s : Bs} {h : Nat} (n : NodeAt w B v s h) :
  Calls Tryz.prog 92 #[v] w fun e w' => e = .returned (.int .i64 (s.length : Int)) ∧ w = w' := by
 rcases Nat.eq_zero_or_pos h with h0 | h0
 ·obtain ⟨rfl,rfl⟩ := n.nil h0;clear n;go_enter func92,ntmps92;go_wp2_with fail;go_ret;exact ⟨rfl,rfl⟩
 ·obtain ⟨g,x,y,l,rfl,hg,hb⟩ := n.block h0;have c3 := Qaa hb 3;simp at c3;have hne := fun w => QbF w g;clear hb n;go_enter func92,ntmps92;go_wp2_with fail;go_ret;exact ⟨rfl,rfl⟩
theorem QeI {w : World} {B : Nat} {v : Value} {s : Bs} {h : Nat} (n : NodeAt w B v s h) :
  Calls Tryz.prog 87 #[v] w fun e w' => e = .returned (.int .i64 (Qah s : Int)) ∧ w = w' := by
 rcases Nat.eq_zero_or_pos h with h0 | h0
 ·obtain ⟨rfl,rfl⟩ := n.nil h0;clear n;go_enter func87,ntmps87;go_wp2_with fail;go_ret;exact ⟨rfl,rfl⟩
 ·obtain ⟨g,x,y,l,rfl,hg,hb⟩ := n.block h0;have c3 := Qaa hb 4;simp at c3;have hne := fun w => QbF w g;clear hb n;go_enter func87,ntmps87;go_wp2_with fail;go_ret;exact ⟨rfl,rfl⟩
theorem QfT {w : World} {B : Nat} {v : Value} {s : Bs} {h : Nat} (n : NodeAt w B v s h) :
  Calls Tryz.prog 121 #[v] w fun e w' => e = .returned (.int .i64 (h : Int)) ∧ w = w' := by
 rcases Nat.eq_zero_or_pos h with h0 | h0
 ·obtain ⟨rfl,rfl⟩ := n.nil h0;subst h0;clear n;go_enter func121,ntmps121;go_wp2_with fail;go_ret;exact ⟨rfl,rfl⟩
 ·obtain ⟨g,x,y,l,rfl,hg,hb⟩ := n.block h0;have c3 := Qaa hb 5;simp at c3;have hne := fun w => QbF w g;clear hb n;go_enter func121,ntmps121;go_wp2_with fail;go_ret;exact ⟨rfl,rfl⟩
theorem ff {a c d : World} (h : Fr a c (fun _ => False)) (h2 : Fr c d (fun _ => False)) : Fr a d (fun _ => False) := h.trans h2 (fun _ _ h => h) (fun _ _ h => h)
theorem Qow (f : Nat) (x y : Nat) {w : World} {va vb : Value} (hx : x ≤ 1000000) (hy : y ≤ 1000000)
  (ha : ∀ W,Fr w W (fun _ => False) → Calls Tryz.prog f #[va] W fun e w' => e = .returned (.int .i64 (x : Int)) ∧ W = w')
  (hb : ∀ W,Fr w W (fun _ => False) → Calls Tryz.prog f #[vb] W fun e w' => e = .returned (.int .i64 (y : Int)) ∧ W = w')
  (hf : f = 92 ∨ f = 87) :
  Calls Tryz.prog 180 #[.agg #[va,vb],.func (.func f) #[] #[]] w fun e w' => e = .returned (.int .i64 ((x + y : Nat) : Int)) ∧ Fr w w' (fun _ => False) := by
 have HN := Xi (fun n => (Fr.new w (.cells #[va,vb] 190) (fun _ => False)).trans (Fr.drewN _ n (fun _ => False)) (fun _ _ h => h) (fun _ _ h => h));have HA := Xi (fun m => (show Calls Tryz.prog f #[va] ((w.alloc (.cells #[va,vb] 190)).drewN m) fun e w' => e = .returned (.int .i64 (x : Int)) ∧ ∃ n,w' = (w.alloc (.cells #[va,vb] 190)).drewN n from (ha _ (HN.out m)).mono fun e w' h => ⟨h.1,m,h.2.symm⟩));have HB := Xi (fun m => (show Calls Tryz.prog f #[vb] ((w.alloc (.cells #[va,vb] 190)).drewN m) fun e w' => e = .returned (.int .i64 (y : Int)) ∧ ∃ n,w' = (w.alloc (.cells #[va,vb] 190)).drewN n from (hb _ (HN.out m)).mono fun e w' h => ⟨h.1,m,h.2.symm⟩));have c0 : (w.alloc (.cells #[va,vb] 190)).cell? ⟨w.heap.size,0,none⟩ = some va := by rw [Qaa (Blk.made w 190 #[va,vb])]; rfl
 have c1 : (w.alloc (.cells #[va,vb] 190)).cell? ⟨w.heap.size,1,none⟩ = some vb := by rw [Qaa (Blk.made w 190 #[va,vb])]; rfl
 clear ha hb;rcases hf with rfl | rfl
 ·go_enter func180,ntmps180;go_wp2_with fail
  go_quiet ((first | with_reducible exact HA.out _ | with_reducible exact HB.out _))
  go_wp2_with fail;go_ret;exact ⟨rfl,HN.out _⟩
 ·go_enter func180,ntmps180;go_wp2_with fail
  go_quiet ((first | with_reducible exact HA.out _ | with_reducible exact HB.out _))
  go_wp2_with fail;go_ret;exact ⟨rfl,HN.out _⟩

theorem NodeAt.own {w : World} {B : Nat} {v : Value} {s : Bs} {h : Nat} (n : NodeAt w B v s h) : NodeAt w w.heap.size v s h := by
 induction n with
 | empty => exact .empty
 | leaf hg hk h0 h1 => exact .leaf hk.lt hk h0 h1
 | pair hg hk na nb h1 h2 h3 h4 iha ihb => exact .pair hk.lt hk iha ihb h1 h2 h3 h4
theorem NodeAt.keepo {w w' : World} {B : Nat} {v : Value} {s : Bs} {h : Nat} (n : NodeAt w B v s h) (hf : Fr w w' (fun _ => False)) : NodeAt w' w'.heap.size v s h := (n.keep hf).own
/-- a call gives a node of these bytes and this height -/
def Qod (w : World) (s : Bs) (h : Nat) (e : Ending) (w' : World) : Prop := Fr w w' (fun _ => False) ∧ ∃ v,e = .returned v ∧ NodeAt w' w'.heap.size v s h

theorem kp4 {w a b : World} {p1 p2 p3 p4 o1 o2 o3 o4 : Nat} {v1 v2 v3 v4 : Value} (h : Fr w a (fun _ => False) ∧ a.cell? ⟨p1,o1,none⟩ = some v1 ∧ a.cell? ⟨p2,o2,none⟩ = some v2 ∧ a.cell? ⟨p3,o3,none⟩ = some v3 ∧ a.cell? ⟨p4,o4,none⟩ = some v4) (hf : Fr a b (fun _ => False)) :
  Fr w b (fun _ => False) ∧ b.cell? ⟨p1,o1,none⟩ = some v1 ∧ b.cell? ⟨p2,o2,none⟩ = some v2 ∧ b.cell? ⟨p3,o3,none⟩ = some v3 ∧ b.cell? ⟨p4,o4,none⟩ = some v4 :=
 ⟨ff h.1 hf,hf.cell0 h.2.1,hf.cell0 h.2.2.1,hf.cell0 h.2.2.2.1,hf.cell0 h.2.2.2.2⟩

theorem QjA {w w5 w6 : World} {B : Nat} {va vb : Value} {sa sb : Bs} {ha hb : Nat} {x y z : Int} (na : NodeAt w B va sa ha) (nb : NodeAt w B vb sb hb) (h1 : 1 ≤ ha) (h2 : 1 ≤ hb) (h3 : ha ≤ hb + 1) (h4 : hb ≤ ha + 1)
  (hf : Fr w w6 (fun _ => False)) (he : w6 = w5.alloc (.cells #[va,vb,strV [],.int .i64 x,.int .i64 y,.int .i64 z] 192)) (hx : x = ((sa.length + sb.length : Nat) : Int)) (hy : y = ((Qah sa + Qah sb : Nat) : Int)) (hz : z = ((1 + max ha hb : Nat) : Int)) :
  NodeAt w6 w6.heap.size (ptr w5.heap.size) (sa ++ sb) (1 + max ha hb) := by
 subst hx hy hz;have hb6 : Blk w6 w5.heap.size 192 #[va,vb,strV [],.int .i64 ((sa.length + sb.length : Nat) : Int),.int .i64 ((Qah sa + Qah sb : Nat) : Int),.int .i64 ((1 + max ha hb : Nat) : Int)] := by rw [he]; exact Blk.made _ _ _
 exact .pair hb6.lt hb6 (na.keepo hf) (nb.keepo hf) h1 h2 h3 h4

theorem Qch {w : World} {B : Nat} {va vb : Value} {sa sb : Bs} {ha hb : Nat} (na : NodeAt w B va sa ha) (nb : NodeAt w B vb sb hb) (h1 : 1 ≤ ha) (h2 : 1 ≤ hb) (h3 : ha ≤ hb + 1) (h4 : hb ≤ ha + 1)
  (hla : sa.length ≤ 100000) (hlb : sb.length ≤ 100000) (hha : ha ≤ 1000) :
  Calls Tryz.prog 152 #[.agg #[va,vb]] w (Qod w (sa ++ sb) (1 + max ha hb)) := by
 obtain ⟨ga,xa,ya,la,rfl,hga,ka⟩ := na.block h1;obtain ⟨gb,xb,yb,lb,rfl,hgb,kb⟩ := nb.block h2;have ca := Qaa ka 5;have cb := Qaa kb 5;simp at ca cb;have fa := QbM sa;have fb := QbM sb;have HS1 := Xi (fun (W : World) (hf : Fr w W (fun _ => False)) => Qow 92 sa.length sb.length (w := W) (va := ptr ga) (vb := ptr gb) (by omega) (by omega) (fun V h => Qel (na.keep (ff hf h))) (fun V h => Qel (nb.keep (ff hf h))) (.inl rfl));have HS2 := Xi (fun (W : World) (hf : Fr w W (fun _ => False)) => Qow 87 (Qah sa) (Qah sb) (w := W) (va := ptr ga) (vb := ptr gb) (by omega) (by omega) (fun V h => QeI (na.keep (ff hf h))) (fun V h => QeI (nb.keep (ff hf h))) (.inr rfl));have hNew := Fr.new w (.cells #[ptr ga,ptr gb] 190) (fun _ => False);have c0 : (w.alloc (.cells #[ptr ga,ptr gb] 190)).cell? ⟨w.heap.size,0,none⟩ = some (ptr ga) := by rw [Qaa (Blk.made w 190 #[ptr ga,ptr gb])]; rfl
 have c1 : (w.alloc (.cells #[ptr ga,ptr gb] 190)).cell? ⟨w.heap.size,1,none⟩ = some (ptr gb) := by rw [Qaa (Blk.made w 190 #[ptr ga,ptr gb])]; rfl
 have hS0 : Hid (Fr w (w.alloc (.cells #[ptr ga,ptr gb] 190)) (fun _ => False) ∧ (w.alloc (.cells #[ptr ga,ptr gb] 190)).cell? ⟨w.heap.size,0,none⟩ = some (ptr ga) ∧ (w.alloc (.cells #[ptr ga,ptr gb] 190)).cell? ⟨w.heap.size,1,none⟩ = some (ptr gb) ∧ (w.alloc (.cells #[ptr ga,ptr gb] 190)).cell? ⟨ga,5,none⟩ = some (.int .i64 (ha : Int)) ∧ (w.alloc (.cells #[ptr ga,ptr gb] 190)).cell? ⟨gb,5,none⟩ = some (.int .i64 (hb : Int))) := Xi ⟨hNew,c0,c1,hNew.cell0 ca,hNew.cell0 cb⟩;have HNA := Xi na;have HNB := Xi nb;clear na nb ka kb fa fb ca cb hNew;have hsize : w.heap.size ≤ (w.alloc (.cells #[ptr ga,ptr gb] 190)).heap.size := by simp
 rcases Nat.lt_or_ge ha hb with hc | hc
 ·have h1' : ha < hb := hc;have w1 : IntKind.i64.wrap (1 + (hb : Int)) = 1 + (hb : Int) := IntWalk.i64_in _ ⟨by omega,by omega⟩;have HM := Xi (show max ha hb = hb from Nat.max_eq_right (by omega));clear hc;go_enter func152,ntmps152;go_wp2_with fail
  go_region_held3 (fun w' => Fr w w' (fun _ => False) ∧ w'.cell? ⟨w.heap.size,0,none⟩ = some (ptr ga) ∧ w'.cell? ⟨w.heap.size,1,none⟩ = some (ptr gb) ∧ w'.cell? ⟨ga,5,none⟩ = some (.int .i64 (ha : Int)) ∧ w'.cell? ⟨gb,5,none⟩ = some (.int .i64 (hb : Int)))
   (first | with_reducible exact kp4 hS0.out (Fr.drew _ _) | with_reducible exact kp4 hS hf5 | (rename_i hS _ _; with_reducible exact kp4 hS (Fr.new _ _ _)) | with_reducible assumption)
   ((first | (go_at_call 180; rename_i hS _ _; first | (with_reducible refine (HS1.out _ hS.1).mono ?_; rintro e w5 ⟨rfl,hf5⟩) | (with_reducible refine (HS2.out _ hS.1).mono ?_; rintro e w5 ⟨rfl,hf5⟩))))
  all_goals
   rename_i hS;have hN := QjA HNA.out HNB.out h1 h2 h3 h4 hS.1 rfl (by push_cast; rfl) (by push_cast; rfl) (by rw [HM.out]; push_cast; rfl);have HS := Xi hS.1;have HN := Xi hN;clear hN hS;go_wp2_with fail;go_ret;exact ⟨HS.out,_,rfl,HN.out⟩
 ·have h1' : ¬ (ha < hb) := by omega
  have w1 : IntKind.i64.wrap (1 + (ha : Int)) = 1 + (ha : Int) := IntWalk.i64_in _ ⟨by omega,by omega⟩;have HM := Xi (show max ha hb = ha from Nat.max_eq_left (by omega));clear hc;go_enter func152,ntmps152;go_wp2_with fail
  go_region_held3 (fun w' => Fr w w' (fun _ => False) ∧ w'.cell? ⟨w.heap.size,0,none⟩ = some (ptr ga) ∧ w'.cell? ⟨w.heap.size,1,none⟩ = some (ptr gb) ∧ w'.cell? ⟨ga,5,none⟩ = some (.int .i64 (ha : Int)) ∧ w'.cell? ⟨gb,5,none⟩ = some (.int .i64 (hb : Int)))
   (first | with_reducible exact kp4 hS0.out (Fr.drew _ _) | with_reducible exact kp4 hS hf5 | (rename_i hS _ _; with_reducible exact kp4 hS (Fr.new _ _ _)) | with_reducible assumption)
   ((first | (go_at_call 180; rename_i hS _ _; first | (with_reducible refine (HS1.out _ hS.1).mono ?_; rintro e w5 ⟨rfl,hf5⟩) | (with_reducible refine (HS2.out _ hS.1).mono ?_; rintro e w5 ⟨rfl,hf5⟩))))
  all_goals
   rename_i hS;have hN := QjA HNA.out HNB.out h1 h2 h3 h4 hS.1 rfl (by push_cast; rfl) (by push_cast; rfl) (by rw [HM.out]; push_cast; rfl);have HS := Xi hS.1;have HN := Xi hN;clear hN hS;go_wp2_with fail;go_ret;exact ⟨HS.out,_,rfl,HN.out⟩
theorem Qms : (Tryz.prog.info? 190).map (·.size) = some 2 := by kernel_rfl
theorem NodeAt.two {w : World} {B : Nat} {v : Value} {s : Bs} {h : Nat} (n : NodeAt w B v s h) (h2 : 2 ≤ h) : ∃ (g ga gb : Nat) (sa sb : Bs) (ha hb : Nat),v = ptr g ∧ s = sa ++ sb ∧ h = 1 + max ha hb ∧
  Blk w g 192 #[ptr ga,ptr gb,strV [],.int .i64 ((sa.length + sb.length : Nat) : Int),.int .i64 ((Qah sa + Qah sb : Nat) : Int),.int .i64 ((1 + max ha hb : Nat) : Int)] ∧
  NodeAt w B (ptr ga) sa ha ∧ NodeAt w B (ptr gb) sb hb ∧ 1 ≤ ha ∧ 1 ≤ hb ∧ ha ≤ hb + 1 ∧ hb ≤ ha + 1 ∧ g < B := by
 cases n with
 | empty => omega
 | leaf => omega
 | pair hg hk na nb k1 k2 k3 k4 =>
  obtain ⟨ga,xa,ya,la,rfl,hga,ka⟩ := na.block k1;obtain ⟨gb,xb,yb,lb,rfl,hgb,kb⟩ := nb.block k2;exact ⟨_,ga,gb,_,_,_,_,rfl,rfl,rfl,hk,na,nb,k1,k2,k3,k4,hg⟩
theorem NodeAt.cast {w : World} {B : Nat} {v : Value} {s s' : Bs} {h : Nat} (n : NodeAt w B v s h) (e : s = s') : NodeAt w B v s' h := e ▸ n
def QeR (w : World) (s : Bs) (lo : Nat) (e : Ending) (w' : World) : Prop := ∃ h,lo ≤ h ∧ h ≤ lo + 1 ∧ Qod w s h e w'

theorem Qdc (w : World) (x y : Option Addr) :
  Calls Tryz.prog 209 #[.int .i64 0,.pointer x,.pointer y] w fun e w' => e = .returned (.agg #[.pointer x,.pointer y]) ∧ Fr w w' (fun _ => False) := by
 go_enter func209,ntmps209;go_wp2_with fail;have hb := Blk.made (w.alloc (.cells #[.pointer x,.pointer y] 190)) 190 #[.pointer x,.pointer y];have hf1 := Fr.new w (.cells #[.pointer x,.pointer y] 190) (fun _ => False);have hf2 := Fr.new (w.alloc (.cells #[.pointer x,.pointer y] 190)) (.cells #[.pointer x,.pointer y] 190) (fun _ => False);have hb1 := hf2.blk (Blk.made w 190 #[.pointer x,.pointer y]) (fun h => h);(try simp only [Exit.inBlock,Exit.then]);have hres := fun (tmps : Array Value) (hp : tmps.getD 6 undef = .pointer (some ⟨w.heap.size,0,none⟩)) => results_cell_row (P := Tryz.prog) (fn := f209) (p := 6) (ty := 190) rfl tmps _ w.heap.size 190 #[.pointer x,.pointer y] (0,0) _ hp hb1 underlying190 rfl Qms;exact bodyPost_ret (hres _ rfl) rfl ⟨rfl,ff hf1 hf2⟩

theorem Qdb (w : World) (x y : Option Addr) :
  Calls Tryz.prog 209 #[.int .i64 1,.pointer x,.pointer y] w fun e w' => e = .returned (.agg #[.pointer y,.pointer x]) ∧ Fr w w' (fun _ => False) := by
 go_enter func209,ntmps209;go_wp2_with fail;have hb := Blk.made (w.alloc (.cells #[.pointer y,.pointer x] 190)) 190 #[.pointer y,.pointer x];have hf1 := Fr.new w (.cells #[.pointer y,.pointer x] 190) (fun _ => False);have hf2 := Fr.new (w.alloc (.cells #[.pointer y,.pointer x] 190)) (.cells #[.pointer y,.pointer x] 190) (fun _ => False);have hb1 := hf2.blk (Blk.made w 190 #[.pointer y,.pointer x]) (fun h => h);(try simp only [Exit.inBlock,Exit.then]);have hres := fun (tmps : Array Value) (hp : tmps.getD 6 undef = .pointer (some ⟨w.heap.size,0,none⟩)) => results_cell_row (P := Tryz.prog) (fn := f209) (p := 6) (ty := 190) rfl tmps _ w.heap.size 190 #[.pointer y,.pointer x] (0,0) _ hp hb1 underlying190 rfl Qms;exact bodyPost_ret (hres _ rfl) rfl ⟨rfl,ff hf1 hf2⟩

theorem Qop {w : World} {B : Nat} {vl vh : Value} {sl sh : Bs} {hl hh : Nat} (nl : NodeAt w B vl sl hl) (nh : NodeAt w B vh sh hh) (h1 : 1 ≤ hl) (hd : hh = hl + 2) (hz : sl.length + sh.length ≤ 100000) (hhz : hh ≤ 900) :
  Calls Tryz.prog 179 #[.agg #[vh,vl],.int .i64 0] w (QeR w (sh ++ sl) hh) := by
 cases nh with
 | empty => omega
 | leaf => omega
 | @pair g vc vd sc sd hc hd' hg hk nc nd b1 b2 b3 b4 =>
  rw [List.length_append] at hz;obtain ⟨gl,xl,yl,ll,rfl,hgl,kl⟩ := nl.block h1;obtain ⟨gc,xc,yc,lc,rfl,hgc,kc⟩ := nc.block b1;obtain ⟨gd,xd,yd,ld,rfl,hgd,kd⟩ := nd.block b2;have hN := Fr.new w (.cells #[ptr g,ptr gl] 190) (fun _ => False);have kb := Blk.made w 190 #[ptr g,ptr gl];have m0 := Qaa kb 0;have m1 := Qaa kb 1;simp at m0 m1;have a0 := Qaa (hN.blk hk (fun h => h)) 0;have a1 := Qaa (hN.blk hk (fun h => h)) 1;have ac := Qaa (hN.blk kc (fun h => h)) 5;have ad := Qaa (hN.blk kd (fun h => h)) 5;simp at a0 a1 ac ad;have HL := Xi nl;have HC := Xi nc;have HD := Xi nd;by_cases hle : hd' ≤ hc
  ·have HF0 := Xi (fun a => hN.trans (Fr.drewN _ a (fun _ => False)) (fun _ _ h => h) (fun _ _ h => h));clear nl nc nd kl kc kd hk kb hN;go_enter func179,ntmps179;go_wp2_with fail
   go_quiet (fail)
   go_wp2_with fail
   go_quiet (fail)
   go_wp2_with fail;refine (Qdc _ _ _).mono ?_;rintro e w2 ⟨rfl,hf2⟩;have HF2 := Xi (ff (HF0.out _) hf2);clear hf2;go_wp2_with fail;refine (Qch (HD.out.keepo HF2.out) (HL.out.keepo HF2.out) (by omega) (by omega) (by omega) (by omega) (by omega) (by omega) (by omega)).mono ?_;rintro e w3 ⟨hf3,v3,rfl,n3⟩;obtain ⟨g3,x3,y3,l3,rfl,hg3,k3⟩ := n3.block (by omega);have HF3 := Xf HF2 hf3;have HN3 := Xi n3;clear hf3 n3 k3;go_wp2_with fail;refine (Qdc _ _ _).mono ?_;rintro e w4 ⟨rfl,hf4⟩;have HF4 := Xf HF3 hf4;have HN4 := Xi (HN3.out.keepo hf4);clear hf4;go_wp2_with fail;refine (Qch (HC.out.keepo HF4.out) HN4.out (by omega) (by omega) (by omega) (by omega) (by first | omega | (simp; omega)) (by first | omega | (simp; omega)) (by omega)).mono ?_;rintro e w5 ⟨hf5,v5,rfl,n5⟩;have HF5 := Xf HF4 hf5;have HN5 := Xi n5;clear hf5 n5;go_wp2_with fail;go_ret;refine ⟨_,?_,?_,HF5.out,_,rfl,HN5.out.cast (by simp)⟩ <;> omega
  ·obtain ⟨gi,ge,gf,se,sf,he,hf,e1,rfl,rfl,ki,ne,nf,i1,i2,i3,i4,-⟩ := nd.two (by omega);obtain rfl : gd = gi := by injection e1 with e1; injection e1 with e1; injection e1
   have aj0 := Qaa (hN.blk ki (fun h => h)) 0;have aj1 := Qaa (hN.blk ki (fun h => h)) 1;simp at aj0 aj1;have HE := Xi ne;have HF := Xi nf;have HF0 := Xi (fun a => hN.trans (Fr.drewN _ a (fun _ => False)) (fun _ _ h => h) (fun _ _ h => h));rw [List.length_append] at hz;clear nl nc nd kl kc kd hk kb hN e1 ki ne nf;go_enter func179,ntmps179;go_wp2_with fail
   go_quiet (fail)
   go_wp2_with fail
   go_quiet (fail)
   go_wp2_with fail
   go_quiet (fail)
   go_wp2_with fail;refine (Qdc _ _ _).mono ?_;rintro e w2 ⟨rfl,hf2⟩;have HF2 := Xi (ff (HF0.out _) hf2);clear hf2;go_wp2_with fail;refine (Qch (HC.out.keepo HF2.out) (HE.out.keepo HF2.out) (by omega) (by omega) (by omega) (by omega) (by omega) (by omega) (by omega)).mono ?_;rintro e w3 ⟨hf3,v3,rfl,n3⟩;obtain ⟨g3,x3,y3,l3,rfl,hg3,k3⟩ := n3.block (by omega);have HF3 := Xf HF2 hf3;have HN3 := Xi n3;clear hf3 n3 k3;go_wp2_with fail;refine (Qdc _ _ _).mono ?_;rintro e w4 ⟨rfl,hf4⟩;have HF4 := Xf HF3 hf4;have HN4 := Xi (HN3.out.keepo hf4);clear hf4;go_wp2_with fail;refine (Qch (HF.out.keepo HF4.out) (HL.out.keepo HF4.out) (by omega) (by omega) (by omega) (by omega) (by omega) (by omega) (by omega)).mono ?_;rintro e w5 ⟨hf5,v5,rfl,n5⟩;obtain ⟨g5,x5,y5,l5,rfl,hg5,k5⟩ := n5.block (by omega);have HF5 := Xf HF4 hf5;have HN5 := Xi n5;have HN45 := Xi (HN4.out.keepo hf5);clear hf5 n5 k5;go_wp2_with fail;refine (Qdc _ _ _).mono ?_;rintro e w6 ⟨rfl,hf6⟩;have HF6 := Xf HF5 hf6;have HN6 := Xi (HN5.out.keepo hf6);have HN46 := Xi (HN45.out.keepo hf6);clear hf6;go_wp2_with fail;refine (Qch HN46.out HN6.out (by omega) (by omega) (by omega) (by omega) (by first | omega | (simp; omega)) (by first | omega | (simp; omega)) (by omega)).mono ?_;rintro e w7 ⟨hf7,v7,rfl,n7⟩;have HF7 := Xf HF6 hf7;have HN7 := Xi n7;clear hf7 n7;go_wp2_with fail;go_ret;refine ⟨_,?_,?_,HF7.out,_,rfl,HN7.out.cast (by simp)⟩ <;> omega

theorem Qoo {w : World} {B : Nat} {vl vh : Value} {sl sh : Bs} {hl hh : Nat} (nl : NodeAt w B vl sl hl) (nh : NodeAt w B vh sh hh) (h1 : 1 ≤ hl) (hd : hh = hl + 2) (hz : sl.length + sh.length ≤ 100000) (hhz : hh ≤ 900) :
  Calls Tryz.prog 179 #[.agg #[vl,vh],.int .i64 1] w (QeR w (sl ++ sh) hh) := by
 cases nh with
 | empty => omega
 | leaf => omega
 | @pair g vc vd sc sd hc hd' hg hk nc nd b1 b2 b3 b4 =>
  rw [List.length_append] at hz;obtain ⟨gl,xl,yl,ll,rfl,hgl,kl⟩ := nl.block h1;obtain ⟨gc,xc,yc,lc,rfl,hgc,kc⟩ := nc.block b1;obtain ⟨gd,xd,yd,ld,rfl,hgd,kd⟩ := nd.block b2;have hN := Fr.new w (.cells #[ptr gl,ptr g] 190) (fun _ => False);have kb := Blk.made w 190 #[ptr gl,ptr g];have m0 := Qaa kb 0;have m1 := Qaa kb 1;simp at m0 m1;have a0 := Qaa (hN.blk hk (fun h => h)) 0;have a1 := Qaa (hN.blk hk (fun h => h)) 1;have ac := Qaa (hN.blk kc (fun h => h)) 5;have ad := Qaa (hN.blk kd (fun h => h)) 5;simp at a0 a1 ac ad;have HL := Xi nl;have HC := Xi nc;have HD := Xi nd;by_cases hle : hc ≤ hd'
  ·have HF0 := Xi (fun a => hN.trans (Fr.drewN _ a (fun _ => False)) (fun _ _ h => h) (fun _ _ h => h));clear nl nc nd kl kc kd hk kb hN;go_enter func179,ntmps179;go_wp2_with fail
   go_quiet (fail)
   go_wp2_with fail
   go_quiet (fail)
   go_wp2_with fail;refine (Qdb _ _ _).mono ?_;rintro e w2 ⟨rfl,hf2⟩;have HF2 := Xi (ff (HF0.out _) hf2);clear hf2;go_wp2_with fail;refine (Qch (HL.out.keepo HF2.out) (HC.out.keepo HF2.out) (by omega) (by omega) (by omega) (by omega) (by omega) (by omega) (by omega)).mono ?_;rintro e w3 ⟨hf3,v3,rfl,n3⟩;obtain ⟨g3,x3,y3,l3,rfl,hg3,k3⟩ := n3.block (by omega);have HF3 := Xf HF2 hf3;have HN3 := Xi n3;clear hf3 n3 k3;go_wp2_with fail;refine (Qdb _ _ _).mono ?_;rintro e w4 ⟨rfl,hf4⟩;have HF4 := Xf HF3 hf4;have HN4 := Xi (HN3.out.keepo hf4);clear hf4;go_wp2_with fail;refine (Qch HN4.out (HD.out.keepo HF4.out) (by omega) (by omega) (by omega) (by omega) (by first | omega | (simp; omega)) (by first | omega | (simp; omega)) (by omega)).mono ?_;rintro e w5 ⟨hf5,v5,rfl,n5⟩;have HF5 := Xf HF4 hf5;have HN5 := Xi n5;clear hf5 n5;go_wp2_with fail;go_ret;refine ⟨_,?_,?_,HF5.out,_,rfl,HN5.out.cast (by simp)⟩ <;> omega
  ·obtain ⟨gi,ge,gf,se,sf,he,hf,e1,rfl,rfl,ki,ne,nf,i1,i2,i3,i4,-⟩ := nc.two (by omega);obtain rfl : gc = gi := by injection e1 with e1; injection e1 with e1; injection e1
   have aj0 := Qaa (hN.blk ki (fun h => h)) 0;have aj1 := Qaa (hN.blk ki (fun h => h)) 1;simp at aj0 aj1;have HE := Xi ne;have HF := Xi nf;have HF0 := Xi (fun a => hN.trans (Fr.drewN _ a (fun _ => False)) (fun _ _ h => h) (fun _ _ h => h));rw [List.length_append] at hz;clear nl nc nd kl kc kd hk kb hN e1 ki ne nf;go_enter func179,ntmps179;go_wp2_with fail
   go_quiet (fail)
   go_wp2_with fail
   go_quiet (fail)
   go_wp2_with fail
   go_quiet (fail)
   go_wp2_with fail;refine (Qdb _ _ _).mono ?_;rintro e w2 ⟨rfl,hf2⟩;have HF2 := Xi (ff (HF0.out _) hf2);clear hf2;go_wp2_with fail;refine (Qch (HF.out.keepo HF2.out) (HD.out.keepo HF2.out) (by omega) (by omega) (by omega) (by omega) (by omega) (by omega) (by omega)).mono ?_;rintro e w3 ⟨hf3,v3,rfl,n3⟩;obtain ⟨g3,x3,y3,l3,rfl,hg3,k3⟩ := n3.block (by omega);have HF3 := Xf HF2 hf3;have HN3 := Xi n3;clear hf3 n3 k3;go_wp2_with fail;refine (Qdb _ _ _).mono ?_;rintro e w4 ⟨rfl,hf4⟩;have HF4 := Xf HF3 hf4;have HN4 := Xi (HN3.out.keepo hf4);clear hf4;go_wp2_with fail;refine (Qch (HL.out.keepo HF4.out) (HE.out.keepo HF4.out) (by omega) (by omega) (by omega) (by omega) (by omega) (by omega) (by omega)).mono ?_;rintro e w5 ⟨hf5,v5,rfl,n5⟩;obtain ⟨g5,x5,y5,l5,rfl,hg5,k5⟩ := n5.block (by omega);have HF5 := Xf HF4 hf5;have HN5 := Xi n5;have HN45 := Xi (HN4.out.keepo hf5);clear hf5 n5 k5;go_wp2_with fail;refine (Qdb _ _ _).mono ?_;rintro e w6 ⟨rfl,hf6⟩;have HF6 := Xf HF5 hf6;have HN6 := Xi (HN5.out.keepo hf6);have HN46 := Xi (HN45.out.keepo hf6);clear hf6;go_wp2_with fail;refine (Qch HN6.out HN46.out (by omega) (by omega) (by omega) (by omega) (by first | omega | (simp; omega)) (by first | omega | (simp; omega)) (by omega)).mono ?_;rintro e w7 ⟨hf7,v7,rfl,n7⟩;have HF7 := Xf HF6 hf7;have HN7 := Xi n7;clear hf7 n7;go_wp2_with fail;go_ret;refine ⟨_,?_,?_,HF7.out,_,rfl,HN7.out.cast (by simp)⟩ <;> omega
/-- what even gives: as high as a pair,or,where it turned,perhaps one less -/
def QmM (w : World) (s : Bs) (ha hb : Nat) (e : Ending) (w' : World) : Prop := ∃ h,max ha hb ≤ h ∧ h ≤ max ha hb + 1 ∧ (ha ≤ hb + 1 → hb ≤ ha + 1 → h = 1 + max ha hb) ∧ Qod w s h e w'

theorem even_l {w : World} {B : Nat} {va vb : Value} {sa sb : Bs} {ha hb : Nat} (na : NodeAt w B va sa ha) (nb : NodeAt w B vb sb hb) (h1 : 1 ≤ ha) (h2 : 1 ≤ hb) (hd : ha = hb + 2) (hz : sa.length + sb.length ≤ 100000) (hhz : ha + hb ≤ 900) :
  Calls Tryz.prog 151 #[.agg #[va,vb]] w (QmM w (sa ++ sb) ha hb) := by
 obtain ⟨ga,xa,ya,la,rfl,hga,ka⟩ := na.block h1;obtain ⟨gb,xb,yb,lb,rfl,hgb,kb⟩ := nb.block h2;have hN := Fr.new w (.cells #[ptr ga,ptr gb] 190) (fun _ => False);have kk := Blk.made w 190 #[ptr ga,ptr gb];have m0 := Qaa kk 0;have m1 := Qaa kk 1;simp at m0 m1;have ac := Qaa (hN.blk ka (fun h => h)) 5;have ad := Qaa (hN.blk kb (fun h => h)) 5;simp at ac ad;have HA := Xi na;have HB := Xi nb;have HF0 := Xi (fun a => hN.trans (Fr.drewN _ a (fun _ => False)) (fun _ _ h => h) (fun _ _ h => h));have wa : IntKind.i64.wrap ((ha : Int) + 2) = (ha : Int) + 2 := IntWalk.i64_in _ ⟨by omega,by omega⟩;have wb : IntKind.i64.wrap ((hb : Int) + 2) = (hb : Int) + 2 := IntWalk.i64_in _ ⟨by omega,by omega⟩;have tab : (((ha : Int)) == (hb : Int) + 2) = true := by simp; omega
 have HM := Xi (show max ha hb = ha from Nat.max_eq_left (by omega));clear na nb ka kb kk hN;go_enter func151,ntmps151;go_wp2_with fail;refine wp_loop_rounds 3 ?_;rw [rounds_succ];go_wp2_with fail
 go_quiet (fail)
 go_wp2_with fail;refine (Qop (HB.out.keepo (HF0.out _)) (HA.out.keepo (HF0.out _)) h2 hd (by omega) (by omega)).mono ?_;rintro e w3 ⟨h,l1,l2,hf3,v3,rfl,n3⟩;have HF3 := Xi (ff (HF0.out _) hf3);have HN3 := Xi n3;clear hf3 n3;go_wp2_with fail;go_ret;refine ⟨h,?_,?_,?_,HF3.out,_,rfl,HN3.out⟩ <;> omega

theorem even_r {w : World} {B : Nat} {va vb : Value} {sa sb : Bs} {ha hb : Nat} (na : NodeAt w B va sa ha) (nb : NodeAt w B vb sb hb) (h1 : 1 ≤ ha) (h2 : 1 ≤ hb) (hd : hb = ha + 2) (hz : sa.length + sb.length ≤ 100000) (hhz : ha + hb ≤ 900) :
  Calls Tryz.prog 151 #[.agg #[va,vb]] w (QmM w (sa ++ sb) ha hb) := by
 obtain ⟨ga,xa,ya,la,rfl,hga,ka⟩ := na.block h1;obtain ⟨gb,xb,yb,lb,rfl,hgb,kb⟩ := nb.block h2;have hN := Fr.new w (.cells #[ptr ga,ptr gb] 190) (fun _ => False);have kk := Blk.made w 190 #[ptr ga,ptr gb];have m0 := Qaa kk 0;have m1 := Qaa kk 1;simp at m0 m1;have ac := Qaa (hN.blk ka (fun h => h)) 5;have ad := Qaa (hN.blk kb (fun h => h)) 5;simp at ac ad;have HA := Xi na;have HB := Xi nb;have HF0 := Xi (fun a => hN.trans (Fr.drewN _ a (fun _ => False)) (fun _ _ h => h) (fun _ _ h => h));have wa : IntKind.i64.wrap ((ha : Int) + 2) = (ha : Int) + 2 := IntWalk.i64_in _ ⟨by omega,by omega⟩;have wb : IntKind.i64.wrap ((hb : Int) + 2) = (hb : Int) + 2 := IntWalk.i64_in _ ⟨by omega,by omega⟩;have tab : (((ha : Int)) == (hb : Int) + 2) = false := by simp; omega
 have tba : (((hb : Int)) == (ha : Int) + 2) = true := by simp; omega
 have HM := Xi (show max ha hb = hb from Nat.max_eq_right (by omega));clear na nb ka kb kk hN;go_enter func151,ntmps151;go_wp2_with fail;refine wp_loop_rounds 3 ?_;rw [rounds_succ];go_wp2_with fail
 go_quiet (fail)
 go_wp2_with fail;rw [rounds_succ];go_wp2_with fail
 go_quiet (fail)
 go_wp2_with fail;refine (Qoo (HA.out.keepo (HF0.out _)) (HB.out.keepo (HF0.out _)) h1 hd (by omega) (by omega)).mono ?_;rintro e w3 ⟨h,l1,l2,hf3,v3,rfl,n3⟩;have HF3 := Xi (ff (HF0.out _) hf3);have HN3 := Xi n3;clear hf3 n3;go_wp2_with fail;go_ret;refine ⟨h,?_,?_,?_,HF3.out,_,rfl,HN3.out⟩ <;> omega

theorem even_m {w : World} {B : Nat} {va vb : Value} {sa sb : Bs} {ha hb : Nat} (na : NodeAt w B va sa ha) (nb : NodeAt w B vb sb hb) (h1 : 1 ≤ ha) (h2 : 1 ≤ hb) (h3 : ha ≤ hb + 1) (h4 : hb ≤ ha + 1) (hz : sa.length + sb.length ≤ 100000) (hhz : ha + hb ≤ 900) :
  Calls Tryz.prog 151 #[.agg #[va,vb]] w (QmM w (sa ++ sb) ha hb) := by
 obtain ⟨ga,xa,ya,la,rfl,hga,ka⟩ := na.block h1;obtain ⟨gb,xb,yb,lb,rfl,hgb,kb⟩ := nb.block h2;have hN := Fr.new w (.cells #[ptr ga,ptr gb] 190) (fun _ => False);have kk := Blk.made w 190 #[ptr ga,ptr gb];have m0 := Qaa kk 0;have m1 := Qaa kk 1;simp at m0 m1;have ac := Qaa (hN.blk ka (fun h => h)) 5;have ad := Qaa (hN.blk kb (fun h => h)) 5;simp at ac ad;have HA := Xi na;have HB := Xi nb;have HF0 := Xi (fun a => hN.trans (Fr.drewN _ a (fun _ => False)) (fun _ _ h => h) (fun _ _ h => h));have wa : IntKind.i64.wrap ((ha : Int) + 2) = (ha : Int) + 2 := IntWalk.i64_in _ ⟨by omega,by omega⟩;have wb : IntKind.i64.wrap ((hb : Int) + 2) = (hb : Int) + 2 := IntWalk.i64_in _ ⟨by omega,by omega⟩;have tab : (((ha : Int)) == (hb : Int) + 2) = false := by simp; omega
 have tba : (((hb : Int)) == (ha : Int) + 2) = false := by simp; omega
 clear na nb ka kb kk hN;go_enter func151,ntmps151;go_wp2_with fail;refine wp_loop_rounds 3 ?_;rw [rounds_succ];go_wp2_with fail
 go_quiet (fail)
 go_wp2_with fail;rw [rounds_succ];go_wp2_with fail
 go_quiet (fail)
 go_wp2_with fail;rw [rounds_succ];go_wp2_with fail;refine (Qch (HA.out.keepo (HF0.out _)) (HB.out.keepo (HF0.out _)) h1 h2 h3 h4 (by omega) (by omega) (by omega)).mono ?_;rintro e w3 ⟨hf3,v3,rfl,n3⟩;have HF3 := Xi (ff (HF0.out _) hf3);have HN3 := Xi n3;clear hf3 n3;go_wp2_with fail;go_ret;refine ⟨_,?_,?_,?_,HF3.out,_,rfl,HN3.out⟩ <;> omega

theorem Qmy {w : World} {B : Nat} {va vb : Value} {sa sb : Bs} {ha hb : Nat} (na : NodeAt w B va sa ha) (nb : NodeAt w B vb sb hb) (h1 : 1 ≤ ha) (h2 : 1 ≤ hb) (h3 : ha ≤ hb + 2) (h4 : hb ≤ ha + 2) (hz : sa.length + sb.length ≤ 100000) (hhz : ha + hb ≤ 900) :
  Calls Tryz.prog 151 #[.agg #[va,vb]] w (QmM w (sa ++ sb) ha hb) := by
 rcases Nat.eq_or_lt_of_le h3 with e | e
 ·exact even_l na nb h1 h2 e hz hhz
 ·rcases Nat.eq_or_lt_of_le h4 with e' | e'
  ·exact even_r na nb h1 h2 e' hz hhz
  ·exact even_m na nb h1 h2 (by omega) (by omega) hz hhz
end Go.Proofs.YtodcnbejnchmhaaGreatDoor.S3
