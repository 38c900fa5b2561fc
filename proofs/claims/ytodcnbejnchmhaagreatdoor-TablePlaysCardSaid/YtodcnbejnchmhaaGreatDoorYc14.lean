import Derived.Test.YtodcnbejnchmhaaGreatDoorYc13
import Derived.LoopTactic
import Derived.Deep.LoopGhost
import Derived.OwnWalk
set_option maxHeartbeats 2000000
namespace Go.Proofs.YtodcnbejnchmhaaGreatDoor.S3
open _root_.Go.Proofs.Tryz
open Go.RowKit Go.Mem Go.Rope

def repl (l : Bs) (f t : Nat) (s : Bs) : Bs := l.take f ++ s ++ l.drop t
theorem Qew {l : Bs} {f t : Nat} (s : Bs) (h1 : f ≤ t) (h2 : t ≤ l.length) : (repl l f t s).length = l.length - (t - f) + s.length := by
 unfold repl;rw [List.length_append,List.length_append,List.length_take,List.length_drop];omega
theorem Qo6 {a b : Bs} {f t : Nat} (s : Bs) (h1 : f ≤ t) (h2 : t ≤ a.length) : repl a f t s ++ b = repl (a ++ b) f t s := by
 unfold repl;rw [List.take_append_of_le_length (by omega),List.drop_append_of_le_length h2];simp
theorem Qnu {a b : Bs} {f t : Nat} (s : Bs) (h1 : a.length ≤ f) (h2 : f ≤ t) : a ++ repl b (f - a.length) (t - a.length) s = repl (a ++ b) f t s := by
 unfold repl;rw [List.take_append,List.drop_append,List.take_of_length_le h1,List.drop_eq_nil_of_le (Nat.le_trans h1 h2)];simp
theorem Qo7 {a b : Bs} {f t : Nat} (s : Bs) (h1 : f ≤ a.length) (h2 : a.length ≤ t) : repl a f a.length s ++ repl b 0 (t - a.length) [] = repl (a ++ b) f t s := by
 unfold repl;rw [List.take_append_of_le_length h1,List.drop_append,List.drop_eq_nil_of_le h2];simp
theorem kp1 {w a b : World} {p1 o1 : Nat} {v1 : Value} (h : Fr w a (fun _ => False) ∧ a.cell? ⟨p1,o1,none⟩ = some v1) (hf : Fr a b (fun _ => False)) :
  Fr w b (fun _ => False) ∧ b.cell? ⟨p1,o1,none⟩ = some v1 := ⟨ff h.1 hf,hf.cell0 h.2⟩

theorem Qjs {w : World} {B : Nat} {v : Value} {l s : Bs} {h f t : Nat} (n : NodeAt w B v l h) (h1 : f ≤ t) (h2 : t ≤ l.length) (hl : l.length + s.length ≤ 90000) (hh : h ≤ 1) :
  Calls Tryz.prog 86 #[v,.int .i64 (f : Int),.int .i64 (t : Int),strV s] w (Qf9 w (repl l f t s)) := by
 have HH := Xi (QfT n);have HB := Xi (Qel n);have HT := Xi (Qij (f := 0) (t := l.length) n (by omega) (by omega) (by omega));rw [Qlw] at HT;have hs := Qal s;have hz := Qal l;have e1 : ((⟨l.toArray⟩ : ByteArray).extract 0 f).size = f := by rw [QbT,Qal,Qbw (by omega) (by omega)]; omega
 have e2 : ((⟨l.toArray⟩ : ByteArray).extract t l.length).size = l.length - t := by rw [QbT,Qal,Qbw (by omega) (by omega)]
 have a1 := fun w => run_string_add_sum (P := Tryz.prog) w ((⟨l.toArray⟩ : ByteArray).extract 0 f) ⟨s.toArray⟩ (by rw [e1,hs]; omega);have a2 := fun w => run_string_add_sum (P := Tryz.prog) w ((⟨l.toArray⟩ : ByteArray).extract 0 f ++ ⟨s.toArray⟩) ((⟨l.toArray⟩ : ByteArray).extract t l.length) (by rw [ByteArray.size_append,e1,e2,hs]; omega);have HN := Xi (fun w => QnB (repl l f t s) (by rw [Qew s h1 h2]; omega) w);rw [show strV (repl l f t s) = .string ((⟨l.toArray⟩ : ByteArray).extract 0 f ++ ⟨s.toArray⟩ ++ (⟨l.toArray⟩ : ByteArray).extract t l.length) by rw [QbT,QbT,QgK,QgK]; simp [repl,cut]] at HN;have i0 : (0 : Int) ≤ (f : Int) := by omega
 have i1 : (f : Int) ≤ (l.length : Int) := by omega
 have i2 : (0 : Int) ≤ (t : Int) := by omega
 have i3 : (t : Int) ≤ (l.length : Int) := by omega
 have i4 : (h : Int) ≤ 1 := by omega
 clear n e1 e2;go_enter func86,ntmps86;go_wp2_with fail;refine HH.out.mono ?_;rintro e w2 ⟨rfl,rfl⟩;go_wp2_with fail;refine HB.out.mono ?_;rintro e w2 ⟨rfl,rfl⟩;go_wp2_with fail;refine HT.out.mono ?_;rintro e w2 ⟨rfl,hf2⟩;have HF2 := Xi hf2;clear hf2;go_wp2_with fail
 go_region_held3 (fun w' => Fr w w' (fun _ => False))
  (first | with_reducible exact ff HF2.out (Fr.drew _ _) | with_reducible exact ff hS hf5 | with_reducible assumption)
  ((go_at_call 122; rename_i hS _ _; refine (HN.out _).mono ?_; rintro e w5 ⟨h5,hf5,v5,rfl,n5⟩))
 rename_i hS;have HS := Xi hS;have HN5 := Xi n5;clear hS n5;go_wp2_with fail;go_ret;exact ⟨h5,HS.out,_,rfl,HN5.out⟩

def ReplOk (m : Nat) : Prop := ∀ {w : World} {B : Nat} {v : Value} {l s : Bs} {h f t : Nat},NodeAt w B v l h → f ≤ t → t ≤ l.length → l.length + s.length ≤ 90000 → h ≤ m →
  Calls Tryz.prog 86 #[v,.int .i64 (f : Int),.int .i64 (t : Int),strV s] w (Qf9 w (repl l f t s))

theorem Qo5 {m : Nat} (IH : ReplOk m) {w : World} {B : Nat} {v : Value} {l s : Bs} {h f t : Nat} (n : NodeAt w B v l h) (h1 : f ≤ t) (h2 : t ≤ l.length) (hl : l.length + s.length ≤ 90000) (hh : 2 ≤ h) (hm : h ≤ m + 1) :
  Calls Tryz.prog 86 #[v,.int .i64 (f : Int),.int .i64 (t : Int),strV s] w (Qf9 w (repl l f t s)) := by
 have HH := Xi (QfT n);obtain ⟨g,gc,gd,sc,sd,hc,hd,rfl,rfl,e4,kg,nc,nd,i1,i2,i3,i4,hg⟩ := n.two hh;obtain ⟨gc',xc,yc,lc,e1,hgc,kc⟩ := nc.block i1;obtain rfl : gc = gc' := by injection e1 with e1; injection e1 with e1; injection e1
 rw [List.length_append] at h2 hl;have c0 := Qaa kg 0;have c1 := Qaa kg 1;have d3 := Qaa kc 3;simp at c0 c1 d3;have t2 : ¬ ((h : Int) ≤ 1) := by omega
 obtain ⟨q,hq⟩ : ∃ q : Nat,q = sc.length := ⟨_,rfl⟩;rw [← hq] at h2 hl d3;have hcz := nc.height_le' (by omega);have hdz := nd.height_le' (by omega);have HC := Xi nc;have HD := Xi nd;have HQ := Xi hq;have HF0 := Xi (fun k => Fr.drewN w k (fun _ => False));have hS1 : Hid (∀ k,Fr w (w.drewN k) (fun _ => False) ∧ (w.drewN k).cell? ⟨gc,3,none⟩ = some (.int .i64 (q : Int))) := Xi fun k => ⟨Fr.drewN _ _ _,d3⟩;have hS2 : Hid (∀ j k,Fr w ((w.drewN j).drewN k) (fun _ => False) ∧ ((w.drewN j).drewN k).cell? ⟨gc,3,none⟩ = some (.int .i64 (q : Int))) := Xi fun j k => ⟨ff (Fr.drewN _ _ _) (Fr.drewN _ _ _),d3⟩;rcases Nat.lt_or_ge q t with ht | ht
 ·rcases Nat.lt_or_ge f q with hf | hf
  ·-- both
   have a1 : ¬ ((t : Int) ≤ (q : Int)) := by omega
   have a2 : ¬ ((f : Int) ≥ (q : Int)) := by omega
   have a2' : ¬ (q ≤ f) := by omega
   have a3 : IntKind.i64.wrap ((t : Int) - (q : Int)) = ((t - q : Nat) : Int) := by rw [IntWalk.i64_in _ ⟨by omega,by omega⟩]; omega
   have HI1 := Xi (fun (W : World) (hf : Fr w W (fun _ => False)) => IH (s := s) (f := f) (t := q) (nc.keep hf) (by omega) (by omega) (by omega) (by omega));have HI2 : Hid (∀ (W : World) (hf : Fr w W (fun _ => False)),Calls Tryz.prog 86 #[ptr gd,.int .i64 0,.int .i64 ((t - q : Nat) : Int),.string ⟨#[]⟩] W (Qf9 W (repl sd 0 (t - q) []))) := Xi (fun (W : World) (hf : Fr w W (fun _ => False)) => IH (s := []) (f := 0) (t := t - q) (nd.keep hf) (by omega) (by omega) (by simp; omega) (by omega));have z1 := Qew (l := sc) (f := f) (t := q) s (by omega) (by omega);have z2 := Qew (l := sd) (f := 0) (t := t - q) [] (by omega) (by omega);have HZ : Hid ((repl sc f q s).length + (repl sd 0 (t - q) []).length ≤ 100000 ∧ (repl sc f q s).length ≤ 100000 ∧ (repl sd 0 (t - q) []).length ≤ 100000) := Xi (by rw [List.length_nil] at z2; omega);have HW := Xi (show repl sc f q s ++ repl sd 0 (t - q) [] = repl (sc ++ sd) f t s by rw [hq]; exact Qo7 s (by omega) (by omega));clear n kg nc nd kc e1 hq z1 z2 hcz hdz;go_enter func86,ntmps86;go_wp2_with fail;refine HH.out.mono ?_;rintro e w2 ⟨rfl,rfl⟩;go_wp2_with fail
   go_quiet (fail)
   go_wp2_with fail
   go_region_held3 (fun w' => Fr w w' (fun _ => False) ∧ w'.cell? ⟨gc,3,none⟩ = some (.int .i64 (q : Int)))
    (first | with_reducible exact kp1 (hS1.out _) (Fr.drew _ _) | with_reducible exact kp1 (hS2.out _ _) (Fr.drew _ _) | with_reducible exact kp1 hS hf7 | with_reducible exact kp1 hS hf6 | with_reducible exact kp1 hS hf5 | with_reducible exact kp1 (hS1.out _) hf5 | with_reducible assumption)
    ((first
     | (go_at_call 86; rename_i hS _ _; first
       | ((with_reducible refine (HI1.out _ hS.1).mono ?_); rintro e w5 ⟨h5,hf5,v5,rfl,n5⟩)
       | ((with_reducible refine (HI1.out _ (HF0.out _)).mono ?_); rintro e w5 ⟨h5,hf5,v5,rfl,n5⟩)
       | ((with_reducible refine (HI2.out _ hS.1).mono ?_); rintro e w6 ⟨h6,hf6,v6,rfl,n6⟩))
     | (go_at_call 123; rename_i hS _ _; refine (Qgp (n5.keepo hf6) n6 HZ.out.1 (Nat.le_trans (n5.height_le' HZ.out.2.1) (by omega)) (Nat.le_trans (n6.height_le' HZ.out.2.2) (by omega))).mono ?_; rintro e w7 ⟨h7,l7,u7,hf7,v7,rfl,n7⟩)))
   rename_i hS;have HS := Xi hS.1;have HN := Xi n7;clear hS n7;go_wp2_with fail;go_ret;exact ⟨h7,HS.out,_,rfl,HN.out.cast HW.out⟩
  ·-- the right one
   have a1 : ¬ ((t : Int) ≤ (q : Int)) := by omega
   have a2 : ((f : Int) ≥ (q : Int)) := by omega
   have a2' : q ≤ f := by omega
   have a3 : IntKind.i64.wrap ((t : Int) - (q : Int)) = ((t - q : Nat) : Int) := by rw [IntWalk.i64_in _ ⟨by omega,by omega⟩]; omega
   have a4 : IntKind.i64.wrap ((f : Int) - (q : Int)) = ((f - q : Nat) : Int) := by rw [IntWalk.i64_in _ ⟨by omega,by omega⟩]; omega
   have HI2 := Xi (fun (W : World) (hf : Fr w W (fun _ => False)) => IH (s := s) (f := f - q) (t := t - q) (nd.keep hf) (by omega) (by omega) (by omega) (by omega));have z2 := Qew (l := sd) (f := f - q) (t := t - q) s (by omega) (by omega);have HZ : Hid (sc.length + (repl sd (f - q) (t - q) s).length ≤ 100000 ∧ hc ≤ 400 ∧ (repl sd (f - q) (t - q) s).length ≤ 100000) := Xi (by omega);have HW := Xi (show sc ++ repl sd (f - q) (t - q) s = repl (sc ++ sd) f t s by rw [hq]; exact Qnu s (by omega) (by omega));clear n kg nc nd kc e1 hq z2 hcz hdz;go_enter func86,ntmps86;go_wp2_with fail;refine HH.out.mono ?_;rintro e w2 ⟨rfl,rfl⟩;go_wp2_with fail
   go_quiet (fail)
   go_wp2_with fail
   go_region_held3 (fun w' => Fr w w' (fun _ => False) ∧ w'.cell? ⟨gc,3,none⟩ = some (.int .i64 (q : Int)))
    (first | with_reducible exact kp1 (hS1.out _) (Fr.drew _ _) | with_reducible exact kp1 (hS2.out _ _) (Fr.drew _ _) | with_reducible exact kp1 hS hf7 | with_reducible exact kp1 hS hf6 | with_reducible exact kp1 (hS1.out _) hf6 | with_reducible assumption)
    ((first
     | (go_at_call 86; rename_i hS _ _; first
       | ((with_reducible refine (HI2.out _ hS.1).mono ?_); rintro e w6 ⟨h6,hf6,v6,rfl,n6⟩)
       | ((with_reducible refine (HI2.out _ (HF0.out _)).mono ?_); rintro e w6 ⟨h6,hf6,v6,rfl,n6⟩))
     | (go_at_call 123; rename_i hS _ _; refine (Qgp (HC.out.keepo hS.1) n6 HZ.out.1 HZ.out.2.1 (Nat.le_trans (n6.height_le' HZ.out.2.2) (by omega))).mono ?_; rintro e w7 ⟨h7,l7,u7,hf7,v7,rfl,n7⟩)))
   rename_i hS;have HS := Xi hS.1;have HN := Xi n7;clear hS n7;go_wp2_with fail;go_ret;exact ⟨h7,HS.out,_,rfl,HN.out.cast HW.out⟩
 ·-- the left one
  have a1 : ((t : Int) ≤ (q : Int)) := by omega
  have HI1 := Xi (fun (W : World) (hf : Fr w W (fun _ => False)) => IH (s := s) (f := f) (t := t) (nc.keep hf) (by omega) (by omega) (by omega) (by omega));have z1 := Qew (l := sc) (f := f) (t := t) s (by omega) (by omega);have HZ : Hid ((repl sc f t s).length + sd.length ≤ 100000 ∧ (repl sc f t s).length ≤ 100000 ∧ hd ≤ 400) := Xi (by omega);have HW := Xi (show repl sc f t s ++ sd = repl (sc ++ sd) f t s from Qo6 s (by omega) (by omega));clear n kg nc nd kc e1 hq z1 hcz hdz;go_enter func86,ntmps86;go_wp2_with fail;refine HH.out.mono ?_;rintro e w2 ⟨rfl,rfl⟩;go_wp2_with fail
  go_quiet (fail)
  go_wp2_with fail;refine (HI1.out _ (HF0.out _)).mono ?_;rintro e w5 ⟨h5,hf5,v5,rfl,n5⟩;have HF5 := Xi (ff (HF0.out _) hf5);have HN5 := Xi n5;clear hf5 n5;go_wp2_with fail;refine (Qgp HN5.out (HD.out.keepo HF5.out) HZ.out.1 (Nat.le_trans (HN5.out.height_le' HZ.out.2.1) (by omega)) HZ.out.2.2).mono ?_;rintro e w7 ⟨h7,l7,u7,hf7,v7,rfl,n7⟩;have HF7 := Xf HF5 hf7;have HN := Xi n7;clear hf7 n7;go_wp2_with fail;go_ret;exact ⟨h7,HF7.out,_,rfl,HN.out.cast HW.out⟩

theorem repl_ok : ∀ m,ReplOk m := by
 intro m
 induction m with
 | zero => intro w B v l s h f t n h1 h2 hl hm; exact Qjs n h1 h2 hl (by omega)
 | succ m IH =>
  intro w B v l s h f t n h1 h2 hl hm;rcases Nat.lt_or_ge h 2 with h0 | h0
  ·exact Qjs n h1 h2 hl (by omega)
  ·exact Qo5 IH n h1 h2 hl h0 hm
theorem QkJ {w : World} {B : Nat} {v : Value} {l : Bs} (s : Bs) {h f t : Nat} (n : NodeAt w B v l h) (h1 : f ≤ t) (h2 : t ≤ l.length) (hl : l.length + s.length ≤ 90000) :
  Calls Tryz.prog 86 #[v,.int .i64 (f : Int),.int .i64 (t : Int),strV s] w (Qf9 w (repl l f t s)) := repl_ok _ n h1 h2 hl (Nat.le_refl _)
/-- the value v is a rope (nil,or a block) whose root is x; its bytes are l -/
def RopeAt (w : World) (v x : Value) (l : Bs) (h : Nat) : Prop := NodeAt w w.heap.size x l h ∧ ((v = .pointer none ∧ x = .pointer none) ∨ ∃ g,v = ptr g ∧ Blk w g 155 #[x])
theorem RopeAt.keep {w w' : World} {v x : Value} {l : Bs} {h : Nat} (r : RopeAt w v x l h) (hf : Fr w w' (fun _ => False)) : RopeAt w' v x l h := by
 refine ⟨r.1.keepo hf,?_⟩;rcases r.2 with h | ⟨g,h1,h2⟩
 ·exact .inl h
 ·exact .inr ⟨g,h1,hf.blk h2 (fun h => h)⟩
theorem NodeAt.addr {w : World} {B : Nat} {v : Value} {s : Bs} {h : Nat} (n : NodeAt w B v s h) : ∃ a,v = .pointer a := by cases n <;> exact ⟨_,rfl⟩
theorem RopeAt.nil (w : World) : RopeAt w (.pointer none) (.pointer none) [] 0 := ⟨.empty,.inl ⟨rfl,rfl⟩⟩
theorem NodeAt.made {w5 w6 : World} {v : Value} {l : Bs} {h : Nat} (n : NodeAt w5 w5.heap.size v l h) (he : w6 = w5.alloc (.cells #[v] 155)) : RopeAt w6 (ptr w5.heap.size) v l h := by
 subst he;exact ⟨n.keepo (Fr.new _ _ _),.inr ⟨_,rfl,Blk.made _ _ _⟩⟩
theorem Qls (w : World) (g : Nat) : (binOp .eql 72 (ptr g) (.pointer none)).run Tryz.prog w = .ok (.bool false) w := by kernel_rfl

theorem QfH {w : World} {v x : Value} {l : Bs} {h : Nat} (r : RopeAt w v x l h) : Calls Tryz.prog 54 #[v] w fun e w' => e = .returned x ∧ w = w' := by
 rcases r.2 with ⟨rfl,rfl⟩ | ⟨g,rfl,hg⟩
 ·clear r;go_enter func54,ntmps54;go_wp2_with fail;go_ret;exact ⟨rfl,rfl⟩
 ·have c0 := Qaa hg 0;simp at c0;have hne := fun w => Qls w g;clear hg r;go_enter func54,ntmps54;go_wp2_with fail;go_ret;exact ⟨rfl,rfl⟩
theorem QiZ {w : World} {v x : Value} {l : Bs} {h : Nat} (r : RopeAt w v x l h) : Calls Tryz.prog 61 #[v] w fun e w' => e = .returned (.int .i64 (l.length : Int)) ∧ w = w' := by
 have HT := Xi (QfH r);have HB := Xi (Qel r.1);clear r;go_enter func61,ntmps61;go_wp2_with fail;refine HT.out.mono ?_;rintro e w' ⟨rfl,rfl⟩;go_wp2_with fail;refine HB.out.mono ?_;rintro e w' ⟨rfl,rfl⟩;go_wp2_with fail;go_ret;exact ⟨rfl,rfl⟩
theorem Qeo {w : World} {v x : Value} {l : Bs} {h : Nat} (r : RopeAt w v x l h) (hl : l.length ≤ 20000) : Calls Tryz.prog 53 #[v] w fun e w' => e = .returned (.int .i64 ((Qah l + 1 : Nat) : Int)) ∧ w = w' := by
 have HT := Xi (QfH r);have HB := Xi (QeI r.1);have hf := QbM l;have hb : (Qah l : Int) ≤ 20000 := by omega
 clear r hf;go_enter func53,ntmps53;go_wp2_with fail;refine HT.out.mono ?_;rintro e w' ⟨rfl,rfl⟩;go_wp2_with fail;refine HB.out.mono ?_;rintro e w' ⟨rfl,rfl⟩;go_wp2_with fail;go_ret;exact ⟨rfl,rfl⟩
theorem Text_any {w : World} {v x : Value} {l : Bs} {h : Nat} (r : RopeAt w v x l h) (hl : l.length ≤ 20000) : Calls Tryz.prog 37 #[v] w fun e w' => e = .returned (strV l) ∧ Fr w w' (fun _ => False) := by
 have HT := Xi (QfH r);have HL := Xi (QiZ r);have HX := Xi (Qij (f := 0) (t := l.length) r.1 (by omega) (by omega) (by omega));rw [Qlw] at HX;clear r;go_enter func37,ntmps37;go_wp2_with fail;refine HT.out.mono ?_;rintro e w' ⟨rfl,rfl⟩;go_wp2_with fail;refine HL.out.mono ?_;rintro e w' ⟨rfl,rfl⟩;go_wp2_with fail;refine HX.out.mono ?_;rintro e w' ⟨rfl,hf⟩;have HF := Xi hf;clear hf;go_wp2_with fail;go_ret;exact ⟨rfl,HF.out⟩

/-- a stretch that is there -/
def InR (l : Bs) (x y : Int) : Prop := 0 ≤ x ∧ x ≤ y ∧ y ≤ (l.length : Int)
instance (l : Bs) (x y : Int) : Decidable (InR l x y) := by unfold InR; infer_instance
theorem Qhi {w : World} {v r : Value} {l : Bs} {h : Nat} (ro : RopeAt w v r l h) (x y : Int) (b : Bool) (hb : b = true ↔ InR l x y) : Calls Tryz.prog 85 #[v,.int .i64 x,.int .i64 y] w fun e w' => e = .returned (.bool b) ∧ w = w' := by
 have HL := Xi (QiZ ro);have HB := Xi hb;clear ro hb;by_cases h1 : 0 ≤ x
 ·by_cases h2 : x ≤ y
  ·by_cases h3 : y ≤ (l.length : Int)
   ·obtain rfl : b = true := HB.out.2 ⟨h1,h2,h3⟩;go_enter func85,ntmps85;go_wp2_with fail;refine HL.out.mono ?_;rintro e w' ⟨rfl,rfl⟩;go_wp2_with fail;go_ret;exact ⟨rfl,rfl⟩
   ·obtain rfl : b = false := by rw [Bool.eq_false_iff]; intro e; exact h3 (HB.out.1 e).2.2
    go_enter func85,ntmps85;go_wp2_with fail;refine HL.out.mono ?_;rintro e w' ⟨rfl,rfl⟩;go_wp2_with fail;go_ret;exact ⟨by show Ending.returned (.bool (decide _)) = _; rw [decide_eq_false (by omega)],rfl⟩
  ·obtain rfl : b = false := by rw [Bool.eq_false_iff]; intro e; exact h2 (HB.out.1 e).2.1
   go_enter func85,ntmps85;go_wp2_with fail;go_ret;exact ⟨rfl,rfl⟩
 ·obtain rfl : b = false := by rw [Bool.eq_false_iff]; intro e; exact h1 (HB.out.1 e).1
  go_enter func85,ntmps85;go_wp2_with fail;go_ret;exact ⟨rfl,rfl⟩

/-- a call gives a rope of these bytes,and a kind -/
def Qqz (w : World) (l : Bs) (k : Int) (e : Ending) (w' : World) : Prop := ∃ v x h,e = .returned (.tuple #[v,.int .i64 k]) ∧ RopeAt w' v x l h ∧ Fr w w' (fun _ => False)
/-- what Splice answers -/
def Qb9 (l : Bs) (x y : Int) (s : Bs) : Bs × Int := if InR l x y then (if l.length - (y.toNat - x.toNat) + s.length ≤ 20000 then (repl l x.toNat y.toNat s,0) else ([],17)) else ([],2)
theorem QeJ {w : World} {v r : Value} {l : Bs} {h : Nat} (ro : RopeAt w v r l h) (hl : l.length ≤ 20000) (x y : Int) (s : Bs) (hz : s.length ≤ 20100) (t : Bs) (k : Int) (hs : Qb9 l x y s = (t,k)) :
  Calls Tryz.prog 52 #[v,.int .i64 x,.int .i64 y,strV s] w (Qqz w t k) := by
 unfold Qb9 at hs;have hss := Qal s;by_cases hr : InR l x y
 ·rw [if_pos hr] at hs;have HH := Xi (Qhi ro x y true (by simp [hr]));have HL := Xi (QiZ ro);have HT := Xi (QfH ro);obtain ⟨r1,r2,r3⟩ := hr;obtain ⟨f,rfl⟩ : ∃ f : Nat,x = (f : Int) := ⟨x.toNat,by omega⟩;obtain ⟨u,rfl⟩ : ∃ u : Nat,y = (u : Int) := ⟨y.toNat,by omega⟩;simp only [Int.toNat_natCast] at hs;have w1 : (u : Int) - (f : Int) = ((u - f : Nat) : Int) := by omega
  have b1 : ((u - f : Nat) : Int) ≤ (l.length : Int) := by omega
  by_cases hbig : l.length - (u - f) + s.length ≤ 20000
  ·rw [if_pos hbig] at hs;obtain ⟨rfl,rfl⟩ := Prod.mk.inj hs;have HX := Xi (QkJ s (f := f) (t := u) ro.1 (by omega) (by omega) (by omega));have t1 : ¬ (20000 - ((l.length : Int) - ((u : Int) - (f : Int))) < (s.length : Int)) := by omega
   clear ro hs w1 b1;go_enter func52,ntmps52;go_wp2_with fail;refine HH.out.mono ?_;rintro e w' ⟨rfl,rfl⟩;go_wp2_with fail;refine HL.out.mono ?_;rintro e w' ⟨rfl,rfl⟩;go_wp2_with fail;refine HT.out.mono ?_;rintro e w' ⟨rfl,rfl⟩;go_wp2_with fail;refine HX.out.mono ?_;rintro e w' ⟨h5,hf,v5,rfl,n⟩;have HF := Xi hf;obtain ⟨a,rfl⟩ := n.addr;have HN := Xi n;clear hf n;go_wp2_with fail
   go_ret2
   exact ⟨_,_,_,rfl,HN.out.made rfl,ff HF.out (Fr.new _ _ _)⟩
  ·rw [if_neg hbig] at hs;obtain ⟨rfl,rfl⟩ := Prod.mk.inj hs;have t1 : (20000 - ((l.length : Int) - ((u : Int) - (f : Int))) < (s.length : Int)) := by omega
   clear ro hs w1 b1;go_enter func52,ntmps52;go_wp2_with fail;refine HH.out.mono ?_;rintro e w' ⟨rfl,rfl⟩;go_wp2_with fail;refine HL.out.mono ?_;rintro e w' ⟨rfl,rfl⟩;go_wp2_with fail
   go_ret2
   exact ⟨_,_,_,rfl,RopeAt.nil _,Fr.refl _ _⟩
 ·rw [if_neg hr] at hs;obtain ⟨rfl,rfl⟩ := Prod.mk.inj hs;have HH := Xi (Qhi ro x y false (by simp [hr]));clear ro hs hr;go_enter func52,ntmps52;go_wp2_with fail;refine HH.out.mono ?_;rintro e w' ⟨rfl,rfl⟩;go_wp2_with fail
  go_ret2
  exact ⟨_,_,_,rfl,RopeAt.nil _,Fr.refl _ _⟩
theorem QjQ : ∀ {l : Bs},1 ≤ Qah l → Lib.indexByte l 10 + 1 = (Qak l 1 : Int) := by
 have key : ∀ {l : Bs},1 ≤ Qah l → 0 ≤ Lib.indexByte l 10 ∧ Lib.indexByte l 10 + 1 = (Qak l 1 : Int) := by
  intro l
  induction l with
  | nil => intro h; simp [Qah] at h
  | cons c r ih =>
   intro h;by_cases hc : c = 10
   ·subst hc;simp [Lib.indexByte,Qak,Qa6]
   ·rw [QbE hc] at h;obtain ⟨h1,h2⟩ := ih h;have e : (Lib.indexByte r 10 == -1) = false := by simp; omega
    have e2 : (c == 10) = false := by simpa using hc
    simp only [Lib.indexByte,e,e2,Qak,if_neg hc];simp;omega
 intro l h;exact (key h).2
theorem QlD {l : Bs} {k : Nat} (h : k < Qah l) : Qak l (k + 1) = Qak l k + Qak (l.drop (Qak l k)) 1 ∧ 1 ≤ Qah (l.drop (Qak l k)) := by
 have hp := (Qcp h).1;have hle := Qb5 l k;have hf := Qib (l := l) (k := k) (n := Qak l k) (by omega) (Nat.le_refl _) (fun _ => hp);have happ := List.take_append_drop (Qak l k) l;have hfa := QbP (l.take (Qak l k)) (l.drop (Qak l k));rw [happ] at hfa;refine ⟨?_,by omega⟩;have hr := Qf7 (a := l.take (Qak l k)) (k := k + 1) (l.drop (Qak l k)) (by omega);rw [happ,hf,List.length_take,Nat.min_eq_left hle,show k + 1 - k = 1 by omega] at hr;exact hr

theorem Qhu {w : World} {B : Nat} {v : Value} {s : Bs} {h : Nat} (n : NodeAt w B v s h) (hh : h = 1) (i : Nat) (hi : i ≤ Qah s) :
  Calls Tryz.prog 93 #[v,.int .i64 (i : Int)] w fun e w' => e = .returned (.int .i64 (Qak s i : Int)) ∧ w = w' := by
 obtain ⟨g,rfl,kg,-,hs128,-⟩ := n.one hh;have c2 := Qaa kg 2;simp at c2;have hs := Qal s;have hfl := QbM s;clear n kg;go_enter func93,ntmps93;go_wp2_with fail
 go_loop [5,7] (fun v5 v7 => ∃ k : Nat,k ≤ i ∧ v7 = .int .i64 (k : Int) ∧ v5 = .int .i64 (Qak s k : Int)) (fun _ v7 => i - (intOf v7).toNat)
 case atStart => exact ⟨0,Nat.zero_le _,rfl,by rw [Qa6]; rfl⟩
 case round =>
  obtain ⟨k,hk,rfl,rfl⟩ := hrel;by_cases hlt : k < i
  ·have hst := QlD (l := s) (k := k) (by omega);have hix := QjQ hst.2;have hle := Qb5 s k;have hle2 := Qb5 s (k + 1);have hst1 := hst.1;obtain ⟨m,hm⟩ : ∃ m,Qak s k = m := ⟨_,rfl⟩;rw [hm] at hst1 hix hle ⊢;have HI := Xi (Tryz.strings_IndexByte ((⟨s.toArray⟩ : ByteArray).extract m s.length) 10 w);have e : ((⟨s.toArray⟩ : ByteArray).extract m s.length).data.toList = s.drop m := by rw [QbT,Qik,cut]; simp
   rw [e] at HI;rw [show (10 : Int).toNat.toUInt8 = 10 from rfl] at HI;obtain ⟨j,hj⟩ : ∃ j,Lib.indexByte (s.drop m) 10 = j := ⟨_,rfl⟩;rw [hj] at HI hix;have HN : Hid ((m : Int) + (j + 1) = (Qak s (k + 1) : Int)) := Xi (by omega);have HM := Xi hm;have b0 : (0 : Int) ≤ (m : Int) := by omega
   have b1 : (m : Int) ≤ (s.length : Int) := by omega
   have b2 : -1 ≤ j := by omega
   have b3 : j ≤ 128 := by omega
   have b4 : (m : Int) ≤ 128 := by omega
   clear hst hst1 hix hle hle2 hj e hm;go_wp2_with fail;refine HI.out.mono ?_;rintro e w' ⟨rfl,rfl⟩;go_wp2_with fail
   go_round
   case rel => exact ⟨k + 1,by omega,by go_num,by rw [← HN.out]⟩
   case measure => simp [intOf]; omega
  ·obtain rfl : k = i := by omega
   go_wp2_with fail;go_ret;exact ⟨rfl,rfl⟩
theorem Qm2 {a b : Bs} {n : Nat} (h : a.length ≤ n) : Qah ((a ++ b).take n) = Qah a + Qah (b.take (n - a.length)) := by
 rw [List.take_append,List.take_of_length_le h,QbP]
/-- how the search goes for a line feed,and for a byte -/
def BInv (l : Bs) (a0 : Nat) (s : Bs) (a d : Nat) : Prop := 1 ≤ a ∧ a ≤ Qah s ∧ Qak l a0 = d + Qak s a ∧ d + s.length ≤ l.length
def PInv (l : Bs) (a0 : Nat) (s : Bs) (a d : Nat) : Prop := a ≤ s.length ∧ Qah (l.take a0) = d + Qah (s.take a) ∧ d + Qah s ≤ Qah l ∧ s.length ≤ l.length
theorem BInv.left {l sc sd : Bs} {a0 a d : Nat} (h : BInv l a0 (sc ++ sd) a d) (hl : a ≤ Qah sc) : BInv l a0 sc a d := by
 obtain ⟨h1,h2,h3,h4⟩ := h;rw [QlE sd hl] at h3;rw [List.length_append] at h4;exact ⟨h1,hl,h3,by omega⟩
theorem BInv.right {l sc sd : Bs} {a0 a d : Nat} (h : BInv l a0 (sc ++ sd) a d) (hl : Qah sc < a) : BInv l a0 sd (a - Qah sc) (d + sc.length) := by
 obtain ⟨h1,h2,h3,h4⟩ := h;rw [Qf7 sd hl] at h3;rw [QbP] at h2;rw [List.length_append] at h4;exact ⟨by omega,by omega,by omega,by omega⟩
theorem PInv.left {l sc sd : Bs} {a0 a d : Nat} (h : PInv l a0 (sc ++ sd) a d) (hl : a ≤ sc.length) : PInv l a0 sc a d := by
 obtain ⟨h1,h2,h3,h4⟩ := h;rw [List.take_append_of_le_length hl] at h2;rw [QbP] at h3;rw [List.length_append] at h4;exact ⟨hl,h2,by omega,by omega⟩
theorem PInv.right {l sc sd : Bs} {a0 a d : Nat} (h : PInv l a0 (sc ++ sd) a d) (hl : sc.length < a) : PInv l a0 sd (a - sc.length) (d + Qah sc) := by
 obtain ⟨h1,h2,h3,h4⟩ := h;rw [Qm2 (by omega)] at h2;rw [QbP] at h3;rw [List.length_append] at h1 h4;exact ⟨by omega,by omega,by omega,by omega⟩

def SB (w : World) (B : Nat) (l : Bs) (a0 g : Nat) (v0 v1 v10 : Value) (wr : World) : Prop := w = wr ∧ ∃ (s : Bs) (a d : Nat),NodeAt w B v0 s g ∧ v1 = .int .i64 (a : Int) ∧ v10 = .int .i64 (d : Int) ∧ BInv l a0 s a d
def SeekB (w : World) (B : Nat) (l : Bs) (a0 : Nat) (e : Ending) (w' : World) : Prop := ∃ (v : Value) (s : Bs) (a d g : Nat),e = .returned (.tuple #[v,.int .i64 (a : Int),.int .i64 (d : Int)]) ∧ NodeAt w B v s g ∧ g ≤ 1 ∧ BInv l a0 s a d ∧ w = w'
theorem QoG {w : World} {B : Nat} {v : Value} {l : Bs} {h : Nat} (n : NodeAt w B v l h) (hl : l.length ≤ 100000) (a0 : Nat) (hi : BInv l a0 l a0 0) :
  Calls Tryz.prog 91 #[v,.int .i64 (a0 : Int),.func (.func 87) #[] #[],.func (.func 92) #[] #[]] w (SeekB w B l a0) := by
 have HN := Xi n;have HI := Xi hi;have hfl := QbM l;clear n hi;go_enter func91,ntmps91;go_wp2_with fail
 go_loopg [0,1,10] h (fun g v0 v1 v10 wr => SB w B l a0 g v0 v1 v10 wr)
 case atStart => exact ⟨rfl,l,a0,0,HN.out,rfl,rfl,HI.out⟩
 case round =>
  obtain ⟨rfl,s,a,d,n,rfl,rfl,hinv⟩ := hrel;have HH := Xi (QfT n);by_cases hg : gk ≤ 1
  ·have t1 : ¬ ((gk : Int) > 1) := by omega
   have HN1 := Xi n;have HV := Xi hinv;clear n hinv;go_wp2_with fail;refine HH.out.mono ?_;rintro e w' ⟨rfl,rfl⟩;go_wp2_with fail
   go_ret3
   exact ⟨_,s,a,d,gk,rfl,HN1.out,hg,HV.out,rfl⟩
  ·obtain ⟨g,gc,gd,sc,sd,hc,hd,rfl,rfl,e4,kg,nc,nd,i1,i2,i3,i4,-⟩ := n.two (by omega);have c0 := Qaa kg 0;have c1 := Qaa kg 1;simp at c0 c1;have t1 : ((gk : Int) > 1) := by omega
   have HB := Xi (QeI nc);have HO := Xi (Qel nc);have HC := Xi nc;have HD := Xi nd;have hb1 : Qah (sc ++ sd) ≤ 100000 ∧ Qah sc ≤ 100000 ∧ sc.length ≤ 100000 ∧ a ≤ 100000 ∧ d ≤ 100000 := by
    have x1 := QbM sc;have x2 := QbM (sc ++ sd);have x3 := QbP sc sd;have x4 := hinv;unfold BInv at x4;rw [List.length_append] at *;omega
   obtain ⟨p,hp⟩ : ∃ p : Nat,p = Qah sc := ⟨_,rfl⟩;obtain ⟨q,hq⟩ : ∃ q : Nat,q = sc.length := ⟨_,rfl⟩;rw [← hp] at HB hb1;rw [← hq] at HO hb1;obtain ⟨y1,y2,y3,y4,y5⟩ := hb1;have HE := Xi e4;by_cases hle : a ≤ p
   ·have t2 : ((a : Int) ≤ (p : Int)) := by omega
    have HV := Xi (hinv.left (hp ▸ hle));clear n hinv kg nc nd e4 hp hq hg y1 hle;go_wp2_with fail;refine HH.out.mono ?_;rintro e w' ⟨rfl,rfl⟩;go_wp2_with fail;refine HB.out.mono ?_;rintro e w' ⟨rfl,rfl⟩;go_wp2_with fail
    go_roundg hc
    case rel => exact ⟨rfl,sc,a,d,HC.out,rfl,rfl,HV.out⟩
    case measure => have := HE.out; omega
   ·have t2 : ¬ ((a : Int) ≤ (p : Int)) := by omega
    have HV := Xi (hinv.right (hp ▸ (show p < a by omega)));rw [← hp,← hq] at HV;have w1 : ((a - p : Nat) : Int) = (a : Int) - (p : Int) := by omega
    have W1 := Xi w1;have b1 : (p : Int) ≤ 100000 := by omega
    have b2 : (q : Int) ≤ 100000 := by omega
    have b3 : (a : Int) ≤ 100000 := by omega
    have b4 : (d : Int) ≤ 100000 := by omega
    clear n hinv kg nc nd e4 hp hq hg hle w1;go_wp2_with fail;refine HH.out.mono ?_;rintro e w' ⟨rfl,rfl⟩;go_wp2_with fail;refine HB.out.mono ?_;rintro e w' ⟨rfl,rfl⟩;go_wp2_with fail;refine HB.out.mono ?_;rintro e w' ⟨rfl,rfl⟩;go_wp2_with fail;refine HO.out.mono ?_;rintro e w' ⟨rfl,rfl⟩;go_wp2_with fail
    go_roundg hd
    case rel => exact ⟨rfl,sd,a - p,d + q,HD.out,by rw [W1.out],by push_cast; rfl,HV.out⟩
    case measure => have := HE.out; omega

theorem Qb6 {w : World} {v x : Value} {l : Bs} {h : Nat} (r : RopeAt w v x l h) (hl : l.length ≤ 20000) (i : Nat) (hi : i ≤ Qah l) :
  Calls Tryz.prog 56 #[v,.int .i64 (i : Int)] w fun e w' => e = .returned (.int .i64 (Qak l i : Int)) ∧ w = w' := by
 rcases Nat.eq_zero_or_pos i with h0 | h0
 ·subst h0;rw [Qa6];clear r;go_enter func56,ntmps56;go_wp2_with fail;go_ret;exact ⟨rfl,rfl⟩
 ·have HT := Xi (QfH r);have HS := Xi (QoG r.1 (by omega) i ⟨h0,hi,by omega,by omega⟩);have t0 : ((i : Int) == 0) = false := by simp; omega
  have hbl := Qb5 l i;clear r;go_enter func56,ntmps56;go_wp2_with fail;refine HT.out.mono ?_;rintro e w' ⟨rfl,rfl⟩;go_wp2_with fail;refine HS.out.mono ?_;rintro e w' ⟨v2,s,a,d,g,rfl,n,hg,⟨k1,k2,k3,k4⟩,rfl⟩;have hg1 : g = 1 := by
   have := n.zero;rcases Nat.eq_zero_or_pos g with e | e
   ·have e2 := this.1 e;rw [e2] at k2;simp [Qah] at k2;omega
   ·omega
  have HB := Xi (Qhu n hg1 a k2);have HK := Xi k3;have b1 := Qb5 s a;have b2 : (d : Int) ≤ 20000 := by omega
  have b3 : (Qak s a : Int) ≤ 20000 := by omega
  clear n k3 k2 k4 b1;go_wp2_with fail;refine HB.out.mono ?_;rintro e w' ⟨rfl,rfl⟩;go_wp2_with fail;go_ret;exact ⟨by rw [HK.out]; push_cast; rfl,rfl⟩
theorem Qp2 {w : World} {v x : Value} {l : Bs} {h : Nat} (r : RopeAt w v x l h) (hl : l.length ≤ 20000) (i : Nat) (hi : i ≤ Qah l) :
  Calls Tryz.prog 57 #[v,.int .i64 (i : Int)] w fun e w' => e = .returned (.int .i64 (Qbj l i : Int)) ∧ w = w' := by
 have HL := Xi (Qeo r hl);have HN := Xi (QiZ r);have hfl := QbM l;rcases Nat.eq_or_lt_of_le hi with e | e
 ·have HE := Xi (show Qbj l i = l.length by unfold Qbj; rw [if_pos e]);have t0 : ((i : Int) == (Qah l : Int)) = true := by simp; omega
  clear r;go_enter func57,ntmps57;go_wp2_with fail;refine HL.out.mono ?_;rintro e w' ⟨rfl,rfl⟩;go_wp2_with fail;refine HN.out.mono ?_;rintro e w' ⟨rfl,rfl⟩;go_wp2_with fail;go_ret;exact ⟨by rw [HE.out]; rfl,rfl⟩
 ·have hp := (Qcp e).1;have hb := Qb5 l (i + 1);have HE := Xi (show (Qbj l i : Int) = (Qak l (i + 1) : Int) - 1 by unfold Qbj; rw [if_neg (by omega)]; omega);have HB : Hid (∀ z : Int,z = ((i + 1 : Nat) : Int) → Calls Tryz.prog 56 #[v,.int .i64 z] w fun e w' => e = .returned (.int .i64 (Qak l (i + 1) : Int)) ∧ w = w') := Xi (by rintro z rfl; exact Qb6 r hl (i + 1) (by omega));have t0 : ((i : Int) == (Qah l : Int)) = false := by simp; omega
  have b1 : (Qak l (i + 1) : Int) ≤ 20000 := by omega
  have b2 : (i : Int) ≤ 20000 := by omega
  clear r hp;go_enter func57,ntmps57;go_wp2_with fail;refine HL.out.mono ?_;rintro e w' ⟨rfl,rfl⟩;go_wp2_with fail;refine (HB.out _ (by first | omega | (push_cast; rfl) | (simp; omega))).mono ?_;rintro e w' ⟨rfl,rfl⟩;go_wp2_with fail;go_ret;exact ⟨by rw [HE.out]; rfl,rfl⟩

/-- what Line,Offset,Place answer -/
def lineD (l : Bs) (i : Int) : Bs × Int := if 0 ≤ i ∧ i ≤ (Qah l : Int) then (cut l (Qak l i.toNat) (Qbj l i.toNat),0) else ([],2)
def Qa9 (l : Bs) (i c : Int) : Int × Int := if 0 ≤ i ∧ i ≤ (Qah l : Int) ∧ 0 ≤ c ∧ c ≤ (Qbj l i.toNat : Int) - (Qak l i.toNat : Int) then ((Qak l i.toNat : Int) + c,0) else (0,2)
theorem Line_any {w : World} {v x : Value} {l : Bs} {h : Nat} (r : RopeAt w v x l h) (hl : l.length ≤ 20000) (i : Int) (s : Bs) (k : Int) (hs : lineD l i = (s,k)) :
  Calls Tryz.prog 34 #[v,.int .i64 i] w fun e w' => e = .returned (.tuple #[strV s,.int .i64 k]) ∧ Fr w w' (fun _ => False) := by
 unfold lineD at hs;have HL := Xi (Qeo r hl);have HT := Xi (QfH r);have hfl := QbM l;by_cases h0 : 0 ≤ i
 ·obtain ⟨n,rfl⟩ : ∃ n : Nat,i = (n : Int) := ⟨i.toNat,by omega⟩;by_cases h1 : n ≤ Qah l
  ·rw [if_pos ⟨h0,by omega⟩,Int.toNat_natCast] at hs;obtain ⟨rfl,rfl⟩ := Prod.mk.inj hs;have hbe := QfB h1;have hel := QeG l n;have HB := Xi (Qb6 r hl n h1);have HE := Xi (Qp2 r hl n h1);have HX := Xi (Qij r.1 hbe hel (by omega));generalize cut l (Qak l n) (Qbj l n) = c at HX ⊢;have t1 : ¬ ((n : Int) ≥ ((Qah l + 1 : Nat) : Int)) := by omega
   have t2 : ¬ (Qah l + 1 ≤ n) := by omega
   clear r hs;go_enter func34,ntmps34;go_wp2_with fail;refine HL.out.mono ?_;rintro e w' ⟨rfl,rfl⟩;go_wp2_with fail;refine HT.out.mono ?_;rintro e w' ⟨rfl,rfl⟩;go_wp2_with fail;refine HB.out.mono ?_;rintro e w' ⟨rfl,rfl⟩;go_wp2_with fail;refine HE.out.mono ?_;rintro e w' ⟨rfl,rfl⟩;go_wp2_with fail;refine HX.out.mono ?_;rintro e w' ⟨rfl,hf⟩;have HF := Xi hf;clear hf;go_wp2_with fail
   go_ret2
   exact ⟨rfl,HF.out⟩
  ·rw [if_neg (by omega)] at hs;obtain ⟨rfl,rfl⟩ := Prod.mk.inj hs;have t1 : ((n : Int) ≥ ((Qah l + 1 : Nat) : Int)) := by omega
   have t2 : Qah l + 1 ≤ n := by omega
   clear r hs;go_enter func34,ntmps34;go_wp2_with fail;refine HL.out.mono ?_;rintro e w' ⟨rfl,rfl⟩;go_wp2_with fail
   go_ret2
   exact ⟨rfl,Fr.refl _ _⟩
 ·rw [if_neg (by omega)] at hs;obtain ⟨rfl,rfl⟩ := Prod.mk.inj hs;have t0 : i < 0 := by omega
  clear r hs h0;go_enter func34,ntmps34;go_wp2_with fail
  go_ret2
  exact ⟨rfl,Fr.refl _ _⟩

theorem QdF {w : World} {v x : Value} {l : Bs} {h : Nat} (r : RopeAt w v x l h) (hl : l.length ≤ 20000) (i c : Int) (o k : Int) (hs : Qa9 l i c = (o,k)) :
  Calls Tryz.prog 51 #[v,.int .i64 i,.int .i64 c] w fun e w' => e = .returned (.tuple #[.int .i64 o,.int .i64 k]) ∧ w = w' := by
 unfold Qa9 at hs;have HL := Xi (Qeo r hl);have hfl := QbM l;by_cases h0 : 0 ≤ i
 ·obtain ⟨n,rfl⟩ : ∃ n : Nat,i = (n : Int) := ⟨i.toNat,by omega⟩;simp only [Int.toNat_natCast] at hs;by_cases h1 : n ≤ Qah l
  ·have hbe := QfB h1;have hel := QeG l n;have HB := Xi (Qb6 r hl n h1);have HE := Xi (Qp2 r hl n h1);have t1 : ¬ ((n : Int) ≥ ((Qah l + 1 : Nat) : Int)) := by omega
   have t2 : ¬ (Qah l + 1 ≤ n) := by omega
   generalize Qak l n = b at *;generalize Qbj l n = z at *;have b1 : (b : Int) ≤ 20000 := by omega
   have b2 : (z : Int) ≤ 20000 := by omega
   by_cases hc : 0 ≤ c
   ·by_cases hz : c ≤ (z : Int) - (b : Int)
    ·rw [if_pos ⟨h0,by omega,hc,hz⟩] at hs;obtain ⟨rfl,rfl⟩ := Prod.mk.inj hs;have t3 : ¬ (c < 0) := by omega
     clear r hs hbe hel;go_enter func51,ntmps51;go_wp2_with fail;refine HL.out.mono ?_;rintro e w' ⟨rfl,rfl⟩;go_wp2_with fail;refine HB.out.mono ?_;rintro e w' ⟨rfl,rfl⟩;go_wp2_with fail;refine HE.out.mono ?_;rintro e w' ⟨rfl,rfl⟩;go_wp2_with fail
     go_ret2
     exact ⟨rfl,rfl⟩
    ·rw [if_neg (by omega)] at hs;obtain ⟨rfl,rfl⟩ := Prod.mk.inj hs;have t3 : ¬ (c < 0) := by omega
     clear r hs hbe hel;go_enter func51,ntmps51;go_wp2_with fail;refine HL.out.mono ?_;rintro e w' ⟨rfl,rfl⟩;go_wp2_with fail;refine HB.out.mono ?_;rintro e w' ⟨rfl,rfl⟩;go_wp2_with fail;refine HE.out.mono ?_;rintro e w' ⟨rfl,rfl⟩;go_wp2_with fail
     go_ret2
     exact ⟨rfl,rfl⟩
   ·rw [if_neg (by omega)] at hs;obtain ⟨rfl,rfl⟩ := Prod.mk.inj hs;have t3 : c < 0 := by omega
    clear r hs hbe hel hc;go_enter func51,ntmps51;go_wp2_with fail;refine HL.out.mono ?_;rintro e w' ⟨rfl,rfl⟩;go_wp2_with fail;refine HB.out.mono ?_;rintro e w' ⟨rfl,rfl⟩;go_wp2_with fail
    go_ret2
    exact ⟨rfl,rfl⟩
  ·rw [if_neg (by omega)] at hs;obtain ⟨rfl,rfl⟩ := Prod.mk.inj hs;have t1 : ((n : Int) ≥ ((Qah l + 1 : Nat) : Int)) := by omega
   have t2 : Qah l + 1 ≤ n := by omega
   clear r hs;go_enter func51,ntmps51;go_wp2_with fail;refine HL.out.mono ?_;rintro e w' ⟨rfl,rfl⟩;go_wp2_with fail
   go_ret2
   exact ⟨rfl,rfl⟩
 ·rw [if_neg (by omega)] at hs;obtain ⟨rfl,rfl⟩ := Prod.mk.inj hs;have t0 : i < 0 := by omega
  clear r hs h0;go_enter func51,ntmps51;go_wp2_with fail
  go_ret2
  exact ⟨rfl,rfl⟩

end Go.Proofs.YtodcnbejnchmhaaGreatDoor.S3
