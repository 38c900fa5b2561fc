import Derived.Test.YtodcnbejnchmhaaGreatDoorYc31
import Derived.Test.YtodcnbejnchmhaaGreatDoorYc23
import Derived.Test.YtodcnbejnchmhaaGreatDoorYc16
import Derived.Deep.LoopGhost
set_option maxRecDepth 100000
set_option maxHeartbeats 3200000
namespace Go.Proofs.YtodcnbejnchmhaaGreatDoor
open Go.RowKit Go.Mem Go.Lin

/- the packages that line stands on,in its own words -/
def amtV (l : Bs) : Int × Int := match Go.Clk.amtD l with
 | some n => (n,0)
 | none => (0,7)
theorem QcI (l : Bs) (hl : l.length ≤ 1000000) (W : World) (n k : Int) (h : amtV l = (n,k)) : Calls Tryz.prog 170 #[strV l] W fun e w' => e = .returned (.tuple #[intV n,intV k]) ∧ Fr W w' (fun _ => False) := by
 refine (S5.Qoe l W hl).mono ?_;rintro e w' ⟨hf,he⟩;unfold amtV at h;cases hx : Go.Clk.amtD l with
 | none =>
  rw [hx] at he h;obtain ⟨rfl,rfl⟩ := Prod.mk.inj h;exact ⟨he,hf⟩
 | some v =>
  rw [hx] at he h;obtain ⟨rfl,rfl⟩ := Prod.mk.inj h;exact ⟨he,hf⟩
def Qi9 (l : Bs) : AtL × Int := match Qga l with
 | some t => (t,0)
 | none => (atZ,7)
theorem Qii (l : Bs) (hl : l.length ≤ 1000000) (W : World) (t : AtL) (k : Int) (h : Qi9 l = (t,k)) : Calls Tryz.prog 169 #[strV l] W fun e w' => e = .returned (.tuple #[atV t,intV k]) ∧ Fr W w' (fun _ => False) := by
 refine (S5.QfC l W hl).mono ?_;rintro e w' ⟨hf,he⟩;unfold Qi9 Qga at h;cases hx : Go.Clk.QbG l with
 | none =>
  rw [hx] at he h;obtain ⟨rfl,rfl⟩ := Prod.mk.inj h;exact ⟨he,hf⟩
 | some v =>
  rw [hx] at he h;obtain ⟨rfl,rfl⟩ := Prod.mk.inj h;exact ⟨he,hf⟩
def dayW (l : Bs) : DayL × Int := match dayP l with
 | some d => (d,0)
 | none => (dayZ,6)
theorem day_any (l : Bs) (hl : l.length ≤ 100000) (W : World) (hw : LOk W) (d : DayL) (k : Int) (h : dayW l = (d,k)) : Calls Tryz.prog 190 #[strV l] W fun e w' => e = .returned (.tuple #[dayV d,intV k]) ∧ Fr W w' (fun _ => False) := by
 unfold dayW dayP at h;rcases Go.Dfm.Qc8 l with ⟨a,b,c,-,-,hp⟩ | ⟨-,hp⟩
 ·rw [hp] at h;obtain ⟨rfl,rfl⟩ := Prod.mk.inj h;exact S6.QfC l hl W hw.base _ _ _ _ hp
 ·rw [hp] at h;obtain ⟨rfl,rfl⟩ := Prod.mk.inj h;exact S6.QfC l hl W hw.base _ _ _ _ hp
theorem of_can (d : DayL) (hd : Qlu d) (y m : Int) (W : World) (hw : LOk W) : ∃ n k : Int,(k = 0 ↔ canB d y m = true) ∧ (k = 0 ∨ (n = 0 ∧ k = 6)) ∧ Calls Tryz.prog 191 #[dayV d,intV y,intV m] W fun e w' => e = .returned (.tuple #[intV n,intV k]) ∧ Fr W w' (fun _ => False) := by
 have hr : Go.Dfm.QaL d.k d.d d.w = true := Go.Dfm.QaO.2 hd;have hE : S6.QcB y m (S6.Qek d.k d.d y m) = if canB d y m = true then 0 else 6 := rfl
 obtain ⟨n,k,h⟩ : ∃ n k,S6.ofD d.k d.d d.w y m = (n,k) := ⟨_,_,rfl⟩;refine ⟨n,k,?_,?_,S6.Of_any d.k d.d d.w y m W hw.base n k h⟩
 ·unfold S6.ofD at h;rw [if_pos hr,hE] at h;cases hc : canB d y m with
  | true =>
   rw [hc,if_pos rfl,if_pos rfl] at h;obtain ⟨-,rfl⟩ := Prod.mk.inj h;simp
  | false =>
   rw [hc,if_neg (by decide)] at h;obtain ⟨-,rfl⟩ := Prod.mk.inj h;simp
 ·unfold S6.ofD at h;rw [if_pos hr,hE] at h;cases hc : canB d y m with
  | true =>
   rw [hc,if_pos rfl,if_pos rfl] at h;obtain ⟨-,rfl⟩ := Prod.mk.inj h;exact .inl rfl
  | false =>
   rw [hc,if_neg (by decide)] at h;obtain ⟨rfl,rfl⟩ := Prod.mk.inj h;exact .inr ⟨rfl,rfl⟩
def Qlm (l : Bs) : Int × Int := match Qe4 l with
 | some y => (y,0)
 | none => (0,8)
theorem Qgr (l : Bs) (hl : l.length ≤ 100000) (W : World) (hw : LOk W) (y k : Int) (h : Qlm l = (y,k)) : Calls Tryz.prog 161 #[strV l] W fun e w' => e = .returned (.tuple #[intV y,intV k]) ∧ Fr W w' (fun _ => False) := by
 refine S8.QmN l W (by omega) hw.kwd (y,k) ?_;rw [← h];unfold Qlm Qe4;rcases Go.Kwd.Qi3 (Go.Esc.Qa3 l) with hk | hk
 ·rw [if_pos hk,← hk]
 ·rw [hk,if_neg (by decide)]
def toV (l : Bs) (fr : Int) : Int × Int := match toP l fr with
 | some y => (y,0)
 | none => (0,8)
theorem to_any (l : Bs) (fr : Int) (hl : l.length ≤ 100000) (W : World) (hw : LOk W) (y k : Int) (h : toV l fr = (y,k)) : Calls Tryz.prog 163 #[strV l,intV fr] W fun e w' => e = .returned (.tuple #[intV y,intV k]) ∧ Fr W w' (fun _ => False) := by
 refine S8.To_any l fr W (by omega) hw.kwd (y,k) ?_;rw [← h];unfold toV toP;show toD l fr = _;rcases Go.Kwd.QjM (Go.Kwd.endD l) (Go.Esc.Qa3 l) fr with hk | hk
 ·have hk : (toD l fr).2 = 0 := hk;rw [if_pos hk,← hk]
 ·have hk : toD l fr = (0,8) := hk;rw [hk,if_neg (by decide)]
theorem QpA (l : Bs) (hl : l.length ≤ 1000000) (W : World) (n : Nat) (h : Go.Kwd.Qcw l = n) : Calls Tryz.prog 188 #[strV l] W fun e w' => e = .returned (intV (n : Int)) ∧ Fr W w' (fun _ => False) := S8.Qqw l W hl n h
theorem head_any (l : Bs) (hl : l.length ≤ 1000000) (W : World) (n : Nat) (h : Go.Kwd.headD l = n) : Calls Tryz.prog 182 #[strV l] W fun e w' => e = .returned (intV (n : Int)) ∧ Fr W w' (fun _ => False) := S8.Head_any l W hl n h
theorem zone_any (l : Bs) (hl : l.length ≤ 1000000) (W : World) (hw : LOk W) (b : Bool) (h : Go.Kwd.Qcd l = b) : Calls Tryz.prog 173 #[strV l] W fun e w' => e = .returned (.bool b) ∧ Fr W w' (fun _ => False) := S8.Zone_any l W hl hw.kwd b h
theorem Ql6 (l : Bs) (hl : l.length ≤ 1000000) (W : World) (b : Bool) (h : Go.Kwd.Qc4 l = b) : Calls Tryz.prog 184 #[strV l] W fun e w' => e = .returned (.bool b) ∧ Fr W w' (fun _ => False) := S8.Rule_any l W hl b h
instance (t : AtL) : Decidable (Qja t) := inferInstanceAs (Decidable (_ ∧ _))
instance (n : Int) : Decidable (Qqp n) := inferInstanceAs (Decidable (_ ∧ _))
instance (d : DayL) : Decidable (Qlu d) := inferInstanceAs (Decidable (Go.Dfm.Qce _ _ _))
end Go.Proofs.YtodcnbejnchmhaaGreatDoor
namespace Go.Proofs.YtodcnbejnchmhaaGreatDoor
open _root_.Go.Proofs.Tryz
open Go.RowKit Go.Mem Go.Lin

def QeP (x : Qat) : List Value := [strV x.1,intV (x.2 : Int)]
/-- the reader in block b has these fields still to read; they lie in block g -/
def LeftAt (w : World) (b g : Nat) (fs : List Qat) : Prop :=
 ∃ A c,Blk w b 177 #[.slice A fs.length c] ∧ Rd w 2 A fs.length (fs.flatMap QeP) ∧ fs.length ≤ c ∧ (∀ b' off,A = some ⟨b',off,none⟩ → 0 < fs.length → b' = g)
theorem LeftAt.fr {w w' : World} {b g : Nat} {fs : List Qat} {S : Nat → Prop} (h : LeftAt w b g fs) (hf : Fr w w' S) (hb : ¬ S b) (hg : ¬ S g) : LeftAt w' b g fs := by
 obtain ⟨A,c,h1,h2,h3,h4⟩ := h;exact ⟨A,c,hf.blk h1 hb,h2.fr hf (fun b' off e hn hs => hg (h4 b' off e hn ▸ hs)),h3,h4⟩
theorem LeftAt.lt {w : World} {b g : Nat} {fs : List Qat} (h : LeftAt w b g fs) : b < w.heap.size := by
 obtain ⟨A,c,h1,h2,h3,h4⟩ := h;exact h1.lt
theorem LeftAt.open {w : World} {b g : Nat} {x : Qat} {r : List Qat} (h : LeftAt w b g (x :: r)) :
  ∃ off c,Blk w b 177 #[.slice (some ⟨g,off,none⟩) (r.length + 1) c] ∧ r.length + 1 ≤ c ∧ w.cell? ⟨g,off,none⟩ = some (strV x.1) ∧ w.cell? ⟨g,off + 1,none⟩ = some (intV (x.2 : Int)) ∧
   ∀ (W : World) (S : Nat → Prop),Fr w W S → ¬ S g → Blk W b 177 #[.slice (Mem.cutA (some ⟨g,off,none⟩) c 1 2) r.length (c - 1)] → LeftAt W b g r := by
 obtain ⟨A,c,h1,h2,h3,h4⟩ := h;obtain ⟨b',off,rfl,hc⟩ := h2.2 (by simp);obtain rfl := h4 b' off rfl (by simp);refine ⟨off,c,h1,by simpa using h3,hc 0 _ rfl,hc 1 _ rfl,fun W S hf hS hB => ?_⟩;have hl : r.length + 1 ≤ c := by simpa using h3
 have hcut := h2.cutA (lo := 1) (hi := r.length + 1) (cap := c) (by omega) (by simp) (by simpa using h3);have hx : (((x :: r).flatMap QeP).drop (1 * 2)).take ((r.length + 1 - 1) * 2) = r.flatMap QeP := by
  rw [List.flatMap_cons];have hlen : ∀ l : List Qat,(l.flatMap QeP).length = l.length * 2 := by
   intro l
   induction l with
   | nil => rfl
   | cons y l ih => rw [List.flatMap_cons,List.length_append,ih]; simp [QeP]; omega
  show ((QeP x ++ r.flatMap QeP).drop 2).take _ = _;rw [List.drop_append_of_le_length (by simp [QeP])];show (([] : List Value) ++ r.flatMap QeP).take _ = _;rw [List.nil_append,List.take_of_length_le (by rw [hlen]; omega)]
 rw [hx,show r.length + 1 - 1 = r.length by omega] at hcut;refine ⟨_,_,hB,hcut.fr hf (fun b2 o2 e hn hs => hS ?_),by omega,fun b2 o2 e hn => ?_⟩
 ·unfold Mem.cutA at e;rw [if_neg (by omega)] at e;injection e with e;simp [Addr.add] at e;rw [← e.1] at hs;exact hs
 ·unfold Mem.cutA at e;rw [if_neg (by omega)] at e;injection e with e;simp [Addr.add] at e;exact e.1.symm
theorem Qe5 {a c : World} (h : Fr a c (fun _ => False)) (b i : Nat) (v : Value) : Fr a (c.setCell ⟨b,i,none⟩ v) (· = b) := h.trans (Fr.set (S := (· = b)) rfl) (fun _ _ h => h.elim) (fun _ _ h => h)
/-- the panic with a wrong line -/
abbrev QcN (x : LineL) : Ending := .panicked [{ v := .iface 71 (QeL x),recovered := false }]
theorem Qbd {a b c : World} {S T : Nat → Prop} (h : Fr a b S) (k : Fr b c T) (hT : ∀ i,T i → a.heap.size ≤ i) : Fr a c S := h.trans k (fun _ _ x => x) (fun i hi x => absurd (hT i x) (by omega))
theorem Qo4 {w : World} {g : Nat} {x : LineL} (hb : Blk w g 71 (Qad x)) (tmps : Array Value) (hp : tmps.getD 4 undef = .pointer (some ⟨g,0,none⟩)) : (results f67 tmps).run Tryz.prog w = .ok (.agg (Qad x)) w :=
 results_cell_row (P := Tryz.prog) (fn := f67) (p := 4) (ty := 71) rfl tmps _ g 71 (Qad x) (0,0) _ hp hb underlying71 rfl (Qa7 x)
theorem Qbv (k c : Int) (w : World) : Calls Tryz.prog 67 #[intV k,intV c] w fun e w' => e = .returned (QeL (QaC k c)) ∧ Fr w w' (fun _ => False) := by
 go_enter func67,ntmps67;go_wp2_with (refine Xs 71 w.heap.size 0 71 (Qad Qae) (Qad (QaC k c)) (Qad (QaC k c)) (Blk.made w 71 (Qad Qae)) (Qa7 _) (Qar _) (Qaw _ _) ?_;intro w3 hf3 hb3;have HF3 := Xi ((Fr.new w _ (fun _ => False)).fresh hf3 (fun i e => by omega));have HB3 := Xi hb3;clear hf3 hb3);(try simp only [Exit.inBlock,Exit.then]);exact bodyPost_ret (Qo4 HB3.out _ rfl) rfl ⟨rfl,HF3.out⟩
theorem Qaj {w : World} {g : Nat} {t : TypeId} {cs : Array Value} (h : Blk w g t cs) (i : Nat) (v : Value) (hv : cs[i]? = some v) : w.cell? ⟨g,i,none⟩ = some v := (Qaa h i).trans hv
theorem takeI_ok (F : FuncId) (hF : ∀ args w,(callFunc F args).run Tryz.prog w = .ok (.enter F args) w) (caps : Array Value) (w : World) (b g : Nat) (x : Qat) (r : List Qat) (h : LeftAt w b g (x :: r)) (hbg : g ≠ b) (v : Int)
  (hT : ∀ W,Fr w W (fun _ => False) → Calls Tryz.prog F (#[strV x.1] ++ caps) W fun e w' => e = .returned (.tuple #[intV v,intV 0]) ∧ Fr W w' (fun _ => False)) :
  Calls Tryz.prog 160 #[.pointer (some ⟨b,0,none⟩),.func (.func F) #[] caps] w fun e w' => e = .returned (intV v) ∧ LeftAt w' b g r ∧ Fr w w' (· = b) := by
 obtain ⟨off,c,hb,hc,c0,c1,hL⟩ := h.open;have d0 := Qaa hb 0;simp at d0;have HT := Xi hT;have HL := Xi hL;have HB := Xi hb;clear hT hL hb h;go_enter func160,ntmps160;go_wp2_with fail;refine (HT.out _ (Fr.new w _ _)).mono ?_;rintro e w2 ⟨rfl,hf2⟩;have HF2 := Xi (ff (Fr.new w _ _) hf2);have HB2 := Xi (HF2.out.blk HB.out (fun h => h));have d2 := Qaa HB2.out 0;have f2 := Qac HB2.out 0;simp at d2;have l1 : (1 : Int) ≤ (r.length + 1 : Int) := by omega
 have l2 : (r.length + 1 : Int) ≤ (c : Int) := by omega
 clear hf2 HT;go_wp2_with fail
 case inl =>
  subst h;go_ret;have hf3 := Qe5 HF2.out b 0 (.slice (some ⟨g,off,none⟩) r.length 0);exact ⟨rfl,HL.out _ _ hf3 hbg (HB2.out.put' (cs' := #[.slice (some ⟨g,off,none⟩) r.length 0]) 0 _ (by simp)),hf3⟩
 case inr =>
  go_ret;have hf3 := Qe5 HF2.out b 0 (.slice (some ⟨g,off + 2,none⟩) r.length (c - 1));have hcut : Mem.cutA (some ⟨g,off,none⟩) c 1 2 = some ⟨g,off + 2,none⟩ := by
   unfold Mem.cutA;rw [if_neg h];rfl
  rw [hcut] at HL;exact ⟨rfl,HL.out _ _ hf3 hbg (HB2.out.put' (cs' := #[.slice (some ⟨g,off + 2,none⟩) r.length (c - 1)]) 0 _ (by simp)),hf3⟩
theorem takeI_no (F : FuncId) (hF : ∀ args w,(callFunc F args).run Tryz.prog w = .ok (.enter F args) w) (caps : Array Value) (w : World) (b g : Nat) (x : Qat) (r : List Qat) (h : LeftAt w b g (x :: r)) (v : Int) (k : Int) (hk : k ≠ 0)
  (hT : ∀ W,Fr w W (fun _ => False) → Calls Tryz.prog F (#[strV x.1] ++ caps) W fun e w' => e = .returned (.tuple #[intV v,intV k]) ∧ Fr W w' (fun _ => False)) :
  Calls Tryz.prog 160 #[.pointer (some ⟨b,0,none⟩),.func (.func F) #[] caps] w fun e w' => e = QcN (QaC k (x.2 : Int)) ∧ Fr w w' (fun _ => False) := by
 obtain ⟨off,c,hb,hc,c0,c1,hL⟩ := h.open;have d0 := Qaa hb 0;simp at d0;have HT := Xi hT;have hk0 : (k == 0) = false := by simpa using hk
 clear hT hL hb h hk;go_enter func160,ntmps160;go_wp2_with fail;refine (HT.out _ (Fr.new w _ _)).mono ?_;rintro e w2 ⟨rfl,hf2⟩;have HF2 := Xi (ff (Fr.new w _ _) hf2);have e1 := Qaj (hf2.blk (Blk.made w 172 #[strV x.1,intV (x.2 : Int)]) (fun h => h)) 1 _ rfl;clear hf2 HT;go_wp2_with fail;refine (Qbv _ _ _).mono ?_;rintro e w3 ⟨rfl,hf3⟩;have HF3 := Xf HF2 hf3;clear hf3;go_wp2_with fail;exact ⟨rfl,rfl,HF3.out⟩
theorem takeS_ok (F : FuncId) (hF : ∀ args w,(callFunc F args).run Tryz.prog w = .ok (.enter F args) w) (caps : Array Value) (w : World) (b g : Nat) (x : Qat) (r : List Qat) (h : LeftAt w b g (x :: r)) (hbg : g ≠ b) (v : Bs)
  (hT : ∀ W,Fr w W (fun _ => False) → Calls Tryz.prog F (#[strV x.1] ++ caps) W fun e w' => e = .returned (.tuple #[strV v,intV 0]) ∧ Fr W w' (fun _ => False)) :
  Calls Tryz.prog 142 #[.pointer (some ⟨b,0,none⟩),.func (.func F) #[] caps] w fun e w' => e = .returned (strV v) ∧ LeftAt w' b g r ∧ Fr w w' (· = b) := by
 obtain ⟨off,c,hb,hc,c0,c1,hL⟩ := h.open;have d0 := Qaa hb 0;simp at d0;have HT := Xi hT;have HL := Xi hL;have HB := Xi hb;clear hT hL hb h;go_enter func142,ntmps142;go_wp2_with fail;refine (HT.out _ (Fr.new w _ _)).mono ?_;rintro e w2 ⟨rfl,hf2⟩;have HF2 := Xi (ff (Fr.new w _ _) hf2);have HB2 := Xi (HF2.out.blk HB.out (fun h => h));have d2 := Qaa HB2.out 0;have f2 := Qac HB2.out 0;simp at d2;have l1 : (1 : Int) ≤ (r.length + 1 : Int) := by omega
 have l2 : (r.length + 1 : Int) ≤ (c : Int) := by omega
 clear hf2 HT;go_wp2_with fail
 case inl =>
  subst h;go_ret;have hf3 := Qe5 HF2.out b 0 (.slice (some ⟨g,off,none⟩) r.length 0);exact ⟨rfl,HL.out _ _ hf3 hbg (HB2.out.put' (cs' := #[.slice (some ⟨g,off,none⟩) r.length 0]) 0 _ (by simp)),hf3⟩
 case inr =>
  go_ret;have hf3 := Qe5 HF2.out b 0 (.slice (some ⟨g,off + 2,none⟩) r.length (c - 1));have hcut : Mem.cutA (some ⟨g,off,none⟩) c 1 2 = some ⟨g,off + 2,none⟩ := by
   unfold Mem.cutA;rw [if_neg h];rfl
  rw [hcut] at HL;exact ⟨rfl,HL.out _ _ hf3 hbg (HB2.out.put' (cs' := #[.slice (some ⟨g,off + 2,none⟩) r.length (c - 1)]) 0 _ (by simp)),hf3⟩
theorem takeS_no (F : FuncId) (hF : ∀ args w,(callFunc F args).run Tryz.prog w = .ok (.enter F args) w) (caps : Array Value) (w : World) (b g : Nat) (x : Qat) (r : List Qat) (h : LeftAt w b g (x :: r)) (v : Bs) (k : Int) (hk : k ≠ 0)
  (hT : ∀ W,Fr w W (fun _ => False) → Calls Tryz.prog F (#[strV x.1] ++ caps) W fun e w' => e = .returned (.tuple #[strV v,intV k]) ∧ Fr W w' (fun _ => False)) :
  Calls Tryz.prog 142 #[.pointer (some ⟨b,0,none⟩),.func (.func F) #[] caps] w fun e w' => e = QcN (QaC k (x.2 : Int)) ∧ Fr w w' (fun _ => False) := by
 obtain ⟨off,c,hb,hc,c0,c1,hL⟩ := h.open;have d0 := Qaa hb 0;simp at d0;have HT := Xi hT;have hk0 : (k == 0) = false := by simpa using hk
 clear hT hL hb h hk;go_enter func142,ntmps142;go_wp2_with fail;refine (HT.out _ (Fr.new w _ _)).mono ?_;rintro e w2 ⟨rfl,hf2⟩;have HF2 := Xi (ff (Fr.new w _ _) hf2);have e1 := Qaj (hf2.blk (Blk.made w 172 #[strV x.1,intV (x.2 : Int)]) (fun h => h)) 1 _ rfl;clear hf2 HT;go_wp2_with fail;refine (Qbv _ _ _).mono ?_;rintro e w3 ⟨rfl,hf3⟩;have HF3 := Xf HF2 hf3;clear hf3;go_wp2_with fail;exact ⟨rfl,rfl,HF3.out⟩
theorem Qo2 {w : World} {q : Nat} {v : DayL} (hb : Blk w q 61 (dayC v)) (tmps : Array Value) (hp : tmps.getD 4 undef = .pointer (some ⟨q,0,none⟩)) : (results f166 tmps).run Tryz.prog w = .ok (.agg (dayC v)) w :=
 results_cell_row (P := Tryz.prog) (fn := f166) (p := 4) (ty := 61) rfl tmps _ q 61 (dayC v) (0,0) _ hp hb underlying61 rfl (Qcb v)
theorem takeD_no (F : FuncId) (hF : ∀ args w,(callFunc F args).run Tryz.prog w = .ok (.enter F args) w) (caps : Array Value) (w : World) (b g : Nat) (x : Qat) (r : List Qat) (h : LeftAt w b g (x :: r)) (v : DayL) (k : Int) (hk : k ≠ 0)
  (hT : ∀ W,Fr w W (fun _ => False) → Calls Tryz.prog F (#[strV x.1] ++ caps) W fun e w' => e = .returned (.tuple #[.agg (dayC v),intV k]) ∧ Fr W w' (fun _ => False)) :
  Calls Tryz.prog 166 #[.pointer (some ⟨b,0,none⟩),.func (.func F) #[] caps] w fun e w' => e = QcN (QaC k (x.2 : Int)) ∧ Fr w w' (fun _ => False) := by
 have hf0 := Fr.new w (.cells #[intV 0,intV 0,intV 0] 61) (fun _ => False);have hsz : (w.alloc (.cells #[intV 0,intV 0,intV 0] 61)).heap.size = w.heap.size + 1 := by simp
 obtain ⟨off,c,hb,hc,c0,c1,hL⟩ := (h.fr hf0 (fun h => h) (fun h => h)).open;have d0 := Qaa hb 0;simp at d0;have HT := Xi hT;have hk0 : (k == 0) = false := by simpa using hk
 clear hT hL hb h hk hf0;go_enter func166,ntmps166;go_wp2_with fail;refine (HT.out _ (ff (Fr.new w (.cells #[intV 0,intV 0,intV 0] 61) _) (Fr.new _ _ _))).mono ?_;rintro e w2 ⟨rfl,hf2⟩;have HF2 := Xi (ff (ff (Fr.new w (.cells #[intV 0,intV 0,intV 0] 61) _) (Fr.new _ _ _)) hf2);have hE := hf2.blk (Blk.made (w.alloc (.cells #[intV 0,intV 0,intV 0] 61)) 172 #[strV x.1,intV (x.2 : Int)]) (fun h => h);rw [hsz] at hE;have HE := Xi hE;clear hf2 HT hE;go_wp2_with (
    refine Xs 61 w2.heap.size 0 61 (dayC dayZ) (dayC v) (dayC v) (Blk.made w2 61 (dayC dayZ)) (Qcb _) (Qbq _) (QaG rfl) ?_;intro w3 hf3 hb3;have hf23 := (Fr.new w2 (.cells (dayC dayZ) 61) (fun _ => False)).fresh hf3 (fun i e => by omega);have HF3 := Xf HF2 hf23;have e1 := Qaj (hf23.blk HE.out (fun h => h)) 1 _ rfl;clear hf3 hb3 hf23)
 refine (Qbv _ _ _).mono ?_;rintro e w4 ⟨rfl,hf4⟩;have HF4 := Xf HF3 hf4;clear hf4;go_wp2_with fail;exact ⟨rfl,rfl,HF4.out⟩
theorem takeD_ok (F : FuncId) (hF : ∀ args w,(callFunc F args).run Tryz.prog w = .ok (.enter F args) w) (caps : Array Value) (w : World) (b g : Nat) (x : Qat) (r : List Qat) (h : LeftAt w b g (x :: r)) (hbg : g ≠ b) (v : DayL)
  (hT : ∀ W,Fr w W (fun _ => False) → Calls Tryz.prog F (#[strV x.1] ++ caps) W fun e w' => e = .returned (.tuple #[.agg (dayC v),intV 0]) ∧ Fr W w' (fun _ => False)) :
  Calls Tryz.prog 166 #[.pointer (some ⟨b,0,none⟩),.func (.func F) #[] caps] w fun e w' => e = .returned (.agg (dayC v)) ∧ LeftAt w' b g r ∧ Fr w w' (· = b) := by
 have hf0 := Fr.new w (.cells #[intV 0,intV 0,intV 0] 61) (fun _ => False);have hsz : (w.alloc (.cells #[intV 0,intV 0,intV 0] 61)).heap.size = w.heap.size + 1 := by simp
 have hbs := h.lt;obtain ⟨_,_,_,_,cg,_,_⟩ := h.open;have hgs := World.block_lt_of_cell? w _ cg;obtain ⟨off,c,hb,hc,c0,c1,hL⟩ := (h.fr hf0 (fun h => h) (fun h => h)).open;have d0 := Qaa hb 0;simp at d0;have HT := Xi hT;have HL := Xi hL;have HB := Xi hb;have HZ := Xi (show Blk (w.alloc (.cells #[intV 0,intV 0,intV 0] 61)) w.heap.size 61 (dayC dayZ) from Blk.made w 61 #[intV 0,intV 0,intV 0]);have HF0 := Xi hf0;clear hT hL hb h hf0 cg;have l1 : (1 : Int) ≤ (r.length + 1 : Int) := by omega
 have l2 : (r.length + 1 : Int) ≤ (c : Int) := by omega
 go_enter func166,ntmps166;go_wp2_with fail;refine (HT.out _ (ff (Fr.new w (.cells #[intV 0,intV 0,intV 0] 61) _) (Fr.new _ _ _))).mono ?_;rintro e w2 ⟨rfl,hf2⟩;have hs2 := hf2.size;simp at hs2;have HF2 := Xi (ff (Fr.new _ _ _) hf2);clear hf2 HT;go_wp2_with (first
   | (
    refine Xs 61 w2.heap.size 0 61 (dayC dayZ) (dayC v) (dayC v) (Blk.made w2 61 (dayC dayZ)) (Qcb _) (Qbq _) (QaG rfl) ?_;intro w3 hf3 hb3;have hf23 := (Fr.new w2 (.cells (dayC dayZ) 61) (fun _ => False)).fresh hf3 (fun i e => by omega);have HF3 := Xf HF2 hf23;have HZ3 := Xi (HF3.out.blk HZ.out (fun h => h));have HB3 := Xi (HF3.out.blk HB.out (fun h => h));have HV3 := Xi hb3;have d3 := Qaj HB3.out 0 _ rfl;have hs3 := hf3.size;simp at hs3;clear hf3 hb3 hf23)
   | (
    refine Xc 133 b 0 177 _ #[.slice (if c = 1 then some ⟨g,off,none⟩ else some ⟨g,off + 2,none⟩) r.length (c - 1)] (.slice (if c = 1 then some ⟨g,off,none⟩ else some ⟨g,off + 2,none⟩) r.length (c - 1)) HB3.out Qe3 rfl ?_;intro w4 hf4 hb4;have HF4 := Xi hf4;have HB4 := Xi hb4;have HV4 := Xo hf4 HV3;have HZ4 := Xo hf4 HZ3;clear hf4 hb4)
   | (refine Xl 61 w2.heap.size 0 61 (dayC v) (dayC v) HV4.out underlying61 (Qcb _) (Qaf _) ?_)
   | (
    refine Xs 61 w.heap.size 0 61 (dayC dayZ) (dayC v) (dayC v) HZ4.out (Qcb _) (Qbq _) (QaG rfl) ?_;intro w5 hf5 hb5;have HF5 := Xi hf5;have HB5 := Xi hb5;clear hf5 hb5))
 all_goals
  (try simp only [Exit.inBlock,Exit.then]);have hf04 : Fr (w.alloc (.cells #[intV 0,intV 0,intV 0] 61)) w4 (· = b) := HF3.out.trans HF4.out (fun _ _ h => h.elim) (fun _ _ h => h);have hcut : Mem.cutA (some ⟨g,off,none⟩) c 1 2 = if c = 1 then some ⟨g,off,none⟩ else some ⟨g,off + 2,none⟩ := rfl
  rw [hcut] at HL;have hL4 := HL.out _ _ hf04 hbg HB4.out;have hA4 : Fr w w4 (· = b) := HF0.out.trans hf04 (fun _ _ h => h.elim) (fun _ _ h => h);have hA5 : Fr w w5 (· = b) := Qbd hA4 HF5.out (fun i e => by omega);exact bodyPost_ret (Qo2 HB5.out _ rfl) rfl ⟨rfl,hL4.fr HF5.out (by omega) (by omega),hA5⟩
theorem Qo3 {w : World} {q : Nat} {v : AtL} (hb : Blk w q 63 (atC v)) (tmps : Array Value) (hp : tmps.getD 4 undef = .pointer (some ⟨q,0,none⟩)) : (results f168 tmps).run Tryz.prog w = .ok (.agg (atC v)) w :=
 results_cell_row (P := Tryz.prog) (fn := f168) (p := 4) (ty := 63) rfl tmps _ q 63 (atC v) (0,0) _ hp hb underlying63 rfl (Qeg v)
theorem takeA_no (F : FuncId) (hF : ∀ args w,(callFunc F args).run Tryz.prog w = .ok (.enter F args) w) (caps : Array Value) (w : World) (b g : Nat) (x : Qat) (r : List Qat) (h : LeftAt w b g (x :: r)) (v : AtL) (k : Int) (hk : k ≠ 0)
  (hT : ∀ W,Fr w W (fun _ => False) → Calls Tryz.prog F (#[strV x.1] ++ caps) W fun e w' => e = .returned (.tuple #[.agg (atC v),intV k]) ∧ Fr W w' (fun _ => False)) :
  Calls Tryz.prog 168 #[.pointer (some ⟨b,0,none⟩),.func (.func F) #[] caps] w fun e w' => e = QcN (QaC k (x.2 : Int)) ∧ Fr w w' (fun _ => False) := by
 have hf0 := Fr.new w (.cells #[intV 0,intV 0] 63) (fun _ => False);have hsz : (w.alloc (.cells #[intV 0,intV 0] 63)).heap.size = w.heap.size + 1 := by simp
 obtain ⟨off,c,hb,hc,c0,c1,hL⟩ := (h.fr hf0 (fun h => h) (fun h => h)).open;have d0 := Qaa hb 0;simp at d0;have HT := Xi hT;have hk0 : (k == 0) = false := by simpa using hk
 clear hT hL hb h hk hf0;go_enter func168,ntmps168;go_wp2_with fail;refine (HT.out _ (ff (Fr.new w (.cells #[intV 0,intV 0] 63) _) (Fr.new _ _ _))).mono ?_;rintro e w2 ⟨rfl,hf2⟩;have HF2 := Xi (ff (ff (Fr.new w (.cells #[intV 0,intV 0] 63) _) (Fr.new _ _ _)) hf2);have hE := hf2.blk (Blk.made (w.alloc (.cells #[intV 0,intV 0] 63)) 172 #[strV x.1,intV (x.2 : Int)]) (fun h => h);rw [hsz] at hE;have HE := Xi hE;clear hf2 HT hE;go_wp2_with (
    refine Xs 63 w2.heap.size 0 63 (atC atZ) (atC v) (atC v) (Blk.made w2 63 (atC atZ)) (Qeg _) (QcH _) (QaG rfl) ?_;intro w3 hf3 hb3;have hf23 := (Fr.new w2 (.cells (atC atZ) 63) (fun _ => False)).fresh hf3 (fun i e => by omega);have HF3 := Xf HF2 hf23;have e1 := Qaj (hf23.blk HE.out (fun h => h)) 1 _ rfl;clear hf3 hb3 hf23)
 refine (Qbv _ _ _).mono ?_;rintro e w4 ⟨rfl,hf4⟩;have HF4 := Xf HF3 hf4;clear hf4;go_wp2_with fail;exact ⟨rfl,rfl,HF4.out⟩
theorem takeA_ok (F : FuncId) (hF : ∀ args w,(callFunc F args).run Tryz.prog w = .ok (.enter F args) w) (caps : Array Value) (w : World) (b g : Nat) (x : Qat) (r : List Qat) (h : LeftAt w b g (x :: r)) (hbg : g ≠ b) (v : AtL)
  (hT : ∀ W,Fr w W (fun _ => False) → Calls Tryz.prog F (#[strV x.1] ++ caps) W fun e w' => e = .returned (.tuple #[.agg (atC v),intV 0]) ∧ Fr W w' (fun _ => False)) :
  Calls Tryz.prog 168 #[.pointer (some ⟨b,0,none⟩),.func (.func F) #[] caps] w fun e w' => e = .returned (.agg (atC v)) ∧ LeftAt w' b g r ∧ Fr w w' (· = b) := by
 have hf0 := Fr.new w (.cells #[intV 0,intV 0] 63) (fun _ => False);have hsz : (w.alloc (.cells #[intV 0,intV 0] 63)).heap.size = w.heap.size + 1 := by simp
 have hbs := h.lt;obtain ⟨_,_,_,_,cg,_,_⟩ := h.open;have hgs := World.block_lt_of_cell? w _ cg;obtain ⟨off,c,hb,hc,c0,c1,hL⟩ := (h.fr hf0 (fun h => h) (fun h => h)).open;have d0 := Qaa hb 0;simp at d0;have HT := Xi hT;have HL := Xi hL;have HB := Xi hb;have HZ := Xi (show Blk (w.alloc (.cells #[intV 0,intV 0] 63)) w.heap.size 63 (atC atZ) from Blk.made w 63 #[intV 0,intV 0]);have HF0 := Xi hf0;clear hT hL hb h hf0 cg;have l1 : (1 : Int) ≤ (r.length + 1 : Int) := by omega
 have l2 : (r.length + 1 : Int) ≤ (c : Int) := by omega
 go_enter func168,ntmps168;go_wp2_with fail;refine (HT.out _ (ff (Fr.new w (.cells #[intV 0,intV 0] 63) _) (Fr.new _ _ _))).mono ?_;rintro e w2 ⟨rfl,hf2⟩;have hs2 := hf2.size;simp at hs2;have HF2 := Xi (ff (Fr.new _ _ _) hf2);clear hf2 HT;go_wp2_with (first
   | (
    refine Xs 63 w2.heap.size 0 63 (atC atZ) (atC v) (atC v) (Blk.made w2 63 (atC atZ)) (Qeg _) (QcH _) (QaG rfl) ?_;intro w3 hf3 hb3;have hf23 := (Fr.new w2 (.cells (atC atZ) 63) (fun _ => False)).fresh hf3 (fun i e => by omega);have HF3 := Xf HF2 hf23;have HZ3 := Xi (HF3.out.blk HZ.out (fun h => h));have HB3 := Xi (HF3.out.blk HB.out (fun h => h));have HV3 := Xi hb3;have d3 := Qaj HB3.out 0 _ rfl;have hs3 := hf3.size;simp at hs3;clear hf3 hb3 hf23)
   | (
    refine Xc 133 b 0 177 _ #[.slice (if c = 1 then some ⟨g,off,none⟩ else some ⟨g,off + 2,none⟩) r.length (c - 1)] (.slice (if c = 1 then some ⟨g,off,none⟩ else some ⟨g,off + 2,none⟩) r.length (c - 1)) HB3.out Qe3 rfl ?_;intro w4 hf4 hb4;have HF4 := Xi hf4;have HB4 := Xi hb4;have HV4 := Xo hf4 HV3;have HZ4 := Xo hf4 HZ3;clear hf4 hb4)
   | (refine Xl 63 w2.heap.size 0 63 (atC v) (atC v) HV4.out underlying63 (Qeg _) (Qaf _) ?_)
   | (
    refine Xs 63 w.heap.size 0 63 (atC atZ) (atC v) (atC v) HZ4.out (Qeg _) (QcH _) (QaG rfl) ?_;intro w5 hf5 hb5;have HF5 := Xi hf5;have HB5 := Xi hb5;clear hf5 hb5))
 all_goals
  (try simp only [Exit.inBlock,Exit.then]);have hf04 : Fr (w.alloc (.cells #[intV 0,intV 0] 63)) w4 (· = b) := HF3.out.trans HF4.out (fun _ _ h => h.elim) (fun _ _ h => h);have hcut : Mem.cutA (some ⟨g,off,none⟩) c 1 2 = if c = 1 then some ⟨g,off,none⟩ else some ⟨g,off + 2,none⟩ := rfl
  rw [hcut] at HL;have hL4 := HL.out _ _ hf04 hbg HB4.out;have hA4 : Fr w w4 (· = b) := HF0.out.trans hf04 (fun _ _ h => h.elim) (fun _ _ h => h);have hA5 : Fr w w5 (· = b) := Qbd hA4 HF5.out (fun i e => by omega);exact bodyPost_ret (Qo3 HB5.out _ rfl) rfl ⟨rfl,hL4.fr HF5.out (by omega) (by omega),hA5⟩
theorem Qo1 {w : World} {q : Nat} {v : EraL} (hb : Blk w q 69 (eraC v)) (tmps : Array Value) (hp : tmps.getD 4 undef = .pointer (some ⟨q,0,none⟩)) : (results f174 tmps).run Tryz.prog w = .ok (.agg (eraC v)) w :=
 results_cell_row (P := Tryz.prog) (fn := f174) (p := 4) (ty := 69) rfl tmps _ q 69 (eraC v) (0,0) _ hp hb underlying69 rfl (QaK v)
theorem takeE_no (F : FuncId) (hF : ∀ args w,(callFunc F args).run Tryz.prog w = .ok (.enter F args) w) (caps : Array Value) (w : World) (b g : Nat) (x : Qat) (r : List Qat) (h : LeftAt w b g (x :: r)) (v : EraL) (k : Int) (hk : k ≠ 0)
  (hT : ∀ W,Fr w W (fun _ => False) → Calls Tryz.prog F (#[strV x.1] ++ caps) W fun e w' => e = .returned (.tuple #[.agg (eraC v),intV k]) ∧ Fr W w' (fun _ => False)) :
  Calls Tryz.prog 174 #[.pointer (some ⟨b,0,none⟩),.func (.func F) #[] caps] w fun e w' => e = QcN (QaC k (x.2 : Int)) ∧ Fr w w' (fun _ => False) := by
 have hf0 := Fr.new w (.cells Z03 69) (fun _ => False);have hsz : (w.alloc (.cells Z03 69)).heap.size = w.heap.size + 1 := by simp
 obtain ⟨off,c,hb,hc,c0,c1,hL⟩ := (h.fr hf0 (fun h => h) (fun h => h)).open;have d0 := Qaa hb 0;simp at d0;have HT := Xi hT;have hk0 : (k == 0) = false := by simpa using hk
 clear hT hL hb h hk hf0;go_enter func174,ntmps174;go_wp2_with fail;refine (HT.out _ (ff (Fr.new w (.cells Z03 69) _) (Fr.new _ _ _))).mono ?_;rintro e w2 ⟨rfl,hf2⟩;have HF2 := Xi (ff (ff (Fr.new w (.cells Z03 69) _) (Fr.new _ _ _)) hf2);have hE := hf2.blk (Blk.made (w.alloc (.cells Z03 69)) 172 #[strV x.1,intV (x.2 : Int)]) (fun h => h);rw [hsz] at hE;have HE := Xi hE;clear hf2 HT hE;go_wp2_with (
    refine Xs 69 w2.heap.size 0 69 (eraC eraZ) (eraC v) (eraC v) (Blk.made w2 69 (eraC eraZ)) (QaK _) (Qax _) (QaG rfl) ?_;intro w3 hf3 hb3;have hf23 := (Fr.new w2 (.cells (eraC eraZ) 69) (fun _ => False)).fresh hf3 (fun i e => by omega);have HF3 := Xf HF2 hf23;have e1 := Qaj (hf23.blk HE.out (fun h => h)) 1 _ rfl;clear hf3 hb3 hf23)
 refine (Qbv _ _ _).mono ?_;rintro e w4 ⟨rfl,hf4⟩;have HF4 := Xf HF3 hf4;clear hf4;go_wp2_with fail;exact ⟨rfl,rfl,HF4.out⟩
theorem takeE_ok (F : FuncId) (hF : ∀ args w,(callFunc F args).run Tryz.prog w = .ok (.enter F args) w) (caps : Array Value) (w : World) (b g : Nat) (x : Qat) (r : List Qat) (h : LeftAt w b g (x :: r)) (hbg : g ≠ b) (v : EraL)
  (hT : ∀ W,Fr w W (fun _ => False) → Calls Tryz.prog F (#[strV x.1] ++ caps) W fun e w' => e = .returned (.tuple #[.agg (eraC v),intV 0]) ∧ Fr W w' (fun _ => False)) :
  Calls Tryz.prog 174 #[.pointer (some ⟨b,0,none⟩),.func (.func F) #[] caps] w fun e w' => e = .returned (.agg (eraC v)) ∧ LeftAt w' b g r ∧ Fr w w' (· = b) := by
 have hf0 := Fr.new w (.cells Z03 69) (fun _ => False);have hsz : (w.alloc (.cells Z03 69)).heap.size = w.heap.size + 1 := by simp
 have hbs := h.lt;obtain ⟨_,_,_,_,cg,_,_⟩ := h.open;have hgs := World.block_lt_of_cell? w _ cg;obtain ⟨off,c,hb,hc,c0,c1,hL⟩ := (h.fr hf0 (fun h => h) (fun h => h)).open;have d0 := Qaa hb 0;simp at d0;have HT := Xi hT;have HL := Xi hL;have HB := Xi hb;have HZ := Xi (show Blk (w.alloc (.cells Z03 69)) w.heap.size 69 (eraC eraZ) from Blk.made w 69 Z03);have HF0 := Xi hf0;clear hT hL hb h hf0 cg;have l1 : (1 : Int) ≤ (r.length + 1 : Int) := by omega
 have l2 : (r.length + 1 : Int) ≤ (c : Int) := by omega
 go_enter func174,ntmps174;go_wp2_with fail;refine (HT.out _ (ff (Fr.new w (.cells Z03 69) _) (Fr.new _ _ _))).mono ?_;rintro e w2 ⟨rfl,hf2⟩;have hs2 := hf2.size;simp at hs2;have HF2 := Xi (ff (Fr.new _ _ _) hf2);clear hf2 HT;go_wp2_with (first
   | (
    refine Xs 69 w2.heap.size 0 69 (eraC eraZ) (eraC v) (eraC v) (Blk.made w2 69 (eraC eraZ)) (QaK _) (Qax _) (QaG rfl) ?_;intro w3 hf3 hb3;have hf23 := (Fr.new w2 (.cells (eraC eraZ) 69) (fun _ => False)).fresh hf3 (fun i e => by omega);have HF3 := Xf HF2 hf23;have HZ3 := Xi (HF3.out.blk HZ.out (fun h => h));have HB3 := Xi (HF3.out.blk HB.out (fun h => h));have HV3 := Xi hb3;have d3 := Qaj HB3.out 0 _ rfl;have hs3 := hf3.size;simp at hs3;clear hf3 hb3 hf23)
   | (
    refine Xc 133 b 0 177 _ #[.slice (if c = 1 then some ⟨g,off,none⟩ else some ⟨g,off + 2,none⟩) r.length (c - 1)] (.slice (if c = 1 then some ⟨g,off,none⟩ else some ⟨g,off + 2,none⟩) r.length (c - 1)) HB3.out Qe3 rfl ?_;intro w4 hf4 hb4;have HF4 := Xi hf4;have HB4 := Xi hb4;have HV4 := Xo hf4 HV3;have HZ4 := Xo hf4 HZ3;clear hf4 hb4)
   | (refine Xl 69 w2.heap.size 0 69 (eraC v) (eraC v) HV4.out underlying69 (QaK _) (Qaf _) ?_)
   | (
    refine Xs 69 w.heap.size 0 69 (eraC eraZ) (eraC v) (eraC v) HZ4.out (QaK _) (Qax _) (QaG rfl) ?_;intro w5 hf5 hb5;have HF5 := Xi hf5;have HB5 := Xi hb5;clear hf5 hb5))
 all_goals
  (try simp only [Exit.inBlock,Exit.then]);have hf04 : Fr (w.alloc (.cells Z03 69)) w4 (· = b) := HF3.out.trans HF4.out (fun _ _ h => h.elim) (fun _ _ h => h);have hcut : Mem.cutA (some ⟨g,off,none⟩) c 1 2 = if c = 1 then some ⟨g,off,none⟩ else some ⟨g,off + 2,none⟩ := rfl
  rw [hcut] at HL;have hL4 := HL.out _ _ hf04 hbg HB4.out;have hA4 : Fr w w4 (· = b) := HF0.out.trans hf04 (fun _ _ h => h.elim) (fun _ _ h => h);have hA5 : Fr w w5 (· = b) := Qbd hA4 HF5.out (fun i e => by omega);exact bodyPost_ret (Qo1 HB5.out _ rfl) rfl ⟨rfl,hL4.fr HF5.out (by omega) (by omega),hA5⟩
theorem slots_of {W : World} (h : LOk W) : W.cell? ⟨4,0,none⟩ = some (strV [47]) ∧ W.cell? ⟨4,1,none⟩ = some (strV [37,115]) ∧ W.cell? ⟨4,2,none⟩ = some (strV [37,122]) := ⟨h.slots 0 (by omega),h.slots 1 (by omega),h.slots 2 (by omega)⟩
theorem Qkf (l : Bs) (hl : l.length ≤ 100000) (w : World) (hw : LOk w) (T : Bs) (hT : QbL QcR l = T) : Calls Tryz.prog 202 #[strV l] w fun e w' => e = .returned (strV T) ∧ Fr w w' (fun _ => False) := by
 obtain ⟨m0,m1,m2⟩ := slots_of hw;have HC := Xi (fun (m : Bs) (W : World) (f : Fr w W (fun _ => False)) => S6.Qe8 l m (by omega) W (hw.fr f).base);have i0 : ∀ w,(Instr.index 263 (.agg #[strV [47],strV [37,115],strV [37,122]]) (.int .i64 0)).run Tryz.prog w = .ok (strV [47]) w := fun _ => by kernel_rfl
 have i1 : ∀ w,(Instr.index 263 (.agg #[strV [47],strV [37,115],strV [37,122]]) (.int .i64 1)).run Tryz.prog w = .ok (strV [37,115]) w := fun _ => by kernel_rfl
 have i2 : ∀ w,(Instr.index 263 (.agg #[strV [47],strV [37,115],strV [37,122]]) (.int .i64 2)).run Tryz.prog w = .ok (strV [37,122]) w := fun _ => by kernel_rfl
 have HT := Xi hT;clear hT hw;go_enter func202,ntmps202;go_wp2_with fail
 go_loopg [9] 3 (fun g v9 wr => ∃ k : Nat,k + g = 3 ∧ v9 = .int .i64 (k : Int) ∧ QbL (QcR.drop k) l = T ∧ Fr w wr (fun _ => False))
 case atStart => exact ⟨0,rfl,rfl,HT.out,Fr.refl _ _⟩
 case round =>
  obtain ⟨k,hk,rfl,hk2,hf⟩ := hrel;have HK := Xi hk2;have HF := Xi hf;clear hk2 hf HT;have hk3 : k = 0 ∨ k = 1 ∨ k = 2 ∨ k = 3 := by omega
  rcases hk3 with rfl | rfl | rfl | rfl
  ·have HCk := Xi (HC.out [47] _ HF.out);obtain ⟨a,ha⟩ : ∃ a,(Go.Lib.cut l [47]).1 = a := ⟨_,rfl⟩;obtain ⟨c,hc⟩ : ∃ c,(Go.Lib.cut l [47]).2.1 = c := ⟨_,rfl⟩;obtain ⟨x,hx⟩ : ∃ x,(Go.Lib.cut l [47]).2.2 = x := ⟨_,rfl⟩;rw [ha,hc,hx] at HCk;have HX := Xi (show (if x = true then a ++ c else QbL (QcR.drop 1) l) = T by rw [← ha,← hc,← hx]; exact HK.out);have HN := Xi (show x = true → a.length + c.length ≤ l.length by rw [← ha,← hc,← hx]; exact Qbw);obtain rfl : gk = 3 := by omega
   clear ha hc hx HK hk;cases x with
   | true =>
    have hle := HN.out rfl;have R1 := fun W : World => S8.QbZ (P := Tryz.prog) W a c (by omega);have hE : a ++ c = T := HX.out;rw [hE] at R1;clear HX HN hE;go_wp2_with fail;refine HCk.out.mono ?_;rintro e w2 ⟨rfl,hf2⟩;have HF2 := Xf HF hf2;clear hf2;go_wp2_with fail;go_ret;exact ⟨rfl,HF2.out⟩
   | false =>
    have HX := Xi (show QbL (QcR.drop 1) l = T from HX.out);clear HN;go_wp2_with fail;refine HCk.out.mono ?_;rintro e w2 ⟨rfl,hf2⟩;have HF2 := Xf HF hf2;clear hf2;go_wp2_with fail
    go_roundg 2
    case measure => omega
    case rel => exact ⟨1,rfl,rfl,HX.out,HF2.out⟩
  ·have HCk := Xi (HC.out [37,115] _ HF.out);obtain ⟨a,ha⟩ : ∃ a,(Go.Lib.cut l [37,115]).1 = a := ⟨_,rfl⟩;obtain ⟨c,hc⟩ : ∃ c,(Go.Lib.cut l [37,115]).2.1 = c := ⟨_,rfl⟩;obtain ⟨x,hx⟩ : ∃ x,(Go.Lib.cut l [37,115]).2.2 = x := ⟨_,rfl⟩;rw [ha,hc,hx] at HCk;have HX := Xi (show (if x = true then a ++ c else QbL (QcR.drop 2) l) = T by rw [← ha,← hc,← hx]; exact HK.out);have HN := Xi (show x = true → a.length + c.length ≤ l.length by rw [← ha,← hc,← hx]; exact Qbw);obtain rfl : gk = 2 := by omega
   clear ha hc hx HK hk;cases x with
   | true =>
    have hle := HN.out rfl;have R1 := fun W : World => S8.QbZ (P := Tryz.prog) W a c (by omega);have hE : a ++ c = T := HX.out;rw [hE] at R1;clear HX HN hE;go_wp2_with fail;refine HCk.out.mono ?_;rintro e w2 ⟨rfl,hf2⟩;have HF2 := Xf HF hf2;clear hf2;go_wp2_with fail;go_ret;exact ⟨rfl,HF2.out⟩
   | false =>
    have HX := Xi (show QbL (QcR.drop 2) l = T from HX.out);clear HN;go_wp2_with fail;refine HCk.out.mono ?_;rintro e w2 ⟨rfl,hf2⟩;have HF2 := Xf HF hf2;clear hf2;go_wp2_with fail
    go_roundg 1
    case measure => omega
    case rel => exact ⟨2,rfl,rfl,HX.out,HF2.out⟩
  ·have HCk := Xi (HC.out [37,122] _ HF.out);obtain ⟨a,ha⟩ : ∃ a,(Go.Lib.cut l [37,122]).1 = a := ⟨_,rfl⟩;obtain ⟨c,hc⟩ : ∃ c,(Go.Lib.cut l [37,122]).2.1 = c := ⟨_,rfl⟩;obtain ⟨x,hx⟩ : ∃ x,(Go.Lib.cut l [37,122]).2.2 = x := ⟨_,rfl⟩;rw [ha,hc,hx] at HCk;have HX := Xi (show (if x = true then a ++ c else QbL (QcR.drop 3) l) = T by rw [← ha,← hc,← hx]; exact HK.out);have HN := Xi (show x = true → a.length + c.length ≤ l.length by rw [← ha,← hc,← hx]; exact Qbw);obtain rfl : gk = 1 := by omega
   clear ha hc hx HK hk;cases x with
   | true =>
    have hle := HN.out rfl;have R1 := fun W : World => S8.QbZ (P := Tryz.prog) W a c (by omega);have hE : a ++ c = T := HX.out;rw [hE] at R1;clear HX HN hE;go_wp2_with fail;refine HCk.out.mono ?_;rintro e w2 ⟨rfl,hf2⟩;have HF2 := Xf HF hf2;clear hf2;go_wp2_with fail;go_ret;exact ⟨rfl,HF2.out⟩
   | false =>
    have HX := Xi (show QbL (QcR.drop 3) l = T from HX.out);clear HN;go_wp2_with fail;refine HCk.out.mono ?_;rintro e w2 ⟨rfl,hf2⟩;have HF2 := Xf HF hf2;clear hf2;go_wp2_with fail
    go_roundg 0
    case measure => omega
    case rel => exact ⟨3,rfl,rfl,HX.out,HF2.out⟩
  ·have hE : l = T := HK.out;subst hE;clear HK;go_wp2_with fail;go_ret;exact ⟨rfl,HF.out⟩
end Go.Proofs.YtodcnbejnchmhaaGreatDoor
