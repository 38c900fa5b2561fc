import Derived.Test.YtodcnbejnchmhaaGreatDoorProg
import Derived.Test.YtodcnbejnchmhaaGreatDoorYc10
import Derived.Test.YtodcnbejnchmhaaGreatDoorYc04
import Derived.Test.YtodcnbejnchmhaaGreatDoorYc11
import Derived.BigQuiet
import Derived.Deep.QuietTactic
import Derived.Deep.DeepCutAuto
import Derived.WalkLawsBesides
import Derived.IntWalk
import Derived.Lib.Hide
import Derived.Tactics2
import Derived.Lib.IndexAny
import Derived.Deep.LoopGhost
namespace Go.Proofs.YtodcnbejnchmhaaGreatDoor.S7
open _root_.Go.Proofs.Tryz
open Go.RowKit Go.Mem Go.Lxr

abbrev strV (l : Bs) : Value := .string ⟨l.toArray⟩
theorem Qlj : (Tryz.prog.info? 5).map (fun i => (i.zero,i.size,i.bytes)) = some (some (.int .u8 0),1,1) := by kernel_rfl
theorem QnL : (Tryz.prog.info? 9).map (fun i => (i.zero,i.size,i.bytes)) = some (some (.string ⟨#[]⟩),1,16) := by kernel_rfl
theorem infoF : (Tryz.prog.info? 172).map (fun i => (i.zero,i.size,i.bytes)) = some (some (.agg #[.string ⟨#[]⟩,.int .i64 0]),2,24) := by kernel_rfl
theorem Qal (l : Bs) : (⟨l.toArray⟩ : ByteArray).size = l.length := by show l.toArray.size = _; simp
theorem Qag (s : ByteArray) : s.data.toList.length = s.size := by rw [Array.length_toList]; rfl
theorem QeU (s : ByteArray) : Value.string s = strV s.data.toList := by
 show Value.string s = .string ⟨s.data.toList.toArray⟩;congr
theorem QbZ {P : Program} (w : World) (a b : Bs) (h : a.length + b.length ≤ 1000000) : (Op.stringOp .add ⟨a.toArray⟩ ⟨b.toArray⟩).run P w = .ok (strV (a ++ b)) w := by
 rw [run_string_add_sum w _ _ (by show a.toArray.size + b.toArray.size ≤ _; simp; omega)];show Result.ok (Value.string ((⟨a.toArray⟩ : ByteArray) ++ ⟨b.toArray⟩)) w = .ok (.string ⟨(a ++ b).toArray⟩) w;congr 2
theorem ff {a c d : World} (h : Fr a c (fun _ => False)) (h2 : Fr c d (fun _ => False)) : Fr a d (fun _ => False) := h.trans h2 (fun _ _ h => h) (fun _ _ h => h)
theorem fd {a b : World} (h : Fr a b (fun _ => False)) (n : Nat) : Fr a (b.drewN n) (fun _ => False) := ff h (Fr.drewN _ _ _)
theorem fb {a c d : World} {b : Nat} (h : Fr a c (· = b)) (h2 : Fr c d (· = b)) : Fr a d (· = b) := h.trans h2 (fun _ _ h => h) (fun _ _ h => h)
theorem fbn {a d : World} {b n : Nat} (h : Fr (a.drewN n) d (· = b)) : Fr a d (· = b) := fb (Fr.drewN _ _ _) h
theorem Qdj (w : World) (b i : Nat) (v : Value) : Fr w (w.setCell ⟨b,i,none⟩ v) (· = b) := Fr.set (S := (· = b)) rfl

/-- what set.has asks -/
theorem Qhi (S : Bs) (c : UInt8) (w : World) (x : Bool) (hx : S.contains c = x) : Calls Tryz.prog 136 #[strV S,.int .u8 (c.toNat : Int)] w fun e w' => e = .returned (.bool x) ∧ w = w' := by
 have HI := Xi (Tryz.strings_IndexByte ⟨S.toArray⟩ (c.toNat : Int) w);rw [show ((c.toNat : Int)).toNat.toUInt8 = c by simp,show (⟨S.toArray⟩ : ByteArray).data.toList = S from rfl] at HI;have HC := Xi (Lib.contains_iff_indexByte S c);rw [hx] at HC;clear hx;go_enter func136,ntmps136;go_wp2_with fail;refine HI.out.mono ?_;rintro e w2 ⟨rfl,rfl⟩;go_wp2_with fail;go_ret;exact ⟨by rw [HC.out]; rfl,rfl⟩
theorem QpO (S : Bs) (c : UInt8) (w : World) (x : Bool) (hx : (!S.contains c) = x) : Calls Tryz.prog 138 #[strV S,.int .u8 (c.toNat : Int)] w fun e w' => e = .returned (.bool x) ∧ w = w' := by
 obtain ⟨y,hy⟩ : ∃ y,S.contains c = y := ⟨_,rfl⟩;rw [hy] at hx;subst hx;have HI := Xi (Qhi S c w y hy);clear hy;go_enter func138,ntmps138;go_wp2_with fail;refine HI.out.mono ?_;rintro e w2 ⟨rfl,rfl⟩;go_wp2_with fail;go_ret;exact ⟨rfl,rfl⟩
/-- block b is a reader of s at the place p,with l still to read -/
def RdAt (w : World) (b : Nat) (s : ByteArray) (p : Nat) (l : Bs) : Prop := p ≤ s.size ∧ s.data.toList.drop p = l ∧ Blk w b 171 #[.string s,.int .i64 (p : Int)]
theorem RdAt.fr {w w' : World} {b p : Nat} {s : ByteArray} {l : Bs} {S : Nat → Prop} (h : RdAt w b s p l) (hf : Fr w w' S) (hs : ¬ S b) : RdAt w' b s p l := ⟨h.1,h.2.1,hf.blk h.2.2 hs⟩
theorem RdAt.lt {w : World} {b p : Nat} {s : ByteArray} {l : Bs} (h : RdAt w b s p l) : b < w.heap.size := h.2.2.lt
theorem RdAt.len {w : World} {b p : Nat} {s : ByteArray} {l : Bs} (h : RdAt w b s p l) : p + l.length = s.size := by
 have hl : s.data.toList.length = s.size := Qag s;have h1 := h.1;have : l.length = s.size - p := by rw [← h.2.1,List.length_drop,hl]
 omega
theorem QaS {s : ByteArray} {a : Nat} {c : UInt8} {l : Bs} (h : s.data.toList.drop a = c :: l) : ∃ hs : a < s.size,s[a] = c ∧ s.data.toList.drop (a + 1) = l := by
 have hl : s.data.toList.length = s.size := Qag s;have hs : a < s.size := by
  rw [← hl];rcases Nat.lt_or_ge a s.data.toList.length with h1 | h1
  ·exact h1
  ·rw [List.drop_eq_nil_of_le h1] at h;cases h
 refine ⟨hs,?_,?_⟩
 ·rw [List.drop_eq_getElem_cons (by rw [hl]; exact hs)] at h;have := (List.cons.inj h).1;rw [← this];rfl
 ·rw [List.drop_eq_getElem_cons (by rw [hl]; exact hs)] at h;exact (List.cons.inj h).2
/-- an extract of a text as a list -/
theorem QbQ {s : ByteArray} {a e : Nat} {l t r : Bs} (h : s.data.toList.drop a = l) (hl : l = t ++ r) (he : e = a + t.length) : s.extract a e = ⟨t.toArray⟩ := by
 apply ByteArray.ext;apply Array.toList_inj.1;subst he;simp [List.extract,h,hl]
theorem Qqg (c : UInt8) : (c.toNat : Int) < 256 := by have := c.toNat_lt; omega
abbrev hasV (S : Bs) : Value := .func (.func 136) #[strV S] #[]
abbrev lacksV (S : Bs) : Value := .func (.func 138) #[strV S] #[]
abbrev ptrV (b : Nat) : Value := .pointer (some ⟨b,0,none⟩)
abbrev hasF (S : Bs) (c : UInt8) : Bool := S.contains c
abbrev Qbb (S : Bs) (c : UInt8) : Bool := !S.contains c
/-- is the next byte such a one? -/
def Qku (f : UInt8 → Bool) : Bs → Bool
 | [] => false
 | c :: _ => f c
theorem QeS {f : UInt8 → Bool} {c : UInt8} {l : Bs} (h : f c = true) : (c :: l).takeWhile f = c :: l.takeWhile f ∧ (c :: l).dropWhile f = l.dropWhile f := by simp [h]
theorem QfG {f : UInt8 → Bool} {l : Bs} (h : Qku f l = false) : l.takeWhile f = [] ∧ l.dropWhile f = l := by
 cases l with
 | nil => exact ⟨rfl,rfl⟩
 | cons c l =>
  have h : f c = false := h;simp [h]
theorem QlT (f : UInt8 → Bool) (l : Bs) : l = l.takeWhile f ++ l.dropWhile f := List.takeWhile_append_dropWhile.symm

theorem Qfi (S : Bs) (w : World) (b p : Nat) (s : ByteArray) (l : Bs) (h : RdAt w b s p l) (_hz : s.size ≤ 1000000) (x : Bool) (hx : Qku (hasF S) l = x) :
  Calls Tryz.prog 137 #[ptrV b,hasV S] w fun e w' => e = .returned (.bool x) ∧ ∃ n,w' = w.drewN n := by
 have hlen := h.len;obtain ⟨h0,hd,hb⟩ := h;have c0 := Qaa hb 0;have c1 := Qaa hb 1;simp at c0 c1;cases l with
 | nil =>
  have hx : x = false := hx.symm;subst hx;have h1 : decide (p < s.size) = false := by simp at hlen; rw [decide_eq_false_iff_not]; omega
  clear hd hb hlen;go_enter func137,ntmps137;go_wp2_with fail
  go_quiet (fail)
  go_wp2_with fail;go_ret;exact ⟨rfl,_,rfl⟩
 | cons c r =>
  obtain ⟨hlt,hc,-⟩ := QaS hd;have h1 : decide (p < s.size) = true := by rw [decide_eq_true_iff]; exact hlt
  have h2 : (0 : Int) ≤ (p : Int) := by omega
  have h3 : (p : Int) < (s.size : Int) := by omega
  have HH := Xi (fun W => Qhi S c W x hx);rw [← hc] at HH;clear hd hb hlen hx hc;go_enter func137,ntmps137;go_wp2_with fail
  go_quiet ((go_at_call 136; exact Calls.quiet_of ((HH.out _).mono (fun e w' h => ⟨h.1,0,h.2.symm⟩))))
  go_wp2_with fail;go_ret;exact ⟨rfl,_,rfl⟩

theorem QhS (S : Bs) (w : World) (b p : Nat) (s : ByteArray) (l : Bs) (h : RdAt w b s p l) (_hz : s.size ≤ 1000000) (x : Bool) (hx : Qku (Qbb S) l = x) :
  Calls Tryz.prog 137 #[ptrV b,lacksV S] w fun e w' => e = .returned (.bool x) ∧ ∃ n,w' = w.drewN n := by
 have hlen := h.len;obtain ⟨h0,hd,hb⟩ := h;have c0 := Qaa hb 0;have c1 := Qaa hb 1;simp at c0 c1;cases l with
 | nil =>
  have hx : x = false := hx.symm;subst hx;have h1 : decide (p < s.size) = false := by simp at hlen; rw [decide_eq_false_iff_not]; omega
  clear hd hb hlen;go_enter func137,ntmps137;go_wp2_with fail
  go_quiet (fail)
  go_wp2_with fail;go_ret;exact ⟨rfl,_,rfl⟩
 | cons c r =>
  obtain ⟨hlt,hc,-⟩ := QaS hd;have h1 : decide (p < s.size) = true := by rw [decide_eq_true_iff]; exact hlt
  have h2 : (0 : Int) ≤ (p : Int) := by omega
  have h3 : (p : Int) < (s.size : Int) := by omega
  have HH := Xi (fun W => QpO S c W x hx);rw [← hc] at HH;clear hd hb hlen hx hc;go_enter func137,ntmps137;go_wp2_with fail
  go_quiet ((go_at_call 138; exact Calls.quiet_of ((HH.out _).mono (fun e w' h => ⟨h.1,0,h.2.symm⟩))))
  go_wp2_with fail;go_ret;exact ⟨rfl,_,rfl⟩

def TInv (f : UInt8 → Bool) (w : World) (b : Nat) (s : ByteArray) (p : Nat) (l t r : Bs) (g : Nat) (wr : World) : Prop :=
 ∃ t1 m,l = t1 ++ m ∧ m.length = g ∧ RdAt wr b s (p + t1.length) m ∧ t = t1 ++ m.takeWhile f ∧ m.dropWhile f = r ∧ Fr w wr (· = b)

theorem take_has (S : Bs) (w : World) (b p : Nat) (s : ByteArray) (l : Bs) (h : RdAt w b s p l) (hz : s.size ≤ 1000000) (t r : Bs) (ht : l.takeWhile (hasF S) = t) (hr : l.dropWhile (hasF S) = r) :
  Calls Tryz.prog 135 #[ptrV b,hasV S] w fun e w' => e = .returned (strV t) ∧ RdAt w' b s (p + t.length) r ∧ Fr w w' (· = b) := by
 have H0 := Xi h;have c1 := Qaa h.2.2 1;simp at c1;have HS := Xi (fun W q m h x hx => Qfi S W b q s m h hz x hx);have HT := Xi ht;have HR := Xi hr;clear h ht hr;go_enter func135,ntmps135;go_wp2_with fail
 go_loopg [] l.length (fun g wr => TInv (hasF S) w b s p l t r g wr)
 case atStart => exact ⟨[],l,rfl,rfl,by simpa using H0.out,by rw [HT.out]; rfl,HR.out,Fr.refl _ _⟩
 case round =>
  obtain ⟨t1,m,hl1,hg1,hr1,ht1,hm1,hf1⟩ := hrel;have hlen := hr1.len;have hlen0 := H0.out.len;have c0' := Qaa hr1.2.2 0;have c1' := Qaa hr1.2.2 1;simp at c0' c1';have f1 := Qac hr1.2.2 1;have HR1 := Xi hr1;have HF1 := Xi hf1;obtain ⟨x,hx⟩ : ∃ x,Qku (hasF S) m = x := ⟨_,rfl⟩;have HSE := Xi (HS.out wr _ m hr1 x hx);clear hr1 hf1;cases x with
  | true =>
   cases m with
   | nil => cases hx
   | cons c m =>
    have hx : hasF S c = true := hx;obtain ⟨e1,e2⟩ := QeS (l := m) hx;rw [e1] at ht1;rw [e2] at hm1;obtain ⟨hlt,-,hd'⟩ := QaS HR1.out.2.1;have HD := Xi hd';have HT1 := Xi ht1;have HM1 := Xi hm1;have HL1 := Xi hl1;have HG1 := Xi hg1;clear hx e1 e2 ht1 hm1 hd' hl1 hg1 hlen;go_wp2_with fail;refine HSE.out.mono ?_;rintro e w2 ⟨rfl,n,rfl⟩;go_wp2_with fail
    go_roundg m.length
    case measure => have := HG1.out; simp at this; omega
    case rel => exact ⟨t1 ++ [c],m,by rw [HL1.out]; simp,rfl,⟨by simp; omega,by rw [← HD.out]; simp [Nat.add_assoc],Blk.put' (HR1.out.2.2 : Blk (wr.drewN _) b _ _) 1 _ (by simp; omega)⟩,by rw [HT1.out]; simp,HM1.out,fb HF1.out (fb (Fr.drewN _ _ _) (Qdj _ _ _ _))⟩
  | false =>
   obtain ⟨e1,e2⟩ := QfG hx;rw [e1] at ht1;rw [e2] at hm1;simp at ht1;subst ht1 hm1;obtain ⟨q,hq⟩ : ∃ q : Nat,q = p + t.length := ⟨_,rfl⟩;rw [show (p : Int) + (t.length : Int) = (q : Int) by omega] at c1';have i0 : (0 : Int) ≤ (p : Int) := by omega
   have i1 : (p : Int) ≤ (q : Int) := by omega
   have i2 : (q : Int) ≤ (s.size : Int) := by omega
   have HE := Xi (show Value.string (s.extract p q) = strV t by rw [QbQ H0.out.2.1 hl1 hq]);clear hq hlen hlen0;clear hx e1 e2 hl1 hg1;go_wp2_with fail;refine HSE.out.mono ?_;rintro e w2 ⟨rfl,n,rfl⟩;go_wp2_with fail
   go_quiet (fail)
   go_wp2_with fail;go_ret;exact ⟨by rw [← HE.out]; rfl,HR1.out,fb HF1.out (fb (Fr.drewN _ _ _) (Fr.drewN _ _ _))⟩

theorem Qer (S : Bs) (w : World) (b p : Nat) (s : ByteArray) (l : Bs) (h : RdAt w b s p l) (hz : s.size ≤ 1000000) (t r : Bs) (ht : l.takeWhile (Qbb S) = t) (hr : l.dropWhile (Qbb S) = r) :
  Calls Tryz.prog 135 #[ptrV b,lacksV S] w fun e w' => e = .returned (strV t) ∧ RdAt w' b s (p + t.length) r ∧ Fr w w' (· = b) := by
 have H0 := Xi h;have c1 := Qaa h.2.2 1;simp at c1;have HS := Xi (fun W q m h x hx => QhS S W b q s m h hz x hx);have HT := Xi ht;have HR := Xi hr;clear h ht hr;go_enter func135,ntmps135;go_wp2_with fail
 go_loopg [] l.length (fun g wr => TInv (Qbb S) w b s p l t r g wr)
 case atStart => exact ⟨[],l,rfl,rfl,by simpa using H0.out,by rw [HT.out]; rfl,HR.out,Fr.refl _ _⟩
 case round =>
  obtain ⟨t1,m,hl1,hg1,hr1,ht1,hm1,hf1⟩ := hrel;have hlen := hr1.len;have hlen0 := H0.out.len;have c0' := Qaa hr1.2.2 0;have c1' := Qaa hr1.2.2 1;simp at c0' c1';have f1 := Qac hr1.2.2 1;have HR1 := Xi hr1;have HF1 := Xi hf1;obtain ⟨x,hx⟩ : ∃ x,Qku (Qbb S) m = x := ⟨_,rfl⟩;have HSE := Xi (HS.out wr _ m hr1 x hx);clear hr1 hf1;cases x with
  | true =>
   cases m with
   | nil => cases hx
   | cons c m =>
    have hx : Qbb S c = true := hx;obtain ⟨e1,e2⟩ := QeS (l := m) hx;rw [e1] at ht1;rw [e2] at hm1;obtain ⟨hlt,-,hd'⟩ := QaS HR1.out.2.1;have HD := Xi hd';have HT1 := Xi ht1;have HM1 := Xi hm1;have HL1 := Xi hl1;have HG1 := Xi hg1;clear hx e1 e2 ht1 hm1 hd' hl1 hg1 hlen;go_wp2_with fail;refine HSE.out.mono ?_;rintro e w2 ⟨rfl,n,rfl⟩;go_wp2_with fail
    go_roundg m.length
    case measure => have := HG1.out; simp at this; omega
    case rel => exact ⟨t1 ++ [c],m,by rw [HL1.out]; simp,rfl,⟨by simp; omega,by rw [← HD.out]; simp [Nat.add_assoc],Blk.put' (HR1.out.2.2 : Blk (wr.drewN _) b _ _) 1 _ (by simp; omega)⟩,by rw [HT1.out]; simp,HM1.out,fb HF1.out (fb (Fr.drewN _ _ _) (Qdj _ _ _ _))⟩
  | false =>
   obtain ⟨e1,e2⟩ := QfG hx;rw [e1] at ht1;rw [e2] at hm1;simp at ht1;subst ht1 hm1;obtain ⟨q,hq⟩ : ∃ q : Nat,q = p + t.length := ⟨_,rfl⟩;rw [show (p : Int) + (t.length : Int) = (q : Int) by omega] at c1';have i0 : (0 : Int) ≤ (p : Int) := by omega
   have i1 : (p : Int) ≤ (q : Int) := by omega
   have i2 : (q : Int) ≤ (s.size : Int) := by omega
   have HE := Xi (show Value.string (s.extract p q) = strV t by rw [QbQ H0.out.2.1 hl1 hq]);clear hq hlen hlen0;clear hx e1 e2 hl1 hg1;go_wp2_with fail;refine HSE.out.mono ?_;rintro e w2 ⟨rfl,n,rfl⟩;go_wp2_with fail
   go_quiet (fail)
   go_wp2_with fail;go_ret;exact ⟨by rw [← HE.out]; rfl,HR1.out,fb HF1.out (fb (Fr.drewN _ _ _) (Fr.drewN _ _ _))⟩
abbrev Qcm : Bs := [9,10,11,12,13,32]
abbrev QbO : Bs := [9,10,11,12,13,32,35,34]
theorem Qi6 (c : UInt8) : Qcm.contains c = Qc1 c := by
 have h : ∀ k : Fin 256,Qcm.contains (UInt8.ofNat k.val) = Qc1 (UInt8.ofNat k.val) := by decide +kernel
 have := h ⟨c.toNat,c.toNat_lt⟩;simpa using this
theorem QjD (c : UInt8) : QbO.contains c = (Qcr c || c == 34) := by
 have h : ∀ k : Fin 256,QbO.contains (UInt8.ofNat k.val) = (Qcr (UInt8.ofNat k.val) || UInt8.ofNat k.val == 34) := by decide +kernel
 have := h ⟨c.toNat,c.toNat_lt⟩;simpa using this
theorem Qk0 (d c : UInt8) : List.contains [d] c = (c == d) := by
 show (match c == d with | true => true | false => List.elem c []) = _;cases c == d <;> rfl
/-- does a field begin? -/
def Qin : Bs → Bool
 | [] => false
 | c :: _ => !(c == 35)
theorem Qkm (l : Bs) : Qku (Qbb [35]) l = Qin l := by
 cases l with
 | nil => rfl
 | cons c l => show (!List.contains [35] c) = _; rw [Qk0]; rfl
theorem QeD (w : World) (b p : Nat) (s : ByteArray) (l : Bs) (h : RdAt w b s p l) (hz : s.size ≤ 1000000) (t r : Bs) (ht : l.takeWhile (hasF Qcm) = t) (hr : l.dropWhile (hasF Qcm) = r) (x : Bool) (hx : Qin r = x) :
  Calls Tryz.prog 105 #[ptrV b] w fun e w' => e = .returned (.bool x) ∧ RdAt w' b s (p + t.length) r ∧ Fr w w' (· = b) := by
 have HT := Xi (take_has Qcm w b p s l h hz t r ht hr);have HS := Xi (fun W h => QhS [35] W b (p + t.length) s r h hz x (by rw [Qkm]; exact hx));clear h ht hr hx;go_enter func105,ntmps105;go_wp2_with fail;refine HT.out.mono ?_;rintro e w2 ⟨rfl,hr2,hf2⟩;have HR2 := Xi hr2;have HF2 := Xi hf2;have HS2 := Xi (HS.out w2 hr2);clear hr2 hf2;go_wp2_with fail;refine HS2.out.mono ?_;rintro e w3 ⟨rfl,n,rfl⟩;go_wp2_with fail;go_ret;exact ⟨rfl,HR2.out,fb HF2.out (Fr.drewN _ _ _)⟩
/-- the rest of a quoted part by the reader's ways -/
theorem QhY (r : Bs) : (∃ q r',QbK r = some (q,r') ∧ r.takeWhile (Qbb [34]) = q ∧ r.dropWhile (Qbb [34]) = 34 :: r') ∨ (QbK r = none ∧ r.dropWhile (Qbb [34]) = []) := by
 induction r with
 | nil => exact .inr ⟨rfl,rfl⟩
 | cons c r ih =>
  by_cases hc : c = 34
  ·subst hc;refine .inl ⟨[],r,by simp [QbK],?_,?_⟩ <;> rfl
  ·have hl : Qbb [34] c = true := by
    show (!List.contains [34] c) = true;rw [Qk0];simpa using hc
   obtain ⟨e1,e2⟩ := QeS (l := r) hl;rw [e1,e2];rcases ih with ⟨q,r',h1,h2,h3⟩ | ⟨h1,h2⟩
   ·exact .inl ⟨c :: q,r',by rw [QbK,if_neg hc,h1]; rfl,by rw [h2],h3⟩
   ·exact .inr ⟨by rw [QbK,if_neg hc,h1]; rfl,h2⟩
/-- a quoted part that has an end -/
theorem QkQ (w : World) (b p : Nat) (s : ByteArray) (r q r' : Bs) (h : RdAt w b s p (34 :: r)) (hz : s.size ≤ 1000000) (hq : QbK r = some (q,r')) :
  Calls Tryz.prog 139 #[ptrV b] w fun e w' => e = .returned (.tuple #[strV q,.bool true]) ∧ RdAt w' b s (p + q.length + 2) r' ∧ Fr w w' (· = b) := by
 obtain ⟨ht,hr⟩ : r.takeWhile (Qbb [34]) = q ∧ r.dropWhile (Qbb [34]) = 34 :: r' := by
  rcases QhY r with ⟨q2,r2,h1,h2,h3⟩ | ⟨h1,-⟩
  ·rw [hq] at h1;injection h1 with h1;injection h1 with h1 h4;subst h1 h4;exact ⟨h2,h3⟩
  ·rw [hq] at h1;cases h1
 have hlen := h.len;have hlr : r.length = q.length + (r'.length + 1) := by
  have := QlT (Qbb [34]) r;rw [ht,hr] at this;rw [this];simp
 obtain ⟨hlt,-,hd⟩ := QaS h.2.1;have c1 := Qaa h.2.2 1;simp at c1;have f1 := Qac h.2.2 1;have H0 := Xi h;have H1 := Xi (show RdAt (w.setCell ⟨b,1,none⟩ (.int .i64 ((p : Int) + 1))) b s (p + 1) r from ⟨by omega,hd,Blk.put' h.2.2 1 _ (by simp)⟩);have HT := Xi (Qer [34] _ b (p + 1) s r H1.out hz q (34 :: r') ht hr);have HS := Xi (fun W h => Qfi [34] W b (p + 1 + q.length) s (34 :: r') h hz true rfl);have HL := Xi hlr;have HN := Xi hlen;clear h ht hr hq hd hlr hlen;go_enter func139,ntmps139;go_wp2_with fail;refine HT.out.mono ?_;rintro e w2 ⟨rfl,hr2,hf2⟩;have HR2 := Xi hr2;have HF2 := Xi (fb (Qdj w b 1 (.int .i64 ((p : Int) + 1))) hf2);have HS2 := Xi (HS.out w2 hr2);have c2 := Qaa hr2.2.2 1;simp at c2;have f2 := Qac hr2.2.2 1;have k1 : (0 : Int) ≤ (p : Int) + 1 + (q.length : Int) := by omega
 have k2 : (p : Int) + 1 + (q.length : Int) ≤ 1000000 := by have := HN.out; have := HL.out; simp at *; omega
 clear hr2 hf2;go_wp2_with fail;refine HS2.out.mono ?_;rintro e w3 ⟨rfl,n,rfl⟩;go_wp2_with fail
 go_ret2
 obtain ⟨-,-,hd2⟩ := QaS HR2.out.2.1;have hN := HN.out;have hL := HL.out;simp at hN;refine ⟨rfl,⟨by omega,by rw [← hd2]; congr 1; omega,Blk.put' (HR2.out.2.2 : Blk (w2.drewN _) b _ _) 1 _ (by simp; omega)⟩,fb HF2.out (fb (Fr.drewN _ _ _) (Qdj _ _ _ _))⟩
/-- one that has none -/
theorem QkR (w : World) (b p : Nat) (s : ByteArray) (r : Bs) (h : RdAt w b s p (34 :: r)) (hz : s.size ≤ 1000000) (hq : QbK r = none) :
  Calls Tryz.prog 139 #[ptrV b] w fun e w' => e = .returned (.tuple #[strV [],.bool false]) ∧ RdAt w' b s p (34 :: r) ∧ Fr w w' (· = b) := by
 obtain ⟨t,ht⟩ : ∃ t,r.takeWhile (Qbb [34]) = t := ⟨_,rfl⟩;have hr : r.dropWhile (Qbb [34]) = [] := by
  rcases QhY r with ⟨q2,r2,h1,h2,h3⟩ | ⟨-,h2⟩
  ·rw [hq] at h1;cases h1
  ·exact h2
 have hlen := h.len;obtain ⟨hlt,-,hd⟩ := QaS h.2.1;have c1 := Qaa h.2.2 1;simp at c1;have f1 := Qac h.2.2 1;have H0 := Xi h;have H1 := Xi (show RdAt (w.setCell ⟨b,1,none⟩ (.int .i64 ((p : Int) + 1))) b s (p + 1) r from ⟨by omega,hd,Blk.put' h.2.2 1 _ (by simp)⟩);have HT := Xi (Qer [34] _ b (p + 1) s r H1.out hz t [] ht hr);have HS := Xi (fun W h => Qfi [34] W b (p + 1 + t.length) s [] h hz false rfl);clear h ht hr hq hd hlen;go_enter func139,ntmps139;go_wp2_with fail;refine HT.out.mono ?_;rintro e w2 ⟨rfl,hr2,hf2⟩;have HR2 := Xi hr2;have HF2 := Xi (fb (Qdj w b 1 (.int .i64 ((p : Int) + 1))) hf2);have HS2 := Xi (HS.out w2 hr2);have c2 := Qaa hr2.2.2 1;simp at c2;have f2 := Qac hr2.2.2 1;clear hr2 hf2;go_wp2_with fail;refine HS2.out.mono ?_;rintro e w3 ⟨rfl,n,rfl⟩;go_wp2_with fail
 go_ret2
 refine ⟨rfl,⟨H0.out.1,H0.out.2.1,Blk.put' (HR2.out.2.2 : Blk (w2.drewN _) b _ _) 1 _ (by simp)⟩,fb HF2.out (fb (Fr.drewN _ _ _) (Qdj _ _ _ _))⟩
end Go.Proofs.YtodcnbejnchmhaaGreatDoor.S7
