import Derived.Test.YtlfjknndkjgciaaGreatDoorYd11
namespace Go.Proofs.YtlfjknndkjgciaaGreatDoor.S7
open _root_.Go.Proofs.Tryz
open Go.RowKit Go.Mem Go.Lxr

/-- block b is a reader of s at the place p,with l still to read -/
def RdAt (w : World) (b : Nat) (s : ByteArray) (p : Nat) (l : Bs) : Prop := p ≤ s.size ∧ s.data.toList.drop p = l ∧ Blk w b 110 #[.string s,.int .i64 (p : Int)]
theorem RdAt.fr {w w' : World} {b p : Nat} {s : ByteArray} {l : Bs} {S : Nat → Prop} (h : RdAt w b s p l) (hf : Fr w w' S) (hs : ¬ S b) : RdAt w' b s p l := ⟨h.1,h.2.1,hf.blk h.2.2 hs⟩
theorem RdAt.lt {w : World} {b p : Nat} {s : ByteArray} {l : Bs} (h : RdAt w b s p l) : b < w.heap.size := h.2.2.lt
theorem RdAt.len {w : World} {b p : Nat} {s : ByteArray} {l : Bs} (h : RdAt w b s p l) : p + l.length = s.size := by
 have hl : s.data.toList.length = s.size := Qag s;have h1 := h.1;have : l.length = s.size - p := by rw [← h.2.1,List.length_drop,hl]
 omega
theorem Qa7 {s : ByteArray} {a : Nat} {c : UInt8} {l : Bs} (h : s.data.toList.drop a = c :: l) : ∃ hs : a < s.size,s[a] = c ∧ s.data.toList.drop (a + 1) = l := by
 have hl : s.data.toList.length = s.size := Qag s;have hs : a < s.size := by
  rw [← hl];rcases Nat.lt_or_ge a s.data.toList.length with h1 | h1
  ·exact h1
  ·rw [List.drop_eq_nil_of_le h1] at h;cases h
 refine ⟨hs,?_,?_⟩
 ·rw [List.drop_eq_getElem_cons (by rw [hl]; exact hs)] at h;have := (List.cons.inj h).1;rw [← this];rfl
 ·rw [List.drop_eq_getElem_cons (by rw [hl]; exact hs)] at h;exact (List.cons.inj h).2
/-- an extract of a text as a list -/
theorem Qb7 {s : ByteArray} {a e : Nat} {l t r : Bs} (h : s.data.toList.drop a = l) (hl : l = t ++ r) (he : e = a + t.length) : s.extract a e = ⟨t.toArray⟩ := by
 apply ByteArray.ext;apply Array.toList_inj.1;subst he;simp [List.extract,h,hl]
theorem QpY (c : UInt8) : (c.toNat : Int) < 256 := by have := c.toNat_lt; omega
abbrev hasV (S : Bs) : Value := .func (.func 81) #[strV S] #[]
abbrev lacksV (S : Bs) : Value := .func (.func 83) #[strV S] #[]
abbrev ptrV (b : Nat) : Value := .pointer (some ⟨b,0,none⟩)
abbrev hasF (S : Bs) (c : UInt8) : Bool := S.contains c
abbrev Qbr (S : Bs) (c : UInt8) : Bool := !S.contains c
/-- is the next byte such a one? -/
def Qkv (f : UInt8 → Bool) : Bs → Bool
 | [] => false
 | c :: _ => f c
theorem Qfn {f : UInt8 → Bool} {c : UInt8} {l : Bs} (h : f c = true) : (c :: l).takeWhile f = c :: l.takeWhile f ∧ (c :: l).dropWhile f = l.dropWhile f := by simp [h]
theorem Qga {f : UInt8 → Bool} {l : Bs} (h : Qkv f l = false) : l.takeWhile f = [] ∧ l.dropWhile f = l := by
 cases l with
 | nil => exact ⟨rfl,rfl⟩
 | cons c l =>
  have h : f c = false := h;simp [h]
theorem QlM (f : UInt8 → Bool) (l : Bs) : l = l.takeWhile f ++ l.dropWhile f := List.takeWhile_append_dropWhile.symm

theorem QfQ (S : Bs) (w : World) (b p : Nat) (s : ByteArray) (l : Bs) (h : RdAt w b s p l) (_hz : s.size ≤ 1000000) (x : Bool) (hx : Qkv (hasF S) l = x) :
  Calls Tryz.prog 82 #[ptrV b,hasV S] w fun e w' => e = .returned (.bool x) ∧ ∃ n,w' = w.drewN n := by
 have hlen := h.len;obtain ⟨h0,hd,hb⟩ := h;have c0 := Qaa hb 0;have c1 := Qaa hb 1;simp at c0 c1;cases l with
 | nil =>
  have hx : x = false := hx.symm;subst hx;have h1 : decide (p < s.size) = false := by simp at hlen; rw [decide_eq_false_iff_not]; omega
  clear hd hb hlen;go_enter func82,ntmps82;go_wp2_with fail
  go_quiet (fail)
  go_wp2_with fail;go_ret;exact ⟨rfl,_,rfl⟩
 | cons c r =>
  obtain ⟨hlt,hc,-⟩ := Qa7 hd;have h1 : decide (p < s.size) = true := by rw [decide_eq_true_iff]; exact hlt
  have h2 : (0 : Int) ≤ (p : Int) := by omega
  have h3 : (p : Int) < (s.size : Int) := by omega
  have HH := Xi (fun W => Qpy S c W x hx);rw [← hc] at HH;clear hd hb hlen hx hc;go_enter func82,ntmps82;go_wp2_with fail
  go_quiet ((go_at_call 81; exact Calls.quiet_of ((HH.out _).mono (fun e w' h => ⟨h.1,0,h.2.symm⟩))))
  go_wp2_with fail;go_ret;exact ⟨rfl,_,rfl⟩

theorem Qid (S : Bs) (w : World) (b p : Nat) (s : ByteArray) (l : Bs) (h : RdAt w b s p l) (_hz : s.size ≤ 1000000) (x : Bool) (hx : Qkv (Qbr S) l = x) :
  Calls Tryz.prog 82 #[ptrV b,lacksV S] w fun e w' => e = .returned (.bool x) ∧ ∃ n,w' = w.drewN n := by
 have hlen := h.len;obtain ⟨h0,hd,hb⟩ := h;have c0 := Qaa hb 0;have c1 := Qaa hb 1;simp at c0 c1;cases l with
 | nil =>
  have hx : x = false := hx.symm;subst hx;have h1 : decide (p < s.size) = false := by simp at hlen; rw [decide_eq_false_iff_not]; omega
  clear hd hb hlen;go_enter func82,ntmps82;go_wp2_with fail
  go_quiet (fail)
  go_wp2_with fail;go_ret;exact ⟨rfl,_,rfl⟩
 | cons c r =>
  obtain ⟨hlt,hc,-⟩ := Qa7 hd;have h1 : decide (p < s.size) = true := by rw [decide_eq_true_iff]; exact hlt
  have h2 : (0 : Int) ≤ (p : Int) := by omega
  have h3 : (p : Int) < (s.size : Int) := by omega
  have HH := Xi (fun W => Qpk S c W x hx);rw [← hc] at HH;clear hd hb hlen hx hc;go_enter func82,ntmps82;go_wp2_with fail
  go_quiet ((go_at_call 83; exact Calls.quiet_of ((HH.out _).mono (fun e w' h => ⟨h.1,0,h.2.symm⟩))))
  go_wp2_with fail;go_ret;exact ⟨rfl,_,rfl⟩

def TInv (f : UInt8 → Bool) (w : World) (b : Nat) (s : ByteArray) (p : Nat) (l t r : Bs) (g : Nat) (wr : World) : Prop :=
 ∃ t1 m,l = t1 ++ m ∧ m.length = g ∧ RdAt wr b s (p + t1.length) m ∧ t = t1 ++ m.takeWhile f ∧ m.dropWhile f = r ∧ Fr w wr (· = b)

theorem take_has (S : Bs) (w : World) (b p : Nat) (s : ByteArray) (l : Bs) (h : RdAt w b s p l) (hz : s.size ≤ 1000000) (t r : Bs) (ht : l.takeWhile (hasF S) = t) (hr : l.dropWhile (hasF S) = r) :
  Calls Tryz.prog 80 #[ptrV b,hasV S] w fun e w' => e = .returned (strV t) ∧ RdAt w' b s (p + t.length) r ∧ Fr w w' (· = b) := by
 have H0 := Xi h;have c1 := Qaa h.2.2 1;simp at c1;have HS := Xi (fun W q m h x hx => QfQ S W b q s m h hz x hx);have HT := Xi ht;have HR := Xi hr;clear h ht hr;go_enter func80,ntmps80;go_wp2_with fail
 go_loopg [] l.length (fun g wr => TInv (hasF S) w b s p l t r g wr)
 case atStart => exact ⟨[],l,rfl,rfl,by simpa using H0.out,by rw [HT.out]; rfl,HR.out,Fr.refl _ _⟩
 case round =>
  obtain ⟨t1,m,hl1,hg1,hr1,ht1,hm1,hf1⟩ := hrel;have hlen := hr1.len;have hlen0 := H0.out.len;have c0' := Qaa hr1.2.2 0;have c1' := Qaa hr1.2.2 1;simp at c0' c1';have f1 := Qac hr1.2.2 1;have HR1 := Xi hr1;have HF1 := Xi hf1;obtain ⟨x,hx⟩ : ∃ x,Qkv (hasF S) m = x := ⟨_,rfl⟩;have HSE := Xi (HS.out wr _ m hr1 x hx);clear hr1 hf1;cases x with
  | true =>
   cases m with
   | nil => cases hx
   | cons c m =>
    have hx : hasF S c = true := hx;obtain ⟨e1,e2⟩ := Qfn (l := m) hx;rw [e1] at ht1;rw [e2] at hm1;obtain ⟨hlt,-,hd'⟩ := Qa7 HR1.out.2.1;have HD := Xi hd';have HT1 := Xi ht1;have HM1 := Xi hm1;have HL1 := Xi hl1;have HG1 := Xi hg1;clear hx e1 e2 ht1 hm1 hd' hl1 hg1 hlen;go_wp2_with fail;refine HSE.out.mono ?_;rintro e w2 ⟨rfl,n,rfl⟩;go_wp2_with fail
    go_roundg m.length
    case measure => have := HG1.out; simp at this; omega
    case rel => exact ⟨t1 ++ [c],m,by rw [HL1.out]; simp,rfl,⟨by simp; omega,by rw [← HD.out]; simp [Nat.add_assoc],Blk.put' (HR1.out.2.2 : Blk (wr.drewN _) b _ _) 1 _ (by simp; omega)⟩,by rw [HT1.out]; simp,HM1.out,fb HF1.out (fb (Fr.drewN _ _ _) (QdI _ _ _ _))⟩
  | false =>
   obtain ⟨e1,e2⟩ := Qga hx;rw [e1] at ht1;rw [e2] at hm1;simp at ht1;subst ht1 hm1;obtain ⟨q,hq⟩ : ∃ q : Nat,q = p + t.length := ⟨_,rfl⟩;rw [show (p : Int) + (t.length : Int) = (q : Int) by omega] at c1';have i0 : (0 : Int) ≤ (p : Int) := by omega
   have i1 : (p : Int) ≤ (q : Int) := by omega
   have i2 : (q : Int) ≤ (s.size : Int) := by omega
   have HE := Xi (show Value.string (s.extract p q) = strV t by rw [Qb7 H0.out.2.1 hl1 hq]);clear hq hlen hlen0;clear hx e1 e2 hl1 hg1;go_wp2_with fail;refine HSE.out.mono ?_;rintro e w2 ⟨rfl,n,rfl⟩;go_wp2_with fail
   go_quiet (fail)
   go_wp2_with fail;go_ret;exact ⟨by rw [← HE.out]; rfl,HR1.out,fb HF1.out (fb (Fr.drewN _ _ _) (Fr.drewN _ _ _))⟩

theorem Qe5 (S : Bs) (w : World) (b p : Nat) (s : ByteArray) (l : Bs) (h : RdAt w b s p l) (hz : s.size ≤ 1000000) (t r : Bs) (ht : l.takeWhile (Qbr S) = t) (hr : l.dropWhile (Qbr S) = r) :
  Calls Tryz.prog 80 #[ptrV b,lacksV S] w fun e w' => e = .returned (strV t) ∧ RdAt w' b s (p + t.length) r ∧ Fr w w' (· = b) := by
 have H0 := Xi h;have c1 := Qaa h.2.2 1;simp at c1;have HS := Xi (fun W q m h x hx => Qid S W b q s m h hz x hx);have HT := Xi ht;have HR := Xi hr;clear h ht hr;go_enter func80,ntmps80;go_wp2_with fail
 go_loopg [] l.length (fun g wr => TInv (Qbr S) w b s p l t r g wr)
 case atStart => exact ⟨[],l,rfl,rfl,by simpa using H0.out,by rw [HT.out]; rfl,HR.out,Fr.refl _ _⟩
 case round =>
  obtain ⟨t1,m,hl1,hg1,hr1,ht1,hm1,hf1⟩ := hrel;have hlen := hr1.len;have hlen0 := H0.out.len;have c0' := Qaa hr1.2.2 0;have c1' := Qaa hr1.2.2 1;simp at c0' c1';have f1 := Qac hr1.2.2 1;have HR1 := Xi hr1;have HF1 := Xi hf1;obtain ⟨x,hx⟩ : ∃ x,Qkv (Qbr S) m = x := ⟨_,rfl⟩;have HSE := Xi (HS.out wr _ m hr1 x hx);clear hr1 hf1;cases x with
  | true =>
   cases m with
   | nil => cases hx
   | cons c m =>
    have hx : Qbr S c = true := hx;obtain ⟨e1,e2⟩ := Qfn (l := m) hx;rw [e1] at ht1;rw [e2] at hm1;obtain ⟨hlt,-,hd'⟩ := Qa7 HR1.out.2.1;have HD := Xi hd';have HT1 := Xi ht1;have HM1 := Xi hm1;have HL1 := Xi hl1;have HG1 := Xi hg1;clear hx e1 e2 ht1 hm1 hd' hl1 hg1 hlen;go_wp2_with fail;refine HSE.out.mono ?_;rintro e w2 ⟨rfl,n,rfl⟩;go_wp2_with fail
    go_roundg m.length
    case measure => have := HG1.out; simp at this; omega
    case rel => exact ⟨t1 ++ [c],m,by rw [HL1.out]; simp,rfl,⟨by simp; omega,by rw [← HD.out]; simp [Nat.add_assoc],Blk.put' (HR1.out.2.2 : Blk (wr.drewN _) b _ _) 1 _ (by simp; omega)⟩,by rw [HT1.out]; simp,HM1.out,fb HF1.out (fb (Fr.drewN _ _ _) (QdI _ _ _ _))⟩
  | false =>
   obtain ⟨e1,e2⟩ := Qga hx;rw [e1] at ht1;rw [e2] at hm1;simp at ht1;subst ht1 hm1;obtain ⟨q,hq⟩ : ∃ q : Nat,q = p + t.length := ⟨_,rfl⟩;rw [show (p : Int) + (t.length : Int) = (q : Int) by omega] at c1';have i0 : (0 : Int) ≤ (p : Int) := by omega
   have i1 : (p : Int) ≤ (q : Int) := by omega
   have i2 : (q : Int) ≤ (s.size : Int) := by omega
   have HE := Xi (show Value.string (s.extract p q) = strV t by rw [Qb7 H0.out.2.1 hl1 hq]);clear hq hlen hlen0;clear hx e1 e2 hl1 hg1;go_wp2_with fail;refine HSE.out.mono ?_;rintro e w2 ⟨rfl,n,rfl⟩;go_wp2_with fail
   go_quiet (fail)
   go_wp2_with fail;go_ret;exact ⟨by rw [← HE.out]; rfl,HR1.out,fb HF1.out (fb (Fr.drewN _ _ _) (Fr.drewN _ _ _))⟩
abbrev QcB : Bs := [9,10,11,12,13,32]
abbrev Qb6 : Bs := [9,10,11,12,13,32,35,34]
theorem Qjn (c : UInt8) : QcB.contains c = Qdr c := by
 have h : ∀ k : Fin 256,QcB.contains (UInt8.ofNat k.val) = Qdr (UInt8.ofNat k.val) := by decide +kernel
 have := h ⟨c.toNat,c.toNat_lt⟩;simpa using this
theorem QjS (c : UInt8) : Qb6.contains c = (Qci c || c == 34) := by
 have h : ∀ k : Fin 256,Qb6.contains (UInt8.ofNat k.val) = (Qci (UInt8.ofNat k.val) || UInt8.ofNat k.val == 34) := by decide +kernel
 have := h ⟨c.toNat,c.toNat_lt⟩;simpa using this
theorem Qk1 (d c : UInt8) : List.contains [d] c = (c == d) := by
 show (match c == d with | true => true | false => List.elem c []) = _;cases c == d <;> rfl
/-- does a field begin? -/
def QiK : Bs → Bool
 | [] => false
 | c :: _ => !(c == 35)
theorem Qkn (l : Bs) : Qkv (Qbr [35]) l = QiK l := by
 cases l with
 | nil => rfl
 | cons c l => show (!List.contains [35] c) = _; rw [Qk1]; rfl
theorem Qfe (w : World) (b p : Nat) (s : ByteArray) (l : Bs) (h : RdAt w b s p l) (hz : s.size ≤ 1000000) (t r : Bs) (ht : l.takeWhile (hasF QcB) = t) (hr : l.dropWhile (hasF QcB) = r) (x : Bool) (hx : QiK r = x) :
  Calls Tryz.prog 56 #[ptrV b] w fun e w' => e = .returned (.bool x) ∧ RdAt w' b s (p + t.length) r ∧ Fr w w' (· = b) := by
 have HT := Xi (take_has QcB w b p s l h hz t r ht hr);have HS := Xi (fun W h => Qid [35] W b (p + t.length) s r h hz x (by rw [Qkn]; exact hx));clear h ht hr hx;go_enter func56,ntmps56;go_wp2_with fail;refine HT.out.mono ?_;rintro e w2 ⟨rfl,hr2,hf2⟩;have HR2 := Xi hr2;have HF2 := Xi hf2;have HS2 := Xi (HS.out w2 hr2);clear hr2 hf2;go_wp2_with fail;refine HS2.out.mono ?_;rintro e w3 ⟨rfl,n,rfl⟩;go_wp2_with fail;go_ret;exact ⟨rfl,HR2.out,fb HF2.out (Fr.drewN _ _ _)⟩
/-- the rest of a quoted part by the reader's ways -/
theorem Qii (r : Bs) : (∃ q r',QbK r = some (q,r') ∧ r.takeWhile (Qbr [34]) = q ∧ r.dropWhile (Qbr [34]) = 34 :: r') ∨ (QbK r = none ∧ r.dropWhile (Qbr [34]) = []) := by
 induction r with
 | nil => exact .inr ⟨rfl,rfl⟩
 | cons c r ih =>
  by_cases hc : c = 34
  ·subst hc;refine .inl ⟨[],r,by simp [QbK],?_,?_⟩ <;> rfl
  ·have hl : Qbr [34] c = true := by
    show (!List.contains [34] c) = true;rw [Qk1];simpa using hc
   obtain ⟨e1,e2⟩ := Qfn (l := r) hl;rw [e1,e2];rcases ih with ⟨q,r',h1,h2,h3⟩ | ⟨h1,h2⟩
   ·exact .inl ⟨c :: q,r',by rw [QbK,if_neg hc,h1]; rfl,by rw [h2],h3⟩
   ·exact .inr ⟨by rw [QbK,if_neg hc,h1]; rfl,h2⟩
/-- a quoted part that has an end -/
theorem QkQ (w : World) (b p : Nat) (s : ByteArray) (r q r' : Bs) (h : RdAt w b s p (34 :: r)) (hz : s.size ≤ 1000000) (hq : QbK r = some (q,r')) :
  Calls Tryz.prog 84 #[ptrV b] w fun e w' => e = .returned (.tuple #[strV q,.bool true]) ∧ RdAt w' b s (p + q.length + 2) r' ∧ Fr w w' (· = b) := by
 obtain ⟨ht,hr⟩ : r.takeWhile (Qbr [34]) = q ∧ r.dropWhile (Qbr [34]) = 34 :: r' := by
  rcases Qii r with ⟨q2,r2,h1,h2,h3⟩ | ⟨h1,-⟩
  ·rw [hq] at h1;injection h1 with h1;injection h1 with h1 h4;subst h1 h4;exact ⟨h2,h3⟩
  ·rw [hq] at h1;cases h1
 have hlen := h.len;have hlr : r.length = q.length + (r'.length + 1) := by
  have := QlM (Qbr [34]) r;rw [ht,hr] at this;rw [this];simp
 obtain ⟨hlt,-,hd⟩ := Qa7 h.2.1;have c1 := Qaa h.2.2 1;simp at c1;have f1 := Qac h.2.2 1;have H0 := Xi h;have H1 := Xi (show RdAt (w.setCell ⟨b,1,none⟩ (.int .i64 ((p : Int) + 1))) b s (p + 1) r from ⟨by omega,hd,Blk.put' h.2.2 1 _ (by simp)⟩);have HT := Xi (Qe5 [34] _ b (p + 1) s r H1.out hz q (34 :: r') ht hr);have HS := Xi (fun W h => QfQ [34] W b (p + 1 + q.length) s (34 :: r') h hz true rfl);have HL := Xi hlr;have HN := Xi hlen;clear h ht hr hq hd hlr hlen;go_enter func84,ntmps84;go_wp2_with fail;refine HT.out.mono ?_;rintro e w2 ⟨rfl,hr2,hf2⟩;have HR2 := Xi hr2;have HF2 := Xi (fb (QdI w b 1 (.int .i64 ((p : Int) + 1))) hf2);have HS2 := Xi (HS.out w2 hr2);have c2 := Qaa hr2.2.2 1;simp at c2;have f2 := Qac hr2.2.2 1;have k1 : (0 : Int) ≤ (p : Int) + 1 + (q.length : Int) := by omega
 have k2 : (p : Int) + 1 + (q.length : Int) ≤ 1000000 := by have := HN.out; have := HL.out; simp at *; omega
 clear hr2 hf2;go_wp2_with fail;refine HS2.out.mono ?_;rintro e w3 ⟨rfl,n,rfl⟩;go_wp2_with fail
 go_ret2
 obtain ⟨-,-,hd2⟩ := Qa7 HR2.out.2.1;have hN := HN.out;have hL := HL.out;simp at hN;refine ⟨rfl,⟨by omega,by rw [← hd2]; congr 1; omega,Blk.put' (HR2.out.2.2 : Blk (w2.drewN _) b _ _) 1 _ (by simp; omega)⟩,fb HF2.out (fb (Fr.drewN _ _ _) (QdI _ _ _ _))⟩
/-- one that has none -/
theorem QkR (w : World) (b p : Nat) (s : ByteArray) (r : Bs) (h : RdAt w b s p (34 :: r)) (hz : s.size ≤ 1000000) (hq : QbK r = none) :
  Calls Tryz.prog 84 #[ptrV b] w fun e w' => e = .returned (.tuple #[strV [],.bool false]) ∧ RdAt w' b s p (34 :: r) ∧ Fr w w' (· = b) := by
 obtain ⟨t,ht⟩ : ∃ t,r.takeWhile (Qbr [34]) = t := ⟨_,rfl⟩;have hr : r.dropWhile (Qbr [34]) = [] := by
  rcases Qii r with ⟨q2,r2,h1,h2,h3⟩ | ⟨-,h2⟩
  ·rw [hq] at h1;cases h1
  ·exact h2
 have hlen := h.len;obtain ⟨hlt,-,hd⟩ := Qa7 h.2.1;have c1 := Qaa h.2.2 1;simp at c1;have f1 := Qac h.2.2 1;have H0 := Xi h;have H1 := Xi (show RdAt (w.setCell ⟨b,1,none⟩ (.int .i64 ((p : Int) + 1))) b s (p + 1) r from ⟨by omega,hd,Blk.put' h.2.2 1 _ (by simp)⟩);have HT := Xi (Qe5 [34] _ b (p + 1) s r H1.out hz t [] ht hr);have HS := Xi (fun W h => QfQ [34] W b (p + 1 + t.length) s [] h hz false rfl);clear h ht hr hq hd hlen;go_enter func84,ntmps84;go_wp2_with fail;refine HT.out.mono ?_;rintro e w2 ⟨rfl,hr2,hf2⟩;have HR2 := Xi hr2;have HF2 := Xi (fb (QdI w b 1 (.int .i64 ((p : Int) + 1))) hf2);have HS2 := Xi (HS.out w2 hr2);have c2 := Qaa hr2.2.2 1;simp at c2;have f2 := Qac hr2.2.2 1;clear hr2 hf2;go_wp2_with fail;refine HS2.out.mono ?_;rintro e w3 ⟨rfl,n,rfl⟩;go_wp2_with fail
 go_ret2
 refine ⟨rfl,⟨H0.out.1,H0.out.2.1,Blk.put' (HR2.out.2.2 : Blk (w2.drewN _) b _ _) 1 _ (by simp)⟩,fb HF2.out (fb (Fr.drewN _ _ _) (QdI _ _ _ _))⟩
end Go.Proofs.YtlfjknndkjgciaaGreatDoor.S7
