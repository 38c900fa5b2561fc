import Derived.Test.YtodcnbejnchmhaaGreatDoorProg
import Derived.Test.YtodcnbejnchmhaaGreatDoorYc10
import Derived.Test.YtodcnbejnchmhaaGreatDoorYc01
import Derived.BigQuiet
import Derived.Deep.QuietTactic
import Derived.WalkLawsBesides
import Derived.IntWalk
import Derived.Lib.Hide
import Derived.Tactics2
import Derived.Deep.LoopGhost
set_option maxHeartbeats 800000
namespace Go.Proofs.YtodcnbejnchmhaaGreatDoor.S5
open _root_.Go.Proofs.Tryz
open Go.RowKit Go.Mem Go.Clk

abbrev strV (l : Bs) : Value := .string ⟨l.toArray⟩
theorem Qlj : (Tryz.prog.info? 5).map (fun i => (i.zero,i.size,i.bytes)) = some (some (.int .u8 0),1,1) := by kernel_rfl
theorem QnL : (Tryz.prog.info? 9).map (fun i => (i.zero,i.size,i.bytes)) = some (some (.string ⟨#[]⟩),1,16) := by kernel_rfl
theorem Qal (l : Bs) : (⟨l.toArray⟩ : ByteArray).size = l.length := by show l.toArray.size = _; simp
theorem Qag (s : ByteArray) : s.data.toList.length = s.size := by rw [Array.length_toList]; rfl
theorem QeU (s : ByteArray) : Value.string s = strV s.data.toList := by
 show Value.string s = .string ⟨s.data.toList.toArray⟩;congr
theorem QbZ {P : Program} (w : World) (a b : Bs) (h : a.length + b.length ≤ 1000000) : (Op.stringOp .add ⟨a.toArray⟩ ⟨b.toArray⟩).run P w = .ok (strV (a ++ b)) w := by
 rw [run_string_add_sum w _ _ (by show a.toArray.size + b.toArray.size ≤ _; simp; omega)];show Result.ok (Value.string ((⟨a.toArray⟩ : ByteArray) ++ ⟨b.toArray⟩)) w = .ok (.string ⟨(a ++ b).toArray⟩) w;congr 2
theorem ff {a c d : World} (h : Fr a c (fun _ => False)) (h2 : Fr c d (fun _ => False)) : Fr a d (fun _ => False) := h.trans h2 (fun _ _ h => h) (fun _ _ h => h)
theorem fd {a b : World} (h : Fr a b (fun _ => False)) (n : Nat) : Fr a (b.drewN n) (fun _ => False) := ff h (Fr.drewN _ _ _)
theorem fb {a c d : World} {b : Nat} (h : Fr a c (· = b)) (h2 : Fr c d (· = b)) : Fr a d (· = b) := h.trans h2 (fun _ _ h => h) (fun _ _ h => h)
theorem fbn {a d : World} {b n : Nat} (h : Fr (a.drewN n) d (· = b)) : Fr a d (· = b) := fb (Fr.drewN _ _ _) h

/-- block b is a reader of s that has l still to read -/
def RdAt (w : World) (b : Nat) (s : ByteArray) (l : Bs) : Prop := ∃ a : Nat,a ≤ s.size ∧ s.data.toList.drop a = l ∧ Blk w b 262 #[.string s,.int .i64 (a : Int)]
theorem RdAt.fr {w w' : World} {b : Nat} {s : ByteArray} {l : Bs} {S : Nat → Prop} (h : RdAt w b s l) (hf : Fr w w' S) (hs : ¬ S b) : RdAt w' b s l := by
 obtain ⟨a,h1,h2,h3⟩ := h;exact ⟨a,h1,h2,hf.blk h3 hs⟩
theorem RdAt.lt {w : World} {b : Nat} {s : ByteArray} {l : Bs} (h : RdAt w b s l) : b < w.heap.size := by
 obtain ⟨a,h1,h2,h3⟩ := h;exact h3.lt
theorem QnY {s : ByteArray} {a : Nat} (ha : a ≤ s.size) {l : Bs} (h : s.data.toList.drop a = l) : (l = [] ↔ a = s.size) ∧ l.length = s.size - a := by
 have hl : s.data.toList.length = s.size := Qag s;have : l.length = s.size - a := by rw [← h,List.length_drop,hl]
 refine ⟨?_,this⟩;rw [← List.length_eq_zero_iff];omega
theorem QaS {s : ByteArray} {a : Nat} {c : UInt8} {l : Bs} (h : s.data.toList.drop a = c :: l) : ∃ hs : a < s.size,s[a] = c ∧ s.data.toList.drop (a + 1) = l := by
 have hl : s.data.toList.length = s.size := Qag s;have hs : a < s.size := by
  rw [← hl];rcases Nat.lt_or_ge a s.data.toList.length with h1 | h1
  ·exact h1
  ·rw [List.drop_eq_nil_of_le h1] at h;cases h
 refine ⟨hs,?_,?_⟩
 ·rw [List.drop_eq_getElem_cons (by rw [hl]; exact hs)] at h;have := (List.cons.inj h).1;rw [← this];rfl
 ·rw [List.drop_eq_getElem_cons (by rw [hl]; exact hs)] at h;exact (List.cons.inj h).2

theorem Qcy (w : World) (b : Nat) (s : ByteArray) (l : Bs) (x : Bool) (h : RdAt w b s l) (hx : l.isEmpty = x) (_hz : s.size ≤ 1000000) :
  Calls Tryz.prog 242 #[.pointer (some ⟨b,0,none⟩)] w fun e w' => e = .returned (.bool x) ∧ ∃ n,w' = w.drewN n := by
 obtain ⟨a,ha,hd,hb⟩ := h;obtain ⟨hm,-⟩ := QnY ha hd;have c0 := Qaa hb 0;have c1 := Qaa hb 1;simp at c0 c1;have hx' : ((a : Int) == (s.size : Int)) = x := by
  subst hx;rw [Bool.eq_iff_iff,beq_iff_eq,List.isEmpty_iff,hm];omega
 have HX := Xi hx';clear hx' hm hd hx hb;go_enter func242,ntmps242;go_wp2
 go_quiet (fail)
 go_wp2;go_ret;exact ⟨by rw [← HX.out]; rfl,_,rfl⟩

/-- the panic with BadTime -/
abbrev QcN : Ending := .panicked [{ v := .iface 26 (.int .i64 7),recovered := false }]
/-- what a method of the reader answers -/
def Ran {α : Type} (g : Option (α × Bs)) (V : α → Value) (b : Nat) (s : ByteArray) (w : World) (e : Ending) (w' : World) : Prop :=
 match g with
 | none => e = QcN ∧ Fr w w' (· = b)
 | some (v,r) => e = .returned (V v) ∧ RdAt w' b s r ∧ Fr w w' (· = b)
abbrev natV (n : Nat) : Value := .int .i64 (n : Int)
theorem Qdj (w : World) (b n i : Nat) (v : Value) : Fr w ((w.drewN n).setCell ⟨b,i,none⟩ v) (· = b) :=
 (Fr.drewN w n (· = b)).trans (Fr.set (S := (· = b)) rfl) (fun _ _ h => h) (fun _ _ h => h)

theorem Qmh (w : World) (b : Nat) (s : ByteArray) (c : UInt8) (l : Bs) (h : RdAt w b s (c :: l)) (hz : s.size ≤ 1000000) :
  Calls Tryz.prog 245 #[.pointer (some ⟨b,0,none⟩)] w fun e w' => e = .returned (.int .u8 (c.toNat : Int)) ∧ RdAt w' b s l ∧ Fr w w' (· = b) := by
 obtain ⟨a,ha,hd,hb⟩ := h;obtain ⟨hlt,hc,hd'⟩ := QaS hd;have c0 := Qaa hb 0;have c1 := Qaa hb 1;simp at c0 c1;have h1 : (a : Int) < (s.size : Int) := by omega
 have h2 : (0 : Int) ≤ (a : Int) := by omega
 have f1 := Qac hb 1;have HB := Xi hb;have HC := Xi hc;have HD := Xi hd';clear hd hb hc hd';go_enter func245,ntmps245;go_wp2_with fail
 go_quiet (fail)
 go_wp2_with fail;go_ret;refine ⟨by rw [← HC.out]; rfl,⟨a + 1,by omega,HD.out,?_⟩,?_⟩
 ·exact Blk.put' (HB.out : Blk (w.drewN _) b _ _) 1 _ (by simp)
 ·exact Qdj _ _ _ _ _

theorem Qm0 (w : World) (b : Nat) (s : ByteArray) (d : Int) (h : RdAt w b s []) (hz : s.size ≤ 1000000) :
  Calls Tryz.prog 243 #[.pointer (some ⟨b,0,none⟩),.int .u8 d] w fun e w' => e = .returned (.bool false) ∧ ∃ n,w' = w.drewN n := by
 have HE := Xi (fun W => fun (e : ∃ m,W = w.drewN m) => Qcy W b s [] true (by obtain ⟨m,rfl⟩ := e; exact h) rfl hz);clear h;go_enter func243,ntmps243;go_wp2_with fail
 go_quiet ((go_at_call 242; exact Calls.quiet_of (HE.out _ ⟨_,rfl⟩)))
 go_wp2_with fail;go_ret;exact ⟨rfl,_,rfl⟩
theorem takes_no (w : World) (b : Nat) (s : ByteArray) (c : UInt8) (l : Bs) (d : Int) (h : RdAt w b s (c :: l)) (hx : ((c.toNat : Int) == d) = false) (hz : s.size ≤ 1000000) :
  Calls Tryz.prog 243 #[.pointer (some ⟨b,0,none⟩),.int .u8 d] w fun e w' => e = .returned (.bool false) ∧ ∃ n,w' = w.drewN n := by
 have HE := Xi (fun W => fun (e : ∃ m,W = w.drewN m) => Qcy W b s (c :: l) false (by obtain ⟨m,rfl⟩ := e; exact h) rfl hz);obtain ⟨a,ha,hd,hb⟩ := h;obtain ⟨hlt,hc,-⟩ := QaS hd;have c0 := Qaa hb 0;have c1 := Qaa hb 1;simp at c0 c1;have hx' : ((s[a].toNat : Int) == d) = false := by rw [hc]; exact hx
 have hx2 : ((s[a].toNat : Int) != d) = true := by simp [bne,hx']
 have h1 : (a : Int) < (s.size : Int) := by omega
 have h2 : (0 : Int) ≤ (a : Int) := by omega
 clear hd hx hb hc;go_enter func243,ntmps243;go_wp2_with fail
 go_quiet ((go_at_call 242; exact Calls.quiet_of (HE.out _ ⟨_,rfl⟩)))
 go_wp2_with fail;go_ret;exact ⟨rfl,_,rfl⟩
theorem Qot (w : World) (b : Nat) (s : ByteArray) (c : UInt8) (l : Bs) (d : Int) (h : RdAt w b s (c :: l)) (hx : (c.toNat : Int) = d) (hz : s.size ≤ 1000000) :
  Calls Tryz.prog 243 #[.pointer (some ⟨b,0,none⟩),.int .u8 d] w fun e w' => e = .returned (.bool true) ∧ RdAt w' b s l ∧ Fr w w' (· = b) := by
 have HE := Xi (fun W => fun (e : ∃ m,W = w.drewN m) => Qcy W b s (c :: l) false (by obtain ⟨m,rfl⟩ := e; exact h) rfl hz);obtain ⟨a,ha,hd,hb⟩ := h;obtain ⟨hlt,hc,hd'⟩ := QaS hd;have c0 := Qaa hb 0;have c1 := Qaa hb 1;simp at c0 c1;have hx' : ((s[a].toNat : Int) == d) = true := by rw [hc]; simpa using hx
 have hx2 : ((s[a].toNat : Int) != d) = false := by simp [bne,hx']
 have h1 : (a : Int) < (s.size : Int) := by omega
 have h2 : (0 : Int) ≤ (a : Int) := by omega
 have f1 := Qac hb 1;have HB := Xi hb;have HD := Xi hd';clear hd hx hb hc hd';go_enter func243,ntmps243;go_wp2_with fail
 go_quiet ((go_at_call 242; exact Calls.quiet_of (HE.out _ ⟨_,rfl⟩)))
 go_wp2_with fail;go_ret;refine ⟨rfl,⟨a + 1,by omega,HD.out,?_⟩,?_⟩
 ·exact Blk.put' (HB.out : Blk (w.drewN _) b _ _) 1 _ (by simp)
 ·exact Qdj _ _ _ _ _

theorem Qjl (w : World) (b : Nat) (s : ByteArray) (h : RdAt w b s []) (hz : s.size ≤ 1000000) :
  Calls Tryz.prog 267 #[.pointer (some ⟨b,0,none⟩)] w fun e w' => e = .returned (.bool false) ∧ ∃ n,w' = w.drewN n := by
 have HE := Xi (fun W => fun (e : ∃ m,W = w.drewN m) => Qcy W b s [] true (by obtain ⟨m,rfl⟩ := e; exact h) rfl hz);clear h;go_enter func267,ntmps267;go_wp2_with fail
 go_quiet ((go_at_call 242; exact Calls.quiet_of (HE.out _ ⟨_,rfl⟩)))
 go_wp2_with fail;go_ret;exact ⟨rfl,_,rfl⟩
theorem Qjk (w : World) (b : Nat) (s : ByteArray) (c : UInt8) (l : Bs) (x : Bool) (h : RdAt w b s (c :: l)) (hx : digB c = x) (hz : s.size ≤ 1000000) :
  Calls Tryz.prog 267 #[.pointer (some ⟨b,0,none⟩)] w fun e w' => e = .returned (.bool x) ∧ ∃ n,w' = w.drewN n := by
 have HE := Xi (fun W => fun (e : ∃ m,W = w.drewN m) => Qcy W b s (c :: l) false (by obtain ⟨m,rfl⟩ := e; exact h) rfl hz);obtain ⟨a,ha,hd,hb⟩ := h;obtain ⟨hlt,hc,-⟩ := QaS hd;have c0 := Qaa hb 0;have c1 := Qaa hb 1;simp at c0 c1;have h1 : (a : Int) < (s.size : Int) := by omega
 have h2 : (0 : Int) ≤ (a : Int) := by omega
 by_cases p1 : 48 ≤ c.toNat
 ·have q1 : decide ((48 : Int) ≤ (s[a].toNat : Int)) = true := by rw [hc]; simp; omega
  by_cases p2 : c.toNat ≤ 57
  ·have q2 : decide ((s[a].toNat : Int) ≤ 57) = true := by rw [hc]; simp; omega
   have hf : x = true := by rw [← hx]; exact (QaP c).2 ⟨p1,p2⟩
   subst hf;clear hd hx hb hc p1 p2;go_enter func267,ntmps267;go_wp2_with fail
   go_quiet ((go_at_call 242; exact Calls.quiet_of (HE.out _ ⟨_,rfl⟩)))
   go_wp2_with fail;go_ret;exact ⟨rfl,_,rfl⟩
  ·have q2 : decide ((s[a].toNat : Int) ≤ 57) = false := by rw [hc]; simp; omega
   have hf : x = false := by
    rw [← hx,Bool.eq_false_iff];intro e;exact p2 ((QaP c).1 e).2
   subst hf;clear hd hx hb hc p1 p2;go_enter func267,ntmps267;go_wp2_with fail
   go_quiet ((go_at_call 242; exact Calls.quiet_of (HE.out _ ⟨_,rfl⟩)))
   go_wp2_with fail;go_ret;exact ⟨rfl,_,rfl⟩
 ·have q1 : decide ((48 : Int) ≤ (s[a].toNat : Int)) = false := by rw [hc]; simp; omega
  have hf : x = false := by
   rw [← hx,Bool.eq_false_iff];intro e;exact p1 ((QaP c).1 e).1
  subst hf;clear hd hx hb hc p1;go_enter func267,ntmps267;go_wp2_with fail
  go_quiet ((go_at_call 242; exact Calls.quiet_of (HE.out _ ⟨_,rfl⟩)))
  go_wp2_with fail;go_ret;exact ⟨rfl,_,rfl⟩
theorem u8_dig {c : UInt8} (h : digB c = true) : (c.toNat : Int) - 48 = (dv c : Int) := by
 have := (QaP c).1 h;unfold dv;omega
theorem Qfz (w : World) (b : Nat) (s : ByteArray) (l : Bs) (h : RdAt w b s l) (hz : s.size ≤ 1000000) :
  Calls Tryz.prog 266 #[.pointer (some ⟨b,0,none⟩)] w (Ran (Qb4 l) natV b s w) := by
 cases l with
 | nil =>
  have HS := Xi (Qjl w b s h hz);clear h;go_enter func266,ntmps266;go_wp2_with fail;refine HS.out.mono ?_;rintro e w1 ⟨rfl,n,rfl⟩;go_wp2_with fail;exact ⟨rfl,rfl,Fr.drewN _ _ _⟩
 | cons c r =>
  obtain ⟨x,hx⟩ : ∃ x,digB c = x := ⟨_,rfl⟩;have HS := Xi (Qjk w b s c r x h hx hz);cases x with
  | false =>
   have hd : Qb4 (c :: r) = none := by simp [Qb4,hx]
   rw [hd];clear h hx hd;go_enter func266,ntmps266;go_wp2_with fail;refine HS.out.mono ?_;rintro e w1 ⟨rfl,n,rfl⟩;go_wp2_with fail;exact ⟨rfl,rfl,Fr.drewN _ _ _⟩
  | true =>
   have hd : Qb4 (c :: r) = some (dv c,r) := by simp [Qb4,hx]
   rw [hd];have HN := Xi (fun n => Qmh (w.drewN n) b s c r h hz);have HV := Xi (u8_dig hx);have hb := (QaP c).1 hx;have b1 : (48 : Int) ≤ (c.toNat : Int) := by omega
   have b2 : (c.toNat : Int) ≤ 57 := by omega
   clear h hx hd hb;go_enter func266,ntmps266;go_wp2_with fail;refine HS.out.mono ?_;rintro e w1 ⟨rfl,n,rfl⟩;have HN1 := Xi (HN.out n);go_wp2_with fail;refine HN1.out.mono ?_;rintro e w2 ⟨rfl,hr,hf⟩;have HR := Xi hr;have HF := Xi hf;clear hr hf;go_wp2_with fail;go_ret;exact ⟨by show Ending.returned (.int .i64 ((c.toNat : Int) - 48)) = _; rw [HV.out],HR.out,fbn HF.out⟩
theorem QiR {l : Bs} {a : Nat} {r : Bs} (h : Qb4 l = some (a,r)) : a < 10 := by
 obtain ⟨c,-,hc,rfl⟩ := Qfy h;exact Qge hc
theorem QoF (w : World) (b : Nat) (s : ByteArray) (l : Bs) (h : RdAt w b s l) (hz : s.size ≤ 1000000) :
  Calls Tryz.prog 259 #[.pointer (some ⟨b,0,none⟩)] w (Ran (sixD l) natV b s w) := by
 have H1 := Xi (Qfz w b s l h hz);clear h;rcases hg : Qb4 l with _ | ⟨a,r⟩
 ·have hs : sixD l = none := by simp [sixD,hg]
  rw [hs];rw [hg] at H1;clear hg hs;go_enter func259,ntmps259;go_wp2_with fail;refine H1.out.mono ?_;rintro e w1 ⟨rfl,hf⟩;have HF := Xi hf;clear hf;go_wp2_with fail;exact ⟨rfl,rfl,HF.out⟩
 ·have ha := QiR hg;have H2 := Xi (fun (W : World) (n : Nat) (h : RdAt W b s r) => Qfz (W.drewN n) b s r h hz);rcases hg2 : Qb4 r with _ | ⟨a2,r2⟩
  ·have hs : sixD l = none := by simp [sixD,hg,hg2]
   rw [hs];rw [hg] at H1;rw [hg2] at H2;clear hg hg2 hs;go_enter func259,ntmps259;go_wp2_with fail;refine H1.out.mono ?_;rintro e w1 ⟨rfl,hr,hf⟩;have HF := Xi hf;have H3 := Xi (fun n => H2.out w1 n hr);clear hf hr;go_wp2_with fail;refine (H3.out 0).mono ?_;rintro e w2 ⟨rfl,hf2⟩;have HF2 := Xi hf2;clear hf2;go_wp2_with fail;exact ⟨rfl,rfl,fb HF.out HF2.out⟩
  ·have ha2 := QiR hg2;by_cases hlt : a * 10 + a2 < 60
   ·have hs : sixD l = some (a * 10 + a2,r2) := by simp [sixD,hg,hg2,hlt]
    rw [hs];rw [hg] at H1;rw [hg2] at H2;have t1 : ¬ ((60 : Int) ≤ (a : Int) * 10 + (a2 : Int)) := by omega
    clear hg hg2 hs;go_enter func259,ntmps259;go_wp2_with fail;refine H1.out.mono ?_;rintro e w1 ⟨rfl,hr,hf⟩;have HF := Xi hf;have H3 := Xi (fun n => H2.out w1 n hr);clear hf hr;go_wp2_with fail;refine (H3.out 0).mono ?_;rintro e w2 ⟨rfl,hr2,hf2⟩;have HF2 := Xi hf2;have HR2 := Xi hr2;clear hf2 hr2;go_wp2_with fail;go_ret;exact ⟨by go_num,HR2.out,fb HF.out HF2.out⟩
   ·have hs : sixD l = none := by simp [sixD,hg,hg2,hlt]
    rw [hs];rw [hg] at H1;rw [hg2] at H2;have t1 : ((60 : Int) ≤ (a : Int) * 10 + (a2 : Int)) := by omega
    clear hg hg2 hs;go_enter func259,ntmps259;go_wp2_with fail;refine H1.out.mono ?_;rintro e w1 ⟨rfl,hr,hf⟩;have HF := Xi hf;have H3 := Xi (fun n => H2.out w1 n hr);clear hf hr;go_wp2_with fail;refine (H3.out 0).mono ?_;rintro e w2 ⟨rfl,hr2,hf2⟩;have HF2 := Xi hf2;clear hf2 hr2;go_wp2_with fail;exact ⟨rfl,rfl,fb HF.out HF2.out⟩
def HInv (w : World) (b : Nat) (s : ByteArray) (T : Nat × Bs) (g : Nat) (v3 v4 : Value) (wr : World) : Prop :=
 ∃ (n i : Nat) (q : Bs),i + g = 3 ∧ 1 ≤ i ∧ v3 = natV n ∧ v4 = natV i ∧ ((i = 1 → n < 10) ∧ (i = 2 → n < 100) ∧ n < 1000) ∧ Qe0 g n q = T ∧ RdAt wr b s q ∧ Fr w wr (· = b)
theorem QpV (w : World) (b : Nat) (s : ByteArray) (l : Bs) (h : RdAt w b s l) (hz : s.size ≤ 1000000) :
  Calls Tryz.prog 258 #[.pointer (some ⟨b,0,none⟩)] w (Ran (QcQ l) natV b s w) := by
 have H1 := Xi (Qfz w b s l h hz);clear h;rcases hg : Qb4 l with _ | ⟨a,r⟩
 ·have hs : QcQ l = none := by simp [QcQ,hg]
  rw [hs];rw [hg] at H1;clear hg hs;go_enter func258,ntmps258;go_wp2_with fail;refine H1.out.mono ?_;rintro e w1 ⟨rfl,hf⟩;have HF := Xi hf;clear hf;go_wp2_with fail;exact ⟨rfl,rfl,HF.out⟩
 ·have ha := QiR hg;obtain ⟨T,hT⟩ : ∃ T,Qe0 2 a r = T := ⟨_,rfl⟩;obtain ⟨G,hG⟩ : ∃ G,QcQ l = G := ⟨_,rfl⟩;have HG := Xi (show (if T.1 ≤ 167 then some T else none) = G by rw [← hG,QcQ,hg,← hT]);rw [hG];rw [hg] at H1;have HT := Xi hT;clear hg hT hG;go_enter func258,ntmps258;go_wp2_with fail;refine H1.out.mono ?_;rintro e w1 ⟨rfl,hr,hf⟩;have HF := Xi hf;have HR := Xi hr;clear hf hr H1;go_wp2_with fail
  go_loopg [3,4] 2 (fun g v3 v4 wr => HInv w b s T g v3 v4 wr)
  case atStart => exact ⟨a,1,r,rfl,Nat.le_refl _,rfl,rfl,⟨fun _ => ha,fun h => absurd h (by omega),by omega⟩,HT.out,HR.out,HF.out⟩
  case round =>
   obtain ⟨n,i,q,hi,h1,rfl,rfl,⟨b1,b2,b3⟩,hmo,hrq,hfq⟩ := hrel;have HM := Xi hmo;have HQ := Xi hfq;have HB1 := Xi b1;have HB2 := Xi b2;clear hmo hfq b1 b2 HF HR HT ha;by_cases hlt : i < 3
   ·obtain ⟨g',rfl⟩ : ∃ g',gk = g' + 1 := ⟨gk - 1,by omega⟩;have hlt' : (i : Int) < 3 := by omega
    obtain ⟨x,hx,HS⟩ : ∃ x,(x = true ↔ ∃ c q',q = c :: q' ∧ digB c = true) ∧ Hid (Calls Tryz.prog 267 #[.pointer (some ⟨b,0,none⟩)] wr fun e w' => e = .returned (.bool x) ∧ ∃ n,w' = wr.drewN n) := by
     cases q with
     | nil => exact ⟨false,by simp,Xi (Qjl wr b s hrq hz)⟩
     | cons c q => exact ⟨digB c,⟨fun h => ⟨c,q,rfl,h⟩,fun ⟨c',q',e,h⟩ => by cases e; exact h⟩,Xi (Qjk wr b s c q _ hrq rfl hz)⟩
    cases x with
    | false =>
     have hstop : T = (n,q) := by
      rw [← HM.out];refine Qg9 _ _ (fun c hc => ?_);rw [Bool.eq_false_iff];intro e;exact absurd (hx.2 ⟨c,q.tail,Qda hc,e⟩) (by simp)
     subst hstop;have HRQ := Xi hrq;clear hx hrq HM;by_cases hn : n ≤ 167
     ·have hn' : ¬ (167 : Int) < (n : Int) := by omega
      have hG : some (n,q) = G := by rw [← HG.out,if_pos hn]
      subst hG;clear HG;go_wp2_with fail;refine HS.out.mono ?_;rintro e w2 ⟨rfl,m,rfl⟩;go_wp2_with fail;go_ret;exact ⟨rfl,HRQ.out,fb HQ.out (Fr.drewN _ _ _)⟩
     ·have hn' : (167 : Int) < (n : Int) := by omega
      have hG : none = G := by rw [← HG.out,if_neg hn]
      subst hG;clear HG;go_wp2_with fail;refine HS.out.mono ?_;rintro e w2 ⟨rfl,m,rfl⟩;go_wp2_with fail;exact ⟨rfl,rfl,fb HQ.out (Fr.drewN _ _ _)⟩
    | true =>
     obtain ⟨c,q',rfl,hc⟩ := hx.1 rfl;have HD := Xi (fun m => Qfz (wr.drewN m) b s (c :: q') hrq hz);rw [show Qb4 (c :: q') = some (dv c,q') by simp [Qb4,hc]] at HD;have hd := Qge hc;have HM2 := Xi (show Qe0 g' (n * 10 + dv c) q' = T by rw [← HM.out,Qe0,if_pos hc]);have b100 : n < 100 := by
      have i1 := HB1.out;have i2 := HB2.out;omega
     have HX : Hid ((i = 1 → n < 10) ∧ True) := Xi ⟨HB1.out,trivial⟩;clear hx hrq HM hc;go_wp2_with fail;refine HS.out.mono ?_;rintro e w2 ⟨rfl,m,rfl⟩;have HD1 := Xi (HD.out m);go_wp2_with fail;refine HD1.out.mono ?_;rintro e w3 ⟨rfl,hr3,hf3⟩;have HR3 := Xi hr3;have HF3 := Xi hf3;clear hr3 hf3;go_wp2_with fail
     go_roundg g'
     case measure => omega
     case rel => exact ⟨n * 10 + dv c,i + 1,q',by omega,by omega,by go_num,by go_num,⟨fun h => absurd h (by omega),fun h => by have := HB1.out (by omega); omega,by omega⟩,HM2.out,HR3.out,fb HQ.out (fbn HF3.out)⟩
   ·have hi3 : i = 3 := by omega
    obtain rfl : gk = 0 := by omega
    subst hi3;have hstop : T = (n,q) := by rw [← HM.out]; rfl
    subst hstop;have HRQ := Xi hrq;clear hrq HM hlt;by_cases hn : n ≤ 167
    ·have hn' : ¬ (167 : Int) < (n : Int) := by omega
     have hG : some (n,q) = G := by rw [← HG.out,if_pos hn]
     subst hG;clear HG;go_wp2_with fail;go_ret;exact ⟨rfl,HRQ.out,HQ.out⟩
    ·have hn' : (167 : Int) < (n : Int) := by omega
     have hG : none = G := by rw [← HG.out,if_neg hn]
     subst hG;clear HG;go_wp2_with fail;exact ⟨rfl,rfl,HQ.out⟩
theorem Qoq (w : World) (b : Nat) (s : ByteArray) (q : Bs) (d : UInt8) (n : Int) (hn : n = d.toNat) (h : RdAt w b s q) (hx : q.head? = some d) (hz : s.size ≤ 1000000) :
  Calls Tryz.prog 243 #[.pointer (some ⟨b,0,none⟩),.int .u8 n] w fun e w' => e = .returned (.bool true) ∧ RdAt w' b s q.tail ∧ Fr w w' (· = b) := by
 subst hn;have e := Qda hx;rw [e] at h;exact Qot w b s d q.tail _ h rfl hz
theorem tk_no (w : World) (b : Nat) (s : ByteArray) (q : Bs) (d : UInt8) (n : Int) (hn : n = d.toNat) (h : RdAt w b s q) (hx : ¬ q.head? = some d) (hz : s.size ≤ 1000000) :
  Calls Tryz.prog 243 #[.pointer (some ⟨b,0,none⟩),.int .u8 n] w fun e w' => e = .returned (.bool false) ∧ RdAt w' b s q ∧ Fr w w' (· = b) := by
 cases q with
 | nil => exact (Qm0 w b s n h hz).mono fun e w' ⟨h1,m,h2⟩ => ⟨h1,by subst h2; exact h,by subst h2; exact Fr.drewN _ _ _⟩
 | cons c q =>
  have hc : ((c.toNat : Int) == n) = false := by
   rw [beq_eq_false_iff_ne];intro e;exact hx (by rw [List.head?_cons,UInt8.toNat_inj.1 (by omega : c.toNat = d.toNat)])
  exact (takes_no w b s c q n h hc hz).mono fun e w' ⟨h1,m,h2⟩ => ⟨h1,by subst h2; exact h,by subst h2; exact Fr.drewN _ _ _⟩
theorem hours_le {l : Bs} {n : Nat} {r : Bs} (h : QcQ l = some (n,r)) : n ≤ 167 := by
 unfold QcQ at h;split at h
 ·cases h
 ·split at h
  ·rename_i hle;have h := Option.some.inj h;rw [h] at hle;exact hle
  ·cases h
theorem six_le {l : Bs} {n : Nat} {r : Bs} (h : sixD l = some (n,r)) : n ≤ 59 := by
 obtain ⟨t,-,g⟩ := Qks h;cases g with | mk a b ha hb hlt => omega
theorem QkH {x : Int} {n : Nat} (h : x = (n : Int)) : Ending.returned (.int .i64 x) = .returned (natV n) := by rw [h]
theorem QgR (w : World) (b : Nat) (s : ByteArray) (l : Bs) (h : RdAt w b s l) (hz : s.size ≤ 1000000) :
  Calls Tryz.prog 244 #[.pointer (some ⟨b,0,none⟩)] w (Ran (QaV l) natV b s w) := by
 have H1 := Xi (QpV w b s l h hz);clear h;rcases hg : QcQ l with _ | ⟨a,r⟩
 ·have hs : QaV l = none := by simp [QaV,hg]
  rw [hs];rw [hg] at H1;clear hg hs;go_enter func244,ntmps244;go_wp2_with fail;refine H1.out.mono ?_;rintro e w1 ⟨rfl,hf1⟩;have HF1 := Xi hf1;clear hf1;go_wp2_with fail;exact ⟨rfl,rfl,HF1.out⟩
 ·have ha := hours_le hg;by_cases h58 : r.head? = some 58
  ·have T1 := Xi (fun (W : World) (h : RdAt W b s r) => Qoq W b s r 58 58 rfl h h58 hz);have S1 := Xi (fun (W : World) (h : RdAt W b s r.tail) => QoF W b s r.tail h hz);rcases hg2 : sixD r.tail with _ | ⟨m,r1⟩
   ·have hs : QaV l = none := by simp [QaV,hg,h58,hg2]
    rw [hs];rw [hg] at H1;rw [hg2] at S1;clear hg hs hg2 h58;go_enter func244,ntmps244;go_wp2_with fail;refine H1.out.mono ?_;rintro e w1 ⟨rfl,hr1,hf1⟩;have HF1 := Xi hf1;have HR1 := Xi hr1;clear hr1 hf1;have T1 := Xi (T1.out _ HR1.out);go_wp2_with fail;refine T1.out.mono ?_;rintro e w2 ⟨rfl,hr2,hf2⟩;have HF2 := Xi hf2;have HR2 := Xi hr2;clear hr2 hf2;have S1 := Xi (S1.out _ HR2.out);go_wp2_with fail;refine S1.out.mono ?_;rintro e w3 ⟨rfl,hf3⟩;have HF3 := Xi hf3;clear hf3;go_wp2_with fail;exact ⟨rfl,rfl,fb (fb (HF1.out) HF2.out) HF3.out⟩
   ·have hm := six_le hg2;by_cases h58' : r1.head? = some 58
    ·have T2 := Xi (fun (W : World) (h : RdAt W b s r1) => Qoq W b s r1 58 58 rfl h h58' hz);have S2 := Xi (fun (W : World) (h : RdAt W b s r1.tail) => QoF W b s r1.tail h hz);rcases hg3 : sixD r1.tail with _ | ⟨k,r2⟩
     ·have hs : QaV l = none := by simp [QaV,hg,h58,hg2,h58',hg3]
      rw [hs];rw [hg] at H1;rw [hg2] at S1;rw [hg3] at S2;clear hg hs hg2 h58 hg3 h58';go_enter func244,ntmps244;go_wp2_with fail;refine H1.out.mono ?_;rintro e w1 ⟨rfl,hr1,hf1⟩;have HF1 := Xi hf1;have HR1 := Xi hr1;clear hr1 hf1;have T1 := Xi (T1.out _ HR1.out);go_wp2_with fail;refine T1.out.mono ?_;rintro e w2 ⟨rfl,hr2,hf2⟩;have HF2 := Xi hf2;have HR2 := Xi hr2;clear hr2 hf2;have S1 := Xi (S1.out _ HR2.out);go_wp2_with fail;refine S1.out.mono ?_;rintro e w3 ⟨rfl,hr3,hf3⟩;have HF3 := Xi hf3;have HR3 := Xi hr3;clear hr3 hf3;have T2 := Xi (T2.out _ HR3.out);go_wp2_with fail;refine T2.out.mono ?_;rintro e w4 ⟨rfl,hr4,hf4⟩;have HF4 := Xi hf4;have HR4 := Xi hr4;clear hr4 hf4;have S2 := Xi (S2.out _ HR4.out);go_wp2_with fail;refine S2.out.mono ?_;rintro e w5 ⟨rfl,hf5⟩;have HF5 := Xi hf5;clear hf5;go_wp2_with fail;exact ⟨rfl,rfl,fb (fb (fb (fb (HF1.out) HF2.out) HF3.out) HF4.out) HF5.out⟩
     ·have hk := six_le hg3;have hs : QaV l = some (a * 3600 + (m * 60 + k),r2) := by simp [QaV,hg,h58,hg2,h58',hg3]
      rw [hs];rw [hg] at H1;rw [hg2] at S1;rw [hg3] at S2;clear hg hs hg2 h58 hg3 h58';go_enter func244,ntmps244;go_wp2_with fail;refine H1.out.mono ?_;rintro e w1 ⟨rfl,hr1,hf1⟩;have HF1 := Xi hf1;have HR1 := Xi hr1;clear hr1 hf1;have T1 := Xi (T1.out _ HR1.out);go_wp2_with fail;refine T1.out.mono ?_;rintro e w2 ⟨rfl,hr2,hf2⟩;have HF2 := Xi hf2;have HR2 := Xi hr2;clear hr2 hf2;have S1 := Xi (S1.out _ HR2.out);go_wp2_with fail;refine S1.out.mono ?_;rintro e w3 ⟨rfl,hr3,hf3⟩;have HF3 := Xi hf3;have HR3 := Xi hr3;clear hr3 hf3;have T2 := Xi (T2.out _ HR3.out);go_wp2_with fail;refine T2.out.mono ?_;rintro e w4 ⟨rfl,hr4,hf4⟩;have HF4 := Xi hf4;have HR4 := Xi hr4;clear hr4 hf4;have S2 := Xi (S2.out _ HR4.out);go_wp2_with fail;refine S2.out.mono ?_;rintro e w5 ⟨rfl,hr5,hf5⟩;have HF5 := Xi hf5;have HR5 := Xi hr5;clear hr5 hf5;go_wp2_with fail;go_ret;exact ⟨QkH (by omega),HR5.out,fb (fb (fb (fb (HF1.out) HF2.out) HF3.out) HF4.out) HF5.out⟩
    ·have T2 := Xi (fun (W : World) (h : RdAt W b s r1) => tk_no W b s r1 58 58 rfl h h58' hz);have hs : QaV l = some (a * 3600 + m * 60,r1) := by simp [QaV,hg,h58,hg2,h58']
     rw [hs];rw [hg] at H1;rw [hg2] at S1;clear hg hs hg2 h58 h58';go_enter func244,ntmps244;go_wp2_with fail;refine H1.out.mono ?_;rintro e w1 ⟨rfl,hr1,hf1⟩;have HF1 := Xi hf1;have HR1 := Xi hr1;clear hr1 hf1;have T1 := Xi (T1.out _ HR1.out);go_wp2_with fail;refine T1.out.mono ?_;rintro e w2 ⟨rfl,hr2,hf2⟩;have HF2 := Xi hf2;have HR2 := Xi hr2;clear hr2 hf2;have S1 := Xi (S1.out _ HR2.out);go_wp2_with fail;refine S1.out.mono ?_;rintro e w3 ⟨rfl,hr3,hf3⟩;have HF3 := Xi hf3;have HR3 := Xi hr3;clear hr3 hf3;have T2 := Xi (T2.out _ HR3.out);go_wp2_with fail;refine T2.out.mono ?_;rintro e w4 ⟨rfl,hr4,hf4⟩;have HF4 := Xi hf4;have HR4 := Xi hr4;clear hr4 hf4;go_wp2_with fail;go_ret;exact ⟨QkH (by omega),HR4.out,fb (fb (fb (HF1.out) HF2.out) HF3.out) HF4.out⟩
  ·have T1 := Xi (fun (W : World) (h : RdAt W b s r) => tk_no W b s r 58 58 rfl h h58 hz);have hs : QaV l = some (a * 3600,r) := by simp [QaV,hg,h58]
   rw [hs];rw [hg] at H1;clear hg hs h58;go_enter func244,ntmps244;go_wp2_with fail;refine H1.out.mono ?_;rintro e w1 ⟨rfl,hr1,hf1⟩;have HF1 := Xi hf1;have HR1 := Xi hr1;clear hr1 hf1;have T1 := Xi (T1.out _ HR1.out);go_wp2_with fail;refine T1.out.mono ?_;rintro e w2 ⟨rfl,hr2,hf2⟩;have HF2 := Xi hf2;have HR2 := Xi hr2;clear hr2 hf2;go_wp2_with fail;go_ret;exact ⟨QkH (by omega),HR2.out,fb (HF1.out) HF2.out⟩
theorem Qnc {l : Bs} {n : Nat} {r : Bs} (h : QaV l = some (n,r)) : n ≤ 604799 := by
 obtain ⟨t,-,g⟩ := QeW h;exact QgA g
abbrev intV (n : Int) : Value := .int .i64 n
theorem QhR (w : World) (b : Nat) (s : ByteArray) (l : Bs) (h : RdAt w b s l) (hz : s.size ≤ 1000000) :
  Calls Tryz.prog 224 #[.pointer (some ⟨b,0,none⟩)] w (Ran (QbN l) intV b s w) := by
 by_cases h45 : l.head? = some 45
 ·have T1 := Xi (Qoq w b s l 45 45 rfl h h45 hz);have S1 := Xi (fun (W : World) (h : RdAt W b s l.tail) => QgR W b s l.tail h hz);rcases hg : QaV l.tail with _ | ⟨n,r⟩
  ·have hs : QbN l = none := by simp [QbN,h45,hg]
   rw [hs];rw [hg] at S1;clear hg hs h45 h;go_enter func224,ntmps224;go_wp2_with fail;refine T1.out.mono ?_;rintro e w1 ⟨rfl,hr1,hf1⟩;have HF1 := Xi hf1;have HR1 := Xi hr1;clear hr1 hf1;have S1 := Xi (S1.out _ HR1.out);go_wp2_with fail;refine S1.out.mono ?_;rintro e w2 ⟨rfl,hf2⟩;have HF2 := Xi hf2;clear hf2;go_wp2_with fail;exact ⟨rfl,rfl,fb (HF1.out) HF2.out⟩
  ·have hn := Qnc hg;have hs : QbN l = some (-(n : Int),r) := by simp [QbN,h45,hg]
   rw [hs];rw [hg] at S1;clear hg hs h45 h;go_enter func224,ntmps224;go_wp2_with fail;refine T1.out.mono ?_;rintro e w1 ⟨rfl,hr1,hf1⟩;have HF1 := Xi hf1;have HR1 := Xi hr1;clear hr1 hf1;have S1 := Xi (S1.out _ HR1.out);go_wp2_with fail;refine S1.out.mono ?_;rintro e w2 ⟨rfl,hr2,hf2⟩;have HF2 := Xi hf2;have HR2 := Xi hr2;clear hr2 hf2;go_wp2_with fail;go_ret;exact ⟨rfl,HR2.out,fb (HF1.out) HF2.out⟩
 ·have T1 := Xi (tk_no w b s l 45 45 rfl h h45 hz);have S1 := Xi (fun (W : World) (h : RdAt W b s l) => QgR W b s l h hz);rcases hg : QaV l with _ | ⟨n,r⟩
  ·have hs : QbN l = none := by simp [QbN,h45,hg]
   rw [hs];rw [hg] at S1;clear hg hs h45 h;go_enter func224,ntmps224;go_wp2_with fail;refine T1.out.mono ?_;rintro e w1 ⟨rfl,hr1,hf1⟩;have HF1 := Xi hf1;have HR1 := Xi hr1;clear hr1 hf1;have S1 := Xi (S1.out _ HR1.out);go_wp2_with fail;refine S1.out.mono ?_;rintro e w2 ⟨rfl,hf2⟩;have HF2 := Xi hf2;clear hf2;go_wp2_with fail;exact ⟨rfl,rfl,fb (HF1.out) HF2.out⟩
  ·have hs : QbN l = some ((n : Int),r) := by simp [QbN,h45,hg]
   rw [hs];rw [hg] at S1;clear hg hs h45 h;go_enter func224,ntmps224;go_wp2_with fail;refine T1.out.mono ?_;rintro e w1 ⟨rfl,hr1,hf1⟩;have HF1 := Xi hf1;have HR1 := Xi hr1;clear hr1 hf1;have S1 := Xi (S1.out _ HR1.out);go_wp2_with fail;refine S1.out.mono ?_;rintro e w2 ⟨rfl,hr2,hf2⟩;have HF2 := Xi hf2;have HR2 := Xi hr2;clear hr2 hf2;go_wp2_with fail;go_ret;exact ⟨rfl,HR2.out,fb (HF1.out) HF2.out⟩
theorem QhJ (w : World) (n m : Int) (hm : 0 ≤ m) (hm2 : m ≤ 1000000) (x : Bool) (hx : x = true ↔ -m ≤ n ∧ n ≤ m) :
  Calls Tryz.prog 227 #[.int .i64 n,.int .i64 m] w fun e w' => e = .returned (.bool x) ∧ w = w' := by
 have hxx : x = (decide (-m ≤ n) && decide (n ≤ m)) := by
  rw [Bool.eq_iff_iff,hx];simp
 have HX := Xi hxx;clear hx hxx;by_cases h1 : -m ≤ n
 all_goals by_cases h2 : n ≤ m
 all_goals
  go_enter func227,ntmps227;go_wp2_with fail;go_ret;exact ⟨by rw [HX.out]; simp [h1,h2],rfl⟩
theorem QmA (w : World) (b : Nat) (s : ByteArray) (h : RdAt w b s []) (hz : s.size ≤ 1000000) :
  Calls Tryz.prog 223 #[.pointer (some ⟨b,0,none⟩)] w fun e w' => e = .returned (.tuple #[]) ∧ ∃ n,w' = w.drewN n := by
 have HE := Xi (Qcy w b s [] true h rfl hz);clear h;go_enter func223,ntmps223;go_wp2_with fail;refine HE.out.mono ?_;rintro e w1 ⟨rfl,n,rfl⟩;go_wp2_with fail
 go_end0
 exact ⟨rfl,_,rfl⟩
theorem Qmz (w : World) (b : Nat) (s : ByteArray) (l : Bs) (hl : l ≠ []) (h : RdAt w b s l) (hz : s.size ≤ 1000000) :
  Calls Tryz.prog 223 #[.pointer (some ⟨b,0,none⟩)] w fun e w' => e = QcN ∧ ∃ n,w' = w.drewN n := by
 have HE := Xi (Qcy w b s l false h (by simpa using hl) hz);clear h;go_enter func223,ntmps223;go_wp2_with fail;refine HE.out.mono ?_;rintro e w1 ⟨rfl,n,rfl⟩;go_wp2_with fail;exact ⟨rfl,rfl,_,rfl⟩
theorem QhB {c k : UInt8} {m : Int} (h : c ≠ k) (hk : (k.toNat : Int) = m) : ((c.toNat : Int) == m) = false := by
 rw [beq_eq_false_iff_ne];intro e;exact h (UInt8.toNat_inj.1 (by omega))
theorem Qm4 (w : World) (b : Nat) (s : ByteArray) (l : Bs) (h : RdAt w b s l) (hz : s.size ≤ 1000000) :
  Calls Tryz.prog 225 #[.pointer (some ⟨b,0,none⟩)] w (Ran (Qct l) natV b s w) := by
 cases l with
 | nil =>
  have HE := Xi (Qcy w b s [] true h rfl hz);have HR := Xi h;clear h;go_enter func225,ntmps225;go_wp2_with fail;refine HE.out.mono ?_;rintro e w1 ⟨rfl,n,rfl⟩;go_wp2_with fail;go_ret;exact ⟨rfl,HR.out,Fr.drewN _ _ _⟩
 | cons c r =>
  have HE := Xi (Qcy w b s (c :: r) false h rfl hz);have HN := Xi (fun n => Qmh (w.drewN n) b s c r h hz);clear h;by_cases h1 : c = 119
  ·subst h1;have hs : Qct (119 :: r) = some (0,r) := by simp [Qct,sufK]
   rw [hs];clear hs;go_enter func225,ntmps225;go_wp2_with fail;refine HE.out.mono ?_;rintro e w1 ⟨rfl,n,rfl⟩;have HN1 := Xi (HN.out n);go_wp2_with fail;refine HN1.out.mono ?_;rintro e w2 ⟨rfl,hr,hf⟩;have HR := Xi hr;have HF := Xi hf;clear hr hf;go_wp2_with fail;go_ret;exact ⟨rfl,HR.out,fbn HF.out⟩
  ·by_cases h2 : c = 115
   ·subst h2;have hs : Qct (115 :: r) = some (1,r) := by simp [Qct,sufK]
    rw [hs];clear hs;go_enter func225,ntmps225;go_wp2_with fail;refine HE.out.mono ?_;rintro e w1 ⟨rfl,n,rfl⟩;have HN1 := Xi (HN.out n);go_wp2_with fail;refine HN1.out.mono ?_;rintro e w2 ⟨rfl,hr,hf⟩;have HR := Xi hr;have HF := Xi hf;clear hr hf;go_wp2_with fail;go_ret;exact ⟨rfl,HR.out,fbn HF.out⟩
   ·by_cases h3 : c = 117 ∨ c = 103 ∨ c = 122
    ·have hs : Qct (c :: r) = some (2,r) := by simp only [Qct,sufK,if_neg h1,if_neg h2,if_pos h3]
     rw [hs];clear hs h1 h2;rcases h3 with rfl | rfl | rfl
     all_goals
      go_enter func225,ntmps225;go_wp2_with fail;refine HE.out.mono ?_;rintro e w1 ⟨rfl,n,rfl⟩;have HN1 := Xi (HN.out n);go_wp2_with fail;refine HN1.out.mono ?_;rintro e w2 ⟨rfl,hr,hf⟩;have HR := Xi hr;have HF := Xi hf;clear hr hf;go_wp2_with fail;go_ret;exact ⟨rfl,HR.out,fbn HF.out⟩
    ·have hs : Qct (c :: r) = none := by simp only [Qct,sufK,if_neg h1,if_neg h2,if_neg h3]
     rw [hs];have e1 := QhB (m := 119) h1 rfl;have e2 := QhB (m := 115) h2 rfl;have e3 := QhB (m := 117) (fun h => h3 (.inl h)) rfl;have e4 := QhB (m := 103) (fun h => h3 (.inr (.inl h))) rfl;have e5 := QhB (m := 122) (fun h => h3 (.inr (.inr h))) rfl;clear hs h1 h2 h3;generalize (c.toNat : Int) = nc at HN e1 e2 e3 e4 e5;go_enter func225,ntmps225;go_wp2_with fail;refine HE.out.mono ?_;rintro e w1 ⟨rfl,n,rfl⟩;have HN1 := Xi (HN.out n);go_wp2_with fail;refine HN1.out.mono ?_;rintro e w2 ⟨rfl,hr,hf⟩;have HF := Xi hf;clear hr hf;go_wp2_with fail;exact ⟨rfl,rfl,fbn HF.out⟩
theorem infoAt : (Tryz.prog.info? 63).map (·.size) = some 2 := by kernel_rfl
abbrev atV (v : Int × Nat) : Value := .agg #[.int .i64 v.1,.int .i64 (v.2 : Int)]
theorem fbf {a c d : World} {b : Nat} (h : Fr a c (fun _ => False)) (h2 : Fr c d (· = b)) : Fr a d (· = b) := h.trans h2 (fun _ _ h => h.elim) (fun _ _ h => h)
theorem Qii (w : World) (b : Nat) (s : ByteArray) (l : Bs) (h : RdAt w b s l) (hz : s.size ≤ 1000000) :
  Calls Tryz.prog 193 #[.pointer (some ⟨b,0,none⟩)] w (Ran (QgC l) atV b s w) := by
 have hbw := h.lt;have hf0 := Fr.new w (.cells #[.int .i64 0,.int .i64 0] 63) (fun _ => False);have h0 := h.fr hf0 (fun h => h);have S1 := Xi (QhR _ b s l h0 hz);have HF0 := Xi hf0;have HB0 := Xi (Blk.made w 63 #[.int .i64 0,.int .i64 0]);clear h h0 hf0;rcases hg : QbN l with _ | ⟨n,r⟩
 ·have hs : QgC l = none := by simp [QgC,hg]
  rw [hs];rw [hg] at S1;clear hg hs;go_enter func193,ntmps193;go_wp2_with fail;refine S1.out.mono ?_;rintro e w1 ⟨rfl,hf1⟩;have HF1 := Xi hf1;clear hf1;go_wp2_with fail;exact ⟨rfl,rfl,fbf HF0.out HF1.out⟩
 ·have S2 := Xi (fun (W : World) (h : RdAt W b s r) => Qm4 W b s r h hz);rcases hg2 : Qct r with _ | ⟨k,r2⟩
  ·have hs : QgC l = none := by simp [QgC,hg,hg2]
   rw [hs];rw [hg] at S1;rw [hg2] at S2;clear hg hg2 hs;go_enter func193,ntmps193;go_wp2_with fail;refine S1.out.mono ?_;rintro e w1 ⟨rfl,hr1,hf1⟩;have HF1 := Xi hf1;have S3 := Xi (S2.out _ hr1);clear hf1 hr1;go_wp2_with fail;refine S3.out.mono ?_;rintro e w2 ⟨rfl,hf2⟩;have HF2 := Xi hf2;clear hf2;go_wp2_with fail;exact ⟨rfl,rfl,fb (fbf HF0.out HF1.out) HF2.out⟩
  ·have hs : QgC l = some ((n,k),r2) := by simp [QgC,hg,hg2]
   rw [hs];rw [hg] at S1;rw [hg2] at S2;clear hg hg2 hs;go_enter func193,ntmps193;go_wp2_with fail;refine S1.out.mono ?_;rintro e w1 ⟨rfl,hr1,hf1⟩;have HF1 := Xi hf1;have S3 := Xi (S2.out _ hr1);clear hf1 hr1;go_wp2_with fail;refine S3.out.mono ?_;rintro e w2 ⟨rfl,hr2,hf2⟩;have HB2 := Xi (hf2.blk (HF1.out.blk HB0.out (by omega)) (by omega));have HF2 := Xi hf2;have HR2 := Xi hr2;have c0 := Qaa HB2.out 0;have c1 := Qaa HB2.out 1;have f0 := Qac HB2.out 0;have f1 := Qac HB2.out 1;simp at c0 c1;clear hf2 hr2;go_wp2_with fail;have hb4 : Blk ((w2.setCell ⟨w.heap.size,0,none⟩ (.int .i64 n)).setCell ⟨w.heap.size,1,none⟩ (.int .i64 (k : Int))) w.heap.size 63 #[.int .i64 n,.int .i64 (k : Int)] :=
    ((HB2.out.put' (cs' := #[.int .i64 n,.int .i64 0]) 0 (.int .i64 n) (by simp)).put' 1 (.int .i64 (k : Int)) (by simp))
   have hres := fun (tmps : Array Value) (hp : tmps.getD 2 undef = .pointer (some ⟨w.heap.size,0,none⟩)) => results_cell_row (P := Tryz.prog) (fn := f193) (p := 2) (ty := 63) rfl tmps _ w.heap.size 63 #[.int .i64 n,.int .i64 (k : Int)] (0,0) _ hp hb4 underlying63 rfl infoAt;refine bodyPost_ret (hres _ rfl) rfl ⟨rfl,?_,?_⟩
   ·exact (HR2.out.fr (Fr.set (S := (· = w.heap.size)) rfl) (by omega)).fr (Fr.set (S := (· = w.heap.size)) rfl) (by omega)
   ·exact (fb (fbf HF0.out HF1.out) HF2.out).trans ((Fr.set (S := (· = w.heap.size)) rfl).trans (Fr.set (S := (· = w.heap.size)) rfl) (U := (· = w.heap.size)) (fun _ _ h => h) (fun _ _ h => h)) (fun _ _ h => h) (fun i hi h => by omega)
theorem QcI (w : World) (b : Nat) (s : ByteArray) (l : Bs) (h : RdAt w b s l) (hz : s.size ≤ 1000000) :
  Calls Tryz.prog 195 #[.pointer (some ⟨b,0,none⟩)] w (Ran (Qdg l) intV b s w) := by
 have S1 := Xi (QhR w b s l h hz);clear h;rcases hg : QbN l with _ | ⟨n,r⟩
 ·have hs : Qdg l = none := by simp [Qdg,hg]
  rw [hs];rw [hg] at S1;clear hg hs;go_enter func195,ntmps195;go_wp2_with fail;refine S1.out.mono ?_;rintro e w1 ⟨rfl,hf1⟩;have HF1 := Xi hf1;clear hf1;go_wp2_with fail;exact ⟨rfl,rfl,HF1.out⟩
 ·by_cases hin : -86400 ≤ n ∧ n ≤ 86400
  ·have hs : Qdg l = some (n,r) := by simp [Qdg,hg,hin]
   rw [hs];rw [hg] at S1;have HW := Xi (fun w => QhJ w n 86400 (by omega) (by omega) true (by simpa using hin));clear hg hs hin;go_enter func195,ntmps195;go_wp2_with fail;refine S1.out.mono ?_;rintro e w1 ⟨rfl,hr1,hf1⟩;have HF1 := Xi hf1;have HR1 := Xi hr1;clear hf1 hr1;go_wp2_with fail;refine (HW.out _).mono ?_;rintro e w2 ⟨rfl,rfl⟩;go_wp2_with fail;go_ret;exact ⟨rfl,HR1.out,HF1.out⟩
  ·have hs : Qdg l = none := by simp [Qdg,hg,hin]
   rw [hs];rw [hg] at S1;have HW := Xi (fun w => QhJ w n 86400 (by omega) (by omega) false (by simpa using hin));clear hg hs hin;go_enter func195,ntmps195;go_wp2_with fail;refine S1.out.mono ?_;rintro e w1 ⟨rfl,hr1,hf1⟩;have HF1 := Xi hf1;have HR1 := Xi hr1;clear hf1 hr1;go_wp2_with fail;refine (HW.out _).mono ?_;rintro e w2 ⟨rfl,rfl⟩;go_wp2_with fail;exact ⟨rfl,rfl,HF1.out⟩
end Go.Proofs.YtodcnbejnchmhaaGreatDoor.S5
