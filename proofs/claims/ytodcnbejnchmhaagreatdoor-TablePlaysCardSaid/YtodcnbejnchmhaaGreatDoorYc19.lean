import Derived.Test.YtodcnbejnchmhaaGreatDoorYc18
import Derived.Deep.RegionHeld3
set_option maxHeartbeats 1600000
namespace Go.Proofs.YtodcnbejnchmhaaGreatDoor.S7
open _root_.Go.Proofs.Tryz
open Go.RowKit Go.Mem Go.Lxr

abbrev Qat := Bs × Nat
def Qig (x : Qat) : List Value := [strV x.1,.int .i64 (x.2 : Int)]
/-- the slice v is the call's own and holds these fields,of the type t -/
def Flds (t : TypeId) (w : World) (base : Nat) (v : Value) (fs : List Qat) : Prop := w.ownsRow base t 2 v fs.length (fs.flatMap Qig)
theorem Qmd {w : World} {base base' : Nat} {e : TypeId} {size n : Nat} {v : Value} {xs : List Value} (h : w.ownsRow base e size v n xs) (hb : base' ≤ base) : w.ownsRow base' e size v n xs := by
 refine ⟨h.1,?_⟩;rcases h.2 with h2 | ⟨g,cap,cur,hv,hg,r⟩
 ·exact .inl h2
 ·exact .inr ⟨g,cap,cur,hv,by omega,r⟩
theorem Flds.fr {t : TypeId} {a b : World} {S : Nat → Prop} {base : Nat} {v : Value} {fs : List Qat} (h : Flds t a base v fs) (hf : Fr a b S) (hg : ∀ g,S g → g < base) : Flds t b base v fs :=
 Fr.own hf h (fun g e hs => by have := (h.lt g e).1; have := hg g hs; omega)
theorem Qmw (t : TypeId) (w : World) (base : Nat) : Flds t w base (.slice none 0 0) [] := World.ownsRow_nil _ _ _ _
theorem rd_two (w : World) (x y : Value) (t : TypeId) : Rd (w.alloc (.cells #[x,y] t)) 2 (some ⟨w.heap.size,0,none⟩) 1 [x,y] := by
 refine ⟨by simp,fun _ => ⟨w.heap.size,0,rfl,fun j u hu => ?_⟩⟩;have := two_new w x y t j u hu;have hadd : (⟨w.heap.size,0,none⟩ : Addr).add j = ⟨w.heap.size,0 + j,none⟩ := by unfold Addr.add; split <;> simp_all
 rw [hadd] at this;exact this
theorem Qme (x : Bs) (y : Int) : ∀ u ∈ [strV x,Value.int .i64 y],u.oneCell' = true := one_two _ _ rfl rfl
/-- white that is passed by -/
theorem Qlr : ∀ (l : Bs) (p : Nat),QaU p l = QaU (p + (l.takeWhile (hasF Qcm)).length) (l.dropWhile (hasF Qcm)) := by
 intro l
 induction l with
 | nil => intro p; rfl
 | cons c l ih =>
  intro p;cases hc : hasF Qcm c with
  | true =>
   obtain ⟨e1,e2⟩ := QeS (l := l) hc;rw [e1,e2];have hc : Qcm.contains c = true := hc;rw [Qi6] at hc;rw [Qei hc,ih,List.length_cons,show p + 1 + (l.takeWhile (hasF Qcm)).length = p + ((l.takeWhile (hasF Qcm)).length + 1) by omega]
  | false =>
   obtain ⟨e1,e2⟩ := QfG (f := hasF Qcm) (l := c :: l) hc;rw [e1,e2];rfl
theorem QnX (l : Bs) : l.dropWhile (hasF Qcm) = [] ∨ ∃ c r,l.dropWhile (hasF Qcm) = c :: r ∧ Qc1 c = false := by
 induction l with
 | nil => exact .inl rfl
 | cons c l ih =>
  cases hc : hasF Qcm c with
  | true => rw [(QeS (l := l) hc).2]; exact ih
  | false =>
   rw [(QfG (f := hasF Qcm) (l := c :: l) hc).2];have hc : Qcm.contains c = false := hc;rw [Qi6] at hc;exact .inr ⟨c,l,rfl,hc⟩
/-- at the end of a line,or at a field -/
theorem Qm7 {r : Bs} (h : r = [] ∨ ∃ c r',r = c :: r' ∧ Qc1 c = false) : (Qin r = false ∧ ∀ q,QaU q r = .ok []) ∨ (Qin r = true ∧ ∃ c r',r = c :: r' ∧ Qcr c = false) := by
 rcases h with rfl | ⟨c,r',rfl,hc⟩
 ·exact .inl ⟨rfl,QfW⟩
 ·by_cases h35 : c = 35
  ·subst h35;exact .inl ⟨rfl,fun q => Qe6 q r'⟩
  ·refine .inr ⟨?_,c,r',rfl,?_⟩
   ·show (!(c == 35)) = true;simpa using h35
   ·unfold Qcr;rw [hc];simpa using h35
/-- what Fields answers of a line that is not too long -/
def Qka (t : TypeId) (g : Except Nat (List Qat)) (w : World) (e : Ending) (w' : World) : Prop :=
 match g with
 | .error k => e = .returned (.tuple #[.slice none 0 0,.int .i64 (k : Int),.int .i64 9]) ∧ Fr w w' (fun _ => False)
 | .ok fs => ∃ v,e = .returned (.tuple #[v,.int .i64 0,.int .i64 0]) ∧ Flds t w' w.heap.size v fs ∧ Fr w w' (fun _ => False)
def NInv (w : World) (s : ByteArray) (l : Bs) (g : Nat) (v2 : Value) (wr : World) : Prop :=
 ∃ (done : List Qat) (m : Bs) (q : Nat),m.length = g ∧ Flds 172 wr (w.heap.size + 1) v2 done ∧ RdAt wr w.heap.size s q m ∧ (QaU 0 l = (QaU q m).map fun x => done ++ x) ∧ Fr w wr (fun _ => False) ∧ done.length + m.length ≤ 200
theorem Qhk {a b c : World} {g : Nat} (h : Fr a b (fun _ => False)) (k : Fr b c (· = g)) (hg : a.heap.size ≤ g) : Fr a c (fun _ => False) := h.fresh k (fun i e => by omega)
theorem QlO (s : ByteArray) (w : World) (h : 200 < s.size) (hz : s.size ≤ 1000000) : Calls Tryz.prog 66 #[.string s] w fun e w' => e = .returned (.tuple #[.slice none 0 0,.int .i64 0,.int .i64 17]) ∧ w = w' := by
 go_enter func66,ntmps66;go_wp2_with fail
 go_ret3
 exact ⟨rfl,rfl⟩
theorem Qj9 (s : ByteArray) (l : Bs) (w : World) (hs : s.data.toList = l) (h : s.size ≤ 200) : Calls Tryz.prog 66 #[.string s] w (Qka 172 (QaU 0 l) w) := by
 have hlen : l.length = s.size := by rw [← hs]; exact Qag s
 have hb := Blk.made w 171 #[.string s,.int .i64 0];have H0 := Xi (show RdAt (w.alloc (.cells #[.string s,.int .i64 0] 171)) w.heap.size s 0 l from ⟨Nat.zero_le _,by simpa using hs,hb⟩);clear hb hs;go_enter func66,ntmps66;go_wp2_with fail
 go_loopg [2,6,7] l.length (fun g v2 _ _ wr => NInv w s l g v2 wr)
 case atStart => exact ⟨[],l,0,rfl,Qmw _ _ _,H0.out,by cases QaU 0 l <;> rfl,Fr.new _ _ _,by simp; omega⟩
 case round =>
  obtain ⟨done,m,q,hg,hfl,hrd,hpf,hfr,hdl⟩ := hrel;have hlen1 := hrd.len;obtain ⟨t,ht⟩ : ∃ t,m.takeWhile (hasF Qcm) = t := ⟨_,rfl⟩;obtain ⟨r,hr⟩ : ∃ r,m.dropWhile (hasF Qcm) = r := ⟨_,rfl⟩;have hsk := Qlr m q;have hdw := QnX m;have hlm : m.length = t.length + r.length := by
   have := congrArg List.length (QlT (hasF Qcm) m);rw [ht,hr,List.length_append] at this;exact this
  rw [ht,hr] at hsk;rw [hr] at hdw;have HPF := Xi hpf;have HFL := Xi hfl;have HFR := Xi hfr;have hws := hrd.lt;obtain ⟨A2,c2,rfl⟩ := Qcf hfl;rcases Qm7 hdw with ⟨hx,hn⟩ | ⟨hx,c,r0,hc,hcs⟩
  ·have HN := Xi (QeD wr w.heap.size q s m hrd (by omega) t r ht hr false hx);have HQ := Xi (hn (q + t.length));have HSK := Xi hsk;clear hpf hfl hfr ht hr hsk hdw hx hn hrd hlm hlen1;go_wp2_with fail;refine HN.out.mono ?_;rintro e w2 ⟨rfl,hr2,hf2⟩;go_wp2_with fail
   go_ret3
   rw [HPF.out,HSK.out,HQ.out];refine ⟨_,rfl,?_,Qhk HFR.out hf2 (Nat.le_refl _)⟩;show Flds _ _ _ _ (done ++ []);rw [List.append_nil];exact Qmd (HFL.out.fr hf2 (fun g e => by omega)) (Nat.le_succ _)
  ·have HN := Xi (QeD wr w.heap.size q s m hrd (by omega) t r ht hr true hx);obtain ⟨q2,hq2⟩ : ∃ q2 : Nat,q + t.length = q2 := ⟨_,rfl⟩;rw [hq2] at HN hsk;have HSK := Xi hsk;have hqs : q2 + r.length = s.size := by omega
   have HM := Xi (fun W h => Qp1 W w.heap.size q2 s r h (by omega));subst hc;rcases hgf : QaW q2 (c :: r0) with k | ⟨x,r1⟩
   ·have HQ := Xi (QfX hcs q2 k r0 hgf);rw [hgf] at HM;clear hpf hfl hfr ht hr hsk hdw hx hrd hlm hlen1 hgf hq2 hqs;go_wp2_with fail;refine HN.out.mono ?_;rintro e w2 ⟨rfl,hr2,hf2⟩;have HM2 := Xi (HM.out w2 hr2);have HF2 := Xi (Qhk HFR.out hf2 (Nat.le_refl _));clear hr2 hf2;go_wp2_with fail;refine HM2.out.mono ?_;rintro e w3 ⟨rfl,⟨m3,hr3⟩,hf3⟩;have HF3 := Xi (Qhk HF2.out hf3 (Nat.le_refl _));have c0' := (Fr.new w3 (Qd0 [] 0) (fun _ => False)).cell0 (Qaa hr3.2.2 0);have c1' := (Fr.new w3 (Qd0 [] 0) (fun _ => False)).cell0 (Qaa hr3.2.2 1);simp at c0' c1';clear hr3 hf3;go_wp2_with fail
    go_quiet (fail)
    go_wp2_with fail
    go_ret3
    rw [HPF.out,HSK.out,HQ.out];exact ⟨rfl,ff (ff HF3.out (Fr.new _ _ _)) (Fr.drewN _ _ _)⟩
   ·have HQ := Xi (QfV hcs q2 r0 x r1 hgf);obtain ⟨-,-,-,hlt⟩ := Qgt _ _ x r1 hgf;have hlt := hlt ⟨c,r0,rfl,hcs⟩;rw [hgf] at HM;have hg2 : r1.length < gk := by omega
    have hd2 : done.length + 1 + r1.length ≤ 200 := by omega
    have HQS := Xi hqs;clear hpf hfl hfr ht hr hsk hdw hx hrd hlm hgf hlen1 hg hdl hq2 hqs hlen;go_wp2_with fail;refine HN.out.mono ?_;rintro e w2 ⟨rfl,hr2,hf2⟩;have HM2 := Xi (HM.out w2 hr2);have HF2 := Xi (Qhk HFR.out hf2 (Nat.le_refl _));have HFL2 := Xi (HFL.out.fr hf2 (fun g e => by omega));clear hr2 hf2;go_wp2_with fail;refine HM2.out.mono ?_;rintro e w3 ⟨rfl,⟨q3,hr3⟩,hf3⟩;have hf4 := Fr.new w3 (Qd0 x (q2 : Int)) (fun _ => False);have hf5 := ff hf4 (Fr.new (w3.alloc (Qd0 x (q2 : Int))) (Qd0 x (q2 : Int)) (fun _ => False));have HF5 := Xi (ff (Qhk HF2.out hf3 (Nat.le_refl _)) hf5);have HR5 := Xi (hr3.fr hf5 (fun h => h));have HFL5 := Xi ((HFL2.out.fr hf3 (fun g e => by omega)).fr hf5 (fun g e => e.elim));have hld := load_f (Blk.made w3 172 #[strV x,.int .i64 (q2 : Int)]);have hs5 : w.heap.size + 1 ≤ ((w3.alloc (Qd0 x (q2 : Int))).alloc (Qd0 x (q2 : Int))).heap.size := by have := HR5.out.lt; omega
    have hrx := rd_two (w3.alloc (Qd0 x (q2 : Int))) (strV x) (.int .i64 (q2 : Int)) 172;rw [show (w3.alloc (Qd0 x (q2 : Int))).heap.size = w3.heap.size + 1 by simp] at hrx;have HRX := Xi hrx;obtain ⟨i0,hi0,hz0,hz1,hz2⟩ := info_parts infoF;clear hr3 hf3 hf4 hf5 hrx;go_wp2_with (at_builtin; refine QaF _ rfl (.tmp 27) (.tmp 29) 133 rfl (w.heap.size + 1) 172 i0 _ 2 24 underlying133 hi0 hz0 hz1 hz2 rfl (by decide) _ done.length _ rfl HFL5.out _ 1 1 [strV x,.int .i64 (q2 : Int)] rfl HRX.out (Qme _ _) (by simp only [maxLen]; omega) (by omega) hs5 ?_; intro v7 w7 hown7 hg7 _);have hfl7 : Flds 172 w7 (w.heap.size + 1) v7 (done ++ [(x,q2)]) := by
     show World.ownsRow _ _ _ _ _ _ _;simpa [Qig] using hown7
    have hf7 := Fr.ofGrown hg7;obtain ⟨A7,c7,rfl⟩ := Qcf hfl7;have hge : ∀ k,some k = (Value.slice A2 done.length c2).ownBlock → w.heap.size + 1 ≤ k := fun k e => (HFL5.out.lt k e.symm).1
    go_roundg r1.length
    case measure => omega
    case rel =>
     have hr7 := HR5.out.fr hf7 (fun e => by have := hge _ e; omega);have hlen7 := hr7.len;refine ⟨done ++ [(x,q2)],r1,q3,rfl,hfl7,hr7,?_,HF5.out.fresh hf7 (fun i e => by have := hge _ e; omega),by simp; omega⟩;rw [HPF.out,HSK.out,HQ.out,show q2 + ((c :: r0).length - r1.length) = q3 by have := HQS.out; omega];cases QaU q3 r1 with
     | error k => rfl
     | ok x => simp [Except.map]
end Go.Proofs.YtodcnbejnchmhaaGreatDoor.S7
namespace Go.Proofs.YtodcnbejnchmhaaGreatDoor.S7
open Go.RowKit Go.Mem Go.Lxr

theorem QpY : ∀ {fs : List Qat} {k : Nat} {x : Qat},fs[k]? = some x → (fs.flatMap Qig)[k * 2]? = some (strV x.1) ∧ (fs.flatMap Qig)[k * 2 + 1]? = some (.int .i64 (x.2 : Int))
 | [],k,x,h => by simp at h
 | y :: fs,0,x,h => by simp at h; subst h; exact ⟨rfl,rfl⟩
 | y :: fs,k + 1,x,h => by
  have ih := QpY (fs := fs) (k := k) (x := x) (by simpa using h);rw [List.flatMap_cons,show (k + 1) * 2 = k * 2 + 2 by omega];exact ih
/-- the slice at A holds these fields -/
def FdAt (w : World) (A : Option Addr) (fs : List Qat) : Prop := Rd w 2 A fs.length (fs.flatMap Qig)
theorem FdAt.at_ {w : World} {A : Option Addr} {fs : List Qat} (h : FdAt w A fs) {k : Nat} (hk : k < fs.length) : ∃ b off x,A = some ⟨b,off,none⟩ ∧ fs[k]? = some x ∧ w.cell? ⟨b,off + k * 2,none⟩ = some (strV x.1) ∧ w.cell? ⟨b,off + k * 2 + 1,none⟩ = some (.int .i64 (x.2 : Int)) := by
 obtain ⟨b,off,e,hc⟩ := h.2 (by omega);have hx := List.getElem?_eq_getElem hk;obtain ⟨h1,h2⟩ := QpY hx;exact ⟨b,off,_,e,hx,hc _ _ h1,hc _ _ h2⟩
theorem FdAt.fr {w w' : World} {A : Option Addr} {fs : List Qat} (h : FdAt w A fs) (hf : Fr w w' (fun _ => False)) : FdAt w' A fs := Rd.fr h hf (fun _ _ _ _ h => h)
theorem Flds.rd {t : TypeId} {w : World} {base : Nat} {v : Value} {fs : List Qat} (h : Flds t w base v fs) : ∃ A c,v = .slice A fs.length c ∧ FdAt w A fs := by
 obtain ⟨A,c,h1,h2,h3,h4,-⟩ := Qed h;exact ⟨A,c,h1,h4⟩
/-- what Fields answers -/
def Qbi (l : Bs) : List Qat × Int × Int := if 200 < l.length then ([],0,17) else match QaU 0 l with
 | .error k => ([],(k : Int),9)
 | .ok fs => (fs,0,0)
end Go.Proofs.YtodcnbejnchmhaaGreatDoor.S7
namespace Go.Proofs.YtodcnbejnchmhaaGreatDoor.S7
open _root_.Go.Proofs.Tryz
open Go.RowKit Go.Mem Go.Lxr

theorem white_lt (c : UInt8) : Qc1 c = (((c.toNat : Int) == 32) || (decide (9 ≤ (c.toNat : Int)) && decide ((c.toNat : Int) ≤ 13))) := by
 have h : ∀ k : Fin 256,Qc1 (UInt8.ofNat k.val) = ((((UInt8.ofNat k.val).toNat : Int) == 32) || (decide (9 ≤ ((UInt8.ofNat k.val).toNat : Int)) && decide (((UInt8.ofNat k.val).toNat : Int) ≤ 13))) := by decide +kernel
 have := h ⟨c.toNat,c.toNat_lt⟩;simpa using this
theorem QhT (c : UInt8) (w : World) (x : Bool) (hx : Qc1 c = x) : Calls Tryz.prog 69 #[.int .u8 (c.toNat : Int)] w fun e w' => e = .returned (.bool x) ∧ w = w' := by
 rw [white_lt] at hx;by_cases h1 : (c.toNat : Int) = 32
 ·have h1' : ((c.toNat : Int) == 32) = true := by simpa using h1
  rw [h1'] at hx;have hx : x = true := hx.symm;subst hx;clear h1;go_enter func69,ntmps69;go_wp2_with fail;go_ret;exact ⟨rfl,rfl⟩
 ·have h1' : ((c.toNat : Int) == 32) = false := by simpa using h1
  rw [h1',Bool.false_or] at hx;by_cases h2 : 9 ≤ (c.toNat : Int)
  ·have h2' : decide (9 ≤ (c.toNat : Int)) = true := decide_eq_true h2;by_cases h3 : (c.toNat : Int) ≤ 13
   ·rw [h2',decide_eq_true h3] at hx;have hx : x = true := hx.symm;subst hx;clear h1;go_enter func69,ntmps69;go_wp2_with fail;go_ret;exact ⟨rfl,rfl⟩
   ·rw [h2',decide_eq_false h3] at hx;have hx : x = false := hx.symm;subst hx;clear h1;go_enter func69,ntmps69;go_wp2_with fail;go_ret;exact ⟨rfl,rfl⟩
  ·rw [decide_eq_false h2] at hx;have hx : x = false := hx.symm;subst hx;clear h1;go_enter func69,ntmps69;go_wp2_with fail;go_ret;exact ⟨rfl,rfl⟩
/-- what the reference's field answers -/
def Qqu (g : Except Nat (Bs × Bs)) (s : ByteArray) (w : World) (e : Ending) (w' : World) : Prop :=
 w = w' ∧ match g with
 | .error k => e = .returned (.tuple #[strV [],.int .i64 (-1),.int .i64 (k : Int)])
 | .ok (t,r) => ∃ q : Nat,q ≤ s.size ∧ s.data.toList.drop q = r ∧ e = .returned (.tuple #[strV t,.int .i64 (q : Int),.int .i64 0])
def GInv (s : ByteArray) (G : Except Nat (Bs × Bs)) (g : Nat) (v1 v7 : Value) : Prop :=
 ∃ (acc m : Bs) (q : Nat),m.length = g ∧ q ≤ s.size ∧ s.data.toList.drop q = m ∧ v1 = .int .i64 (q : Int) ∧ v7 = strV acc ∧ (G = (QaW q m).map fun x => (acc ++ x.1,x.2)) ∧ acc.length + m.length ≤ s.size
def EInv (s : ByteArray) (r : Bs) (q : Nat) (g : Nat) (v8 : Value) : Prop :=
 ∃ (pre m : Bs) (j : Nat),m.length = g ∧ j ≤ s.size ∧ j = q + 1 + pre.length ∧ s.data.toList.drop j = m ∧ r = pre ++ m ∧ v8 = .int .i64 (j : Int) ∧ (QbK r = (QbK m).map fun x => (pre ++ x.1,x.2))
theorem Qfx {s : ByteArray} {q : Nat} {m : Bs} (h : s.data.toList.drop q = m) (hq : q ≤ s.size) : q + m.length = s.size := by
 have hl : s.data.toList.length = s.size := Qag s;have : m.length = s.size - q := by rw [← h,List.length_drop,hl]
 omega
theorem QhB {c : UInt8} {k : Nat} (h : c ≠ UInt8.ofNat k) (hk : k < 256) : ((c.toNat : Int) == (k : Int)) = false := by
 rw [beq_eq_false_iff_ne];intro e;apply h;apply UInt8.toNat_inj.1;simp;omega
theorem Qkw {P : Program} (w : World) (a t : Bs) (s : ByteArray) (x y : Nat) (h : s.extract x y = ⟨t.toArray⟩) (hz : a.length + t.length ≤ 1000000) : (Op.stringOp .add ⟨a.toArray⟩ (s.extract x y)).run P w = .ok (strV (a ++ t)) w := by
 rw [h];exact QbZ w a t hz
theorem run_sl {P : Program} (w : World) (t : TypeId) (ht : P.underlying t = some .string) (s : ByteArray) (x y : Int) (a e : Nat) (l : Bs) (hx : x = (a : Int)) (hy : y = (e : Int)) (hae : a ≤ e) (he : e ≤ s.size) (h : s.extract a e = ⟨l.toArray⟩) :
  (Instr.slice t (.string s) (some (.int .i64 x)) (some (.int .i64 y)) none).run P w = .ok (strV l) w := by
 subst hx hy;rw [run_slice_string (P := P) w t s .i64 .i64 (a : Int) (e : Int) ht (by omega) (by omega) (by omega)];simp only [Int.toNat_natCast];rw [h]
theorem Qno (s : ByteArray) (p : Nat) (l : Bs) (w : World) (hp : p ≤ s.size) (hl : s.data.toList.drop p = l) (hz : s.size ≤ 100000) : Calls Tryz.prog 70 #[.string s,.int .i64 (p : Int)] w (Qqu (QaW p l) s w) := by
 obtain ⟨G,hG⟩ : ∃ G,QaW p l = G := ⟨_,rfl⟩;rw [hG];have H0 := Xi hG;have HL := Xi hl;have hlen := Qfx hl hp;clear hG hl;go_enter func70,ntmps70;go_wp2_with fail
 go_loopg [1,7,8] l.length (fun g v1 v7 _ wr => wr = w ∧ GInv s G g v1 v7)
 case atStart => exact ⟨rfl,[],l,p,rfl,hp,HL.out,rfl,rfl,by rw [← H0.out]; cases QaW p l <;> rfl,by simp; omega⟩
 case round =>
  obtain ⟨rfl,acc,m,q,hg,hq,hd,rfl,rfl,hpf,hal⟩ := hrel;have hlen1 := Qfx hd hq;have HPF := Xi hpf;have HD := Xi hd;have i0 : (0 : Int) ≤ (q : Int) := by omega
  have i1 : (q : Int) ≤ (q : Int) + 1 := by omega
  cases m with
  | nil =>
   have h1 : ¬ (q < s.size) := by simp at hlen1; omega
   have h1' : decide (q < s.size) = false := decide_eq_false h1;have HQ := Xi (QdC q);clear hd hpf hlen1 hlen;go_wp2_with fail
   go_ret3
   rw [HPF.out,HQ.out];exact ⟨rfl,q,hq,HD.out,by rw [List.append_nil]; rfl⟩
  | cons c r =>
   obtain ⟨hlt,hc,hd2⟩ := QaS hd;have h1' : decide (q < s.size) = true := decide_eq_true hlt;have i2 : (q : Int) < (s.size : Int) := by omega
   have i3 : (q : Int) + 1 ≤ (s.size : Int) := by omega
   obtain ⟨x,hx⟩ : ∃ x,Qc1 c = x := ⟨_,rfl⟩;have HW := Xi (QhT c wr x hx);rw [← hc] at HW;have HC := Xi hc;have HD2 := Xi hd2;cases x with
   | true =>
    have HQ := Xi (QdB (c := c) (by unfold Qcr; rw [hx]; rfl) q r);clear hd hpf hlen1 hlen hc hd2;go_wp2_with fail;refine HW.out.mono ?_;rintro e w2 ⟨rfl,rfl⟩;go_wp2_with fail
    go_ret3
    rw [HPF.out,HQ.out];exact ⟨rfl,q,hq,HD.out,by rw [List.append_nil]; rfl⟩
   | false =>
    by_cases h35 : c = 35
    ·subst h35;have e35 : ((s[q].toNat : Int) == 35) = true := by rw [hc]; rfl
     have HQ := Xi (QdB stop_35 q r);clear hd hpf hlen1 hlen hc hd2;go_wp2_with fail;refine HW.out.mono ?_;rintro e w2 ⟨rfl,rfl⟩;go_wp2_with fail
     go_ret3
     rw [HPF.out,HQ.out];exact ⟨rfl,q,hq,HD.out,by rw [List.append_nil]; rfl⟩
    ·have e35 : ((s[q].toNat : Int) == 35) = false := by rw [hc]; exact QhB (k := 35) h35 (by decide)
     by_cases h34 : c = 34
     ·subst h34;have e34 : ((s[q].toNat : Int) == 34) = true := by rw [hc]; rfl
      have hgr : r.length + 1 = gk := hg;clear hg hd hpf hlen1 hlen hc hx h35;go_wp2_with fail;refine HW.out.mono ?_;rintro e w2 ⟨rfl,rfl⟩;go_wp2_with fail
      go_loopg [8] r.length (fun g v8 wx => wx = wr ∧ EInv s r q g v8)
      case atStart => exact ⟨rfl,[],r,q + 1,rfl,by omega,by simp,HD2.out,rfl,by go_num,by cases QbK r <;> rfl⟩
      case round =>
       obtain ⟨rfl,pre,m1,j,hg1,hj,hjp,hd1,hrm,rfl,hpq⟩ := hrel;have hlen1 := Qfx hd1 hj;have hrl : r.length = pre.length + m1.length := by rw [hrm]; simp
       have j0 : (0 : Int) ≤ (j : Int) := by omega
       cases m1 with
       | nil =>
        have k1 : decide (j < s.size) = false := decide_eq_false (by simp at hlen1; omega);have k2 : ((j : Int) == (s.size : Int)) = true := by simp at hlen1; simp; omega
        have hn : QbK r = none := hpq;have HQ := Xi (QeF hn q);clear hlen1 hd1 hrm hpq hn hrl hd2 hjp;go_wp2_with fail
        go_ret3
        rw [HPF.out,HQ.out];exact ⟨rfl,rfl⟩
       | cons c1 r1 =>
        obtain ⟨hlt1,hc1,hd3⟩ := QaS hd1;have k1 : decide (j < s.size) = true := decide_eq_true hlt1;have j1 : (j : Int) < (s.size : Int) := by omega
        have j2 : (j : Int) + 1 ≤ (s.size : Int) := by omega
        by_cases h341 : c1 = 34
        ·subst h341;have e341 : ((s[j].toNat : Int) == 34) = true := by rw [hc1]; rfl
         have k2 : ((j : Int) == (s.size : Int)) = false := by simp; omega
         have hn : QbK r = some (pre,r1) := by rw [hpq]; simp [QbK]
         have HQ := Xi (QeE hn q);have hsl := fun w => run_sl (P := Tryz.prog) w 9 underlying9 s ((q : Int) + 1) (j : Int) (q + 1) j pre (by omega) rfl (by omega) (by omega) (QbQ (r := 34 :: r1) hd2 hrm hjp);have hadd := fun w => QbZ (P := Tryz.prog) w acc pre (by simp at hal hrl; omega);have HJP := Xi hjp;have HD3 := Xi hd3;have HRL := Xi hrl;have HAL := Xi hal;clear hlen1 hd1 hrm hpq hn hrl hd2 hjp hc1 hd3 hal;go_wp2_with fail
         go_roundg r1.length
         case measure => have := HRL.out; simp at this; omega
         case rel =>
          have hrl := HRL.out;have hal := HAL.out;simp at hrl hal;refine ⟨rfl,acc ++ pre,r1,j + 1,rfl,by omega,HD3.out,by go_num,rfl,?_,by simp; omega⟩;rw [HPF.out,HQ.out,show q + pre.length + 2 = j + 1 by have := HJP.out; omega];cases QaW (j + 1) r1 with
          | error k => rfl
          | ok x => simp [Except.map]
        ·have e341 : ((s[j].toNat : Int) == 34) = false := by rw [hc1]; exact QhB (k := 34) h341 (by decide)
         have HPQ := Xi hpq;have HRM := Xi hrm;have HD3 := Xi hd3;have HJP := Xi hjp;have hnq : QbK (c1 :: r1) = (QbK r1).map fun x => (c1 :: x.1,x.2) := by rw [QbK,if_neg h341]
         have HNQ := Xi hnq;clear hlen1 hd1 hrm hpq hrl hd2 hjp hc1 hd3 hnq h341;go_wp2_with fail
         go_roundg r1.length
         case measure => simp at hg1; omega
         case rel =>
          refine ⟨rfl,pre ++ [c1],r1,j + 1,rfl,by omega,by have := HJP.out; simp; omega,HD3.out,by rw [HRM.out]; simp,by go_num,?_⟩;rw [HPQ.out,HNQ.out];cases QbK r1 <;> simp
     ·have e34 : ((s[q].toNat : Int) == 34) = false := by rw [hc]; exact QhB (k := 34) h34 (by decide)
      have hst : Qcr c = false := by unfold Qcr; rw [hx]; simpa using h35
      have HQ := Xi (Qfw hst h34 q r);have hadd := fun w => Qkw (P := Tryz.prog) w acc [c] s q (q + 1) (QbQ (r := r) hd rfl rfl) (by simp at *; omega);clear hd hpf hlen1 hlen hc hd2 hst h34 h35 hx;go_wp2_with fail;refine HW.out.mono ?_;rintro e w2 ⟨rfl,rfl⟩;go_wp2_with fail
      go_roundg r.length
      case measure => simp at hg; omega
      case rel =>
       refine ⟨rfl,acc ++ [c],r,q + 1,rfl,by omega,HD2.out,by go_num,rfl,?_,by simp at *; omega⟩;rw [HPF.out,HQ.out];cases QaW (q + 1) r with
       | error k => rfl
       | ok x => simp [Except.map]
set_option maxRecDepth 100000

theorem Qcg : (Tryz.prog.info? 109).map (fun i => (i.zero,i.size,i.bytes)) = some (some (.agg #[.string ⟨#[]⟩,.int .i64 0]),2,24) := by kernel_rfl
theorem Qjx (s : ByteArray) (w : World) (h : 200 < s.size) (hz : s.size ≤ 1000000) : Calls Tryz.prog 44 #[.string s] w fun e w' => e = .returned (.tuple #[.slice none 0 0,.int .i64 0,.int .i64 17]) ∧ w = w' := by
 go_enter func44,ntmps44;go_wp2_with fail
 go_ret3
 exact ⟨rfl,rfl⟩
def OInv (w : World) (s : ByteArray) (l : Bs) (g : Nat) (v5 v6 : Value) (wr : World) : Prop :=
 ∃ (done : List Qat) (m : Bs) (q : Nat),m.length = g ∧ v6 = .int .i64 (q : Int) ∧ Flds 109 wr w.heap.size v5 done ∧ q ≤ s.size ∧ s.data.toList.drop q = m ∧ (QaU 0 l = (QaU q m).map fun x => done ++ x) ∧ Fr w wr (fun _ => False) ∧ done.length + m.length ≤ 200
theorem QiA (s : ByteArray) (l : Bs) (w : World) (hs : s.data.toList = l) (h : s.size ≤ 200) : Calls Tryz.prog 44 #[.string s] w (Qka 109 (QaU 0 l) w) := by
 have hlen : l.length = s.size := by rw [← hs]; exact Qag s
 have HS := Xi hs;clear hs;go_enter func44,ntmps44;go_wp2_with fail
 go_loopg [5,6,7,8,9] l.length (fun g v5 v6 _ _ _ wr => OInv w s l g v5 v6 wr)
 case atStart => exact ⟨[],l,0,rfl,rfl,Qmw _ _ _,Nat.zero_le _,by simpa using HS.out,by cases QaU 0 l <;> rfl,Fr.refl _ _,by simp; omega⟩
 case round =>
  obtain ⟨done,m,q,hg,rfl,hfl,hq,hd,hpf,hfr,hdl⟩ := hrel;have hlen1 := Qfx hd hq;have HPF := Xi hpf;have HFL := Xi hfl;have HFR := Xi hfr;have hws := hfr.size;obtain ⟨A5,c5,rfl⟩ := Qcf hfl;have i0 : (0 : Int) ≤ (q : Int) := by omega
  cases m with
  | nil =>
   have h1' : decide (q < s.size) = false := decide_eq_false (by simp at hlen1; omega);have HQ := Xi (QfW q);clear hd hpf hlen1 hlen hfl hfr;go_wp2_with fail
   go_ret3
   rw [HPF.out,HQ.out];exact ⟨_,rfl,by show Flds _ _ _ _ (done ++ []); rw [List.append_nil]; exact HFL.out,HFR.out⟩
  | cons c r =>
   obtain ⟨hlt,hc,hd2⟩ := QaS hd;have h1' : decide (q < s.size) = true := decide_eq_true hlt;have i2 : (q : Int) < (s.size : Int) := by omega
   have HD2 := Xi hd2;by_cases h35 : c = 35
   ·subst h35;have e35 : ((s[q].toNat : Int) == 35) = true := by rw [hc]; rfl
    have HQ := Xi (Qe6 q r);clear hd hpf hlen1 hlen hc hd2 hfl hfr;go_wp2_with fail
    go_ret3
    rw [HPF.out,HQ.out];exact ⟨_,rfl,by show Flds _ _ _ _ (done ++ []); rw [List.append_nil]; exact HFL.out,HFR.out⟩
   ·have e35 : ((s[q].toNat : Int) == 35) = false := by rw [hc]; exact QhB (k := 35) h35 (by decide)
    obtain ⟨x,hx⟩ : ∃ x,Qc1 c = x := ⟨_,rfl⟩;have HW := Xi (QhT c wr x hx);rw [← hc] at HW;cases x with
    | true =>
     have HQ := Xi (Qei hx q r);clear hd hpf hlen1 hlen hc hd2 hfl hfr hx h35;go_wp2_with fail;refine HW.out.mono ?_;rintro e w2 ⟨rfl,rfl⟩;go_wp2_with fail
     go_roundg r.length
     case measure => simp at hg; omega
     case rel => exact ⟨done,r,q + 1,rfl,by go_num,HFL.out,by omega,HD2.out,by rw [HPF.out,HQ.out],HFR.out,by simp at hdl; omega⟩
    | false =>
     have hst : Qcr c = false := by unfold Qcr; rw [hx]; simpa using h35
     have HM := Xi (Qno s q (c :: r) wr hq hd (by omega));rcases hgf : QaW q (c :: r) with k | ⟨y,r1⟩
     ·have HQ := Xi (QfX hst q k r hgf);rw [hgf] at HM;clear hd hpf hlen1 hlen hc hd2 hfl hfr hx h35 hgf hst;go_wp2_with fail;refine HW.out.mono ?_;rintro e w2 ⟨rfl,rfl⟩;go_wp2_with fail;refine HM.out.mono ?_;rintro e w2 ⟨rfl,rfl⟩;go_wp2_with fail
      go_ret3
      rw [HPF.out,HQ.out];exact ⟨rfl,HFR.out⟩
     ·have HQ := Xi (QfV hst q r y r1 hgf);obtain ⟨-,-,-,hlt1⟩ := Qgt _ _ y r1 hgf;have hlt1 := hlt1 ⟨c,r,rfl,hst⟩;rw [hgf] at HM;have hg2 : r1.length < gk := by omega
      have hd2' : done.length + 1 + r1.length ≤ 200 := by omega
      have HQS := Xi hlen1;have hrx := rd_two wr (strV y) (.int .i64 (q : Int)) 109;have HRX := Xi hrx;obtain ⟨i0',hi0,hz0,hz1,hz2⟩ := info_parts Qcg;have hf5 := Fr.new wr (.cells #[strV y,.int .i64 (q : Int)] 109) (fun _ => False);have HF5 := Xi (ff hfr hf5);have HFL5 := Xi (hfl.fr hf5 (fun g e => e.elim));have hs5 : w.heap.size ≤ (wr.alloc (.cells #[strV y,.int .i64 (q : Int)] 109)).heap.size := (ff hfr hf5).size;clear hd hpf hlen1 hlen hc hd2 hfl hfr hx h35 hgf hst hrx hf5 hg hdl;go_wp2_with fail;refine HW.out.mono ?_;rintro e w2 ⟨rfl,rfl⟩;go_wp2_with fail;refine HM.out.mono ?_;rintro e w2 ⟨rfl,q3,hq3,hd3,rfl⟩;have HD3 := Xi hd3;have HQ3 := Xi hq3;clear hd3;go_wp2_with (at_builtin; refine QaF _ rfl (.tmp 39) (.tmp 43) 104 rfl w.heap.size 109 i0' _ 2 24 underlying104 hi0 hz0 hz1 hz2 rfl (by decide) _ done.length _ rfl HFL5.out _ 1 1 [strV y,.int .i64 (q : Int)] rfl HRX.out (Qme _ _) (by simp only [maxLen]; omega) (by omega) hs5 ?_; intro v7 w7 hown7 hg7 _);have hfl7 : Flds 109 w7 w.heap.size v7 (done ++ [(y,q)]) := by
       show World.ownsRow _ _ _ _ _ _ _;simpa [Qig] using hown7
      have hf7 := Fr.ofGrown hg7;obtain ⟨A7,c7,rfl⟩ := Qcf hfl7;have hge : ∀ k,some k = (Value.slice A5 done.length c5).ownBlock → w.heap.size ≤ k := fun k e => (HFL5.out.lt k e.symm).1
      go_roundg r1.length
      case measure => omega
      case rel =>
       have hlen7 := Qfx HD3.out HQ3.out;refine ⟨done ++ [(y,q)],r1,q3,rfl,rfl,hfl7,HQ3.out,HD3.out,?_,HF5.out.fresh hf7 (fun i e => hge _ e),by simp; omega⟩;rw [HPF.out,HQ.out,show q + ((c :: r).length - r1.length) = q3 by have := HQS.out; omega];cases QaU q3 r1 with
       | error k => rfl
       | ok x => simp [Except.map]
end Go.Proofs.YtodcnbejnchmhaaGreatDoor.S7
