import Derived.Test.YtodcnbejnchmhaaGreatDoorProg
import Derived.Test.YtodcnbejnchmhaaGreatDoorYc10
import Derived.Test.YtodcnbejnchmhaaGreatDoorYc06
import Derived.BigQuiet
import Derived.Deep.QuietTactic
import Derived.Deep.DeepCutAuto
import Derived.WalkLawsBesides
import Derived.IntWalk
import Derived.Lib.Hide
import Derived.Tactics2
import Derived.Deep.LoopGhost
import Derived.Lib.ConvBytes
import Derived.Lib.AppendIntMem
import Derived.SliceStrings
import Derived.Test.YtodcnbejnchmhaaGreatDoorYc11
set_option maxRecDepth 100000
set_option maxHeartbeats 400000
namespace Go.Proofs.YtodcnbejnchmhaaGreatDoor.S8
open Go.RowKit Go.Mem Go.Kwd

abbrev strV (l : Bs) : Value := .string ⟨l.toArray⟩
abbrev u8V (c : UInt8) : Value := .int .u8 (c.toNat : Int)
theorem Qlj : (Tryz.prog.info? 5).map (fun i => (i.zero,i.size,i.bytes)) = some (some (.int .u8 0),1,1) := by kernel_rfl
theorem QnL : (Tryz.prog.info? 9).map (fun i => (i.zero,i.size,i.bytes)) = some (some (.string ⟨#[]⟩),1,16) := by kernel_rfl
theorem Qal (l : Bs) : (⟨l.toArray⟩ : ByteArray).size = l.length := by show l.toArray.size = _; simp
theorem Qag (s : ByteArray) : s.data.toList.length = s.size := by rw [Array.length_toList]; rfl
theorem QeU (s : ByteArray) : Value.string s = strV s.data.toList := by
 show Value.string s = .string ⟨s.data.toList.toArray⟩;congr
theorem QbZ {P : Program} (w : World) (a b : Bs) (h : a.length + b.length ≤ 1000000) : (Op.stringOp .add ⟨a.toArray⟩ ⟨b.toArray⟩).run P w = .ok (strV (a ++ b)) w := by
 rw [run_string_add_sum w _ _ (by show a.toArray.size + b.toArray.size ≤ _; simp; omega)];show Result.ok (Value.string ((⟨a.toArray⟩ : ByteArray) ++ ⟨b.toArray⟩)) w = .ok (.string ⟨(a ++ b).toArray⟩) w;congr 2
theorem ff {a c d : World} (h : Fr a c (fun _ => False)) (h2 : Fr c d (fun _ => False)) : Fr a d (fun _ => False) := h.trans h2 (fun _ _ h => h) (fun _ _ h => h)
theorem fd {a b : World} (h : Fr a b (fun _ => False)) (n : Nat) : Fr a (b.drewN n) (fun _ => False) := ff h (Fr.drewN _ _ _)
theorem QaS {s : ByteArray} {a : Nat} {c : UInt8} {l : Bs} (h : s.data.toList.drop a = c :: l) : ∃ hs : a < s.size,s[a] = c ∧ s.data.toList.drop (a + 1) = l := by
 have hl : s.data.toList.length = s.size := Qag s;have hs : a < s.size := by
  rw [← hl];rcases Nat.lt_or_ge a s.data.toList.length with h1 | h1
  ·exact h1
  ·rw [List.drop_eq_nil_of_le h1] at h;cases h
 refine ⟨hs,?_,?_⟩
 ·rw [List.drop_eq_getElem_cons (by rw [hl]; exact hs)] at h;have := (List.cons.inj h).1;rw [← this];rfl
 ·rw [List.drop_eq_getElem_cons (by rw [hl]; exact hs)] at h;exact (List.cons.inj h).2
theorem Qhj {s : ByteArray} {l : Bs} (h : s.data.toList = l) {k : Nat} (hk : k < s.size) : l[k]? = some s[k] := by
 subst h;rw [List.getElem?_eq_getElem (by rw [Qag]; exact hk)];rfl
theorem Qeq {c : UInt8} {n : Int} {k : UInt8} (h : c ≠ k) (hn : n = c.toNat) : (n == (k.toNat : Int)) = false := by
 rw [beq_eq_false_iff_ne];intro e;exact h (UInt8.toNat_inj.1 (by omega))
theorem Qqg (c : UInt8) : (c.toNat : Int) < 256 := by have := c.toNat_lt; omega
/-- a slice of texts at a place -/
theorem Qcu {w : World} {A : Option Addr} {n : Nat} {ls : List Bs} (h : Rd w 1 A n (ls.map strV)) {k : Nat} (hk : k < n) :
  ∃ b off x,A = some ⟨b,off,none⟩ ∧ ls[k]? = some x ∧ w.cell? ⟨b,off + k,none⟩ = some (strV x) := by
 obtain ⟨b,off,u,e,hu,hc⟩ := h.at_ hk;rw [List.getElem?_map] at hu;obtain ⟨x,hx,rfl⟩ := Option.map_eq_some_iff.1 hu;exact ⟨b,off,x,e,hx,hc⟩
theorem Ql0 {w : World} {A : Option Addr} {n : Nat} {ls : List Bs} (h : Rd w 1 A n (ls.map strV)) : ls.length = n := by have := h.1; simpa using this
theorem Qki {w w' : World} {A : Option Addr} {n : Nat} {ls : List Bs} (h : Rd w 1 A n (ls.map strV)) (hf : Fr w w' (fun _ => False)) : Rd w' 1 A n (ls.map strV) := Rd.fr h hf (fun _ _ _ _ h => h)
/-- an extract of a text as a list -/
theorem ext_take (l : Bs) (k : Nat) : (⟨l.toArray⟩ : ByteArray).extract 0 k = ⟨(l.take k).toArray⟩ := by
 apply ByteArray.ext;apply Array.toList_inj.1;simp [List.extract]

/-- the variables that the code reads hold what the program's text lays -/
structure WOk (w : World) : Prop where
 pow : ∃ B, B ≤ w.heap.size ∧ Lib.TabBelow Tryz.prog B w "internal/strconv.uint64pow10" .u64 Lib.pow10Tab
 max : ∃ m,w.cell? ⟨0,0,none⟩ = some (.int .i64 m)
 ran : ∃ t p,w.cell? ⟨9,0,none⟩ = some (.iface t p)
theorem WOk.fr {w w' : World} (h : WOk w) (f : Fr w w' (fun _ => False)) : WOk w' := by
 refine ⟨?_,?_,?_⟩
 ·obtain ⟨B,hB,ht⟩ := h.pow;exact ⟨B,Nat.le_trans hB f.size,ht.on (f.below hB (fun _ h => h.elim))⟩
 ·obtain ⟨m,hm⟩ := h.max;exact ⟨m,f.cell0 hm⟩
 ·obtain ⟨t,p,hm⟩ := h.ran;exact ⟨t,p,f.cell0 hm⟩
end Go.Proofs.YtodcnbejnchmhaaGreatDoor.S8
namespace Go.Proofs.YtodcnbejnchmhaaGreatDoor.S8
open _root_.Go.Proofs.Tryz
open Go.RowKit Go.Mem Go.Kwd

theorem QjF {c : UInt8} (h1 : 65 ≤ (c.toNat : Int)) (h2 : (c.toNat : Int) ≤ 90) : ((lowB c).toNat : Int) = (c.toNat : Int) + 32 := by
 have H : ∀ k : Fin 256,65 ≤ (UInt8.ofNat k.val).toNat ∧ (UInt8.ofNat k.val).toNat ≤ 90 → (lowB (UInt8.ofNat k.val)).toNat = (UInt8.ofNat k.val).toNat + 32 := by decide +kernel
 have := H ⟨c.toNat,c.toNat_lt⟩;simp only [UInt8.ofNat_toNat] at this;have := this (by omega);omega
theorem Qmj {c : UInt8} (h : (c.toNat : Int) < 65 ∨ 90 < (c.toNat : Int)) : lowB c = c := by
 unfold lowB;rw [if_neg (by omega)]
theorem Qji (c : UInt8) (w : World) : Calls Tryz.prog 234 #[.int .u8 (c.toNat : Int)] w fun e w' => e = .returned (.int .u8 ((lowB c).toNat : Int)) ∧ w = w' := by
 by_cases h : 65 ≤ (c.toNat : Int) ∧ (c.toNat : Int) ≤ 90
 ·have HE := Xi (QjF h.1 h.2);obtain ⟨h1,h2⟩ := h;obtain ⟨z,hz⟩ : ∃ z : Int,z = ((lowB c).toNat : Int) := ⟨_,rfl⟩;rw [← hz];have HZ := Xi hz;generalize (c.toNat : Int) = n at *;clear hz;go_enter func234,ntmps234;go_wp2_with fail;go_ret;refine ⟨?_,rfl⟩;have : z = n + 32 := by rw [HZ.out,HE.out]
  subst this;simp;omega
 ·have h' : (c.toNat : Int) < 65 ∨ 90 < (c.toNat : Int) := by omega
  rw [Qmj h'];have hb := Qqg c;have h0 : (0 : Int) ≤ (c.toNat : Int) := by omega
  generalize (c.toNat : Int) = n at *;clear h;rcases h' with h' | h'
  ·go_enter func234,ntmps234;go_wp2_with fail;go_ret;exact ⟨rfl,rfl⟩
  ·go_enter func234,ntmps234;go_wp2_with fail;go_ret;exact ⟨rfl,rfl⟩

theorem QdS (c : UInt8) (w : World) : Calls Tryz.prog 230 #[.int .u8 (c.toNat : Int)] w fun e w' => e = .returned (.bool (Qbc c)) ∧ w = w' := by
 have HX := Xi (show Qbc c = (decide ((48 : Int) ≤ (c.toNat : Int)) && decide ((c.toNat : Int) ≤ 57)) by unfold Qbc; congr 1 <;> simp <;> omega);obtain ⟨x,hx⟩ : ∃ x,Qbc c = x := ⟨_,rfl⟩;rw [hx] at HX ⊢;generalize (c.toNat : Int) = n at *;clear hx;by_cases h1 : (48 : Int) ≤ n
 all_goals by_cases h2 : n ≤ 57
 all_goals
  go_enter func230,ntmps230;go_wp2_with fail;go_ret;exact ⟨by rw [HX.out]; simp [h1,h2],rfl⟩
theorem QnH (c : UInt8) : Qba c = (decide ((97 : Int) ≤ ((lowB c).toNat : Int)) && decide (((lowB c).toNat : Int) ≤ 122)) := by
 have H : ∀ k : Fin 256,Qba (UInt8.ofNat k.val) = (decide (97 ≤ (lowB (UInt8.ofNat k.val)).toNat) && decide ((lowB (UInt8.ofNat k.val)).toNat ≤ 122)) := by decide +kernel
 have := H ⟨c.toNat,c.toNat_lt⟩;simp only [UInt8.ofNat_toNat] at this;rw [this];congr 1 <;> simp <;> omega
theorem QjO (c : UInt8) (w : World) : Calls Tryz.prog 229 #[.int .u8 (c.toNat : Int)] w fun e w' => e = .returned (.bool (Qba c)) ∧ w = w' := by
 have HX := Xi (QnH c);have HS := Xi (Qji c w);obtain ⟨x,hx⟩ : ∃ x,Qba c = x := ⟨_,rfl⟩;rw [hx] at HX ⊢;obtain ⟨z,hz⟩ : ∃ z : Int,((lowB c).toNat : Int) = z := ⟨_,rfl⟩;rw [hz] at HX HS;clear hx hz;by_cases h1 : (97 : Int) ≤ z
 all_goals by_cases h2 : z ≤ 122
 all_goals
  go_enter func229,ntmps229;go_wp2_with fail;refine HS.out.mono ?_;rintro e w2 ⟨rfl,rfl⟩;go_wp2_with fail
  all_goals
   go_ret;exact ⟨by rw [HX.out]; simp [h1,h2],rfl⟩
theorem QbC (c k : UInt8) : (c == k) = ((c.toNat : Int) == (k.toNat : Int)) := by
 rw [Bool.eq_iff_iff];simp only [beq_iff_eq];rw [← UInt8.toNat_inj];omega
def Qdd (c : UInt8) : Bool := Qba c || c == 95
theorem QeQ (c : UInt8) (w : World) : Calls Tryz.prog 210 #[.int .u8 (c.toNat : Int)] w fun e w' => e = .returned (.bool (Qdd c)) ∧ w = w' := by
 have HX := Xi (show Qdd c = (Qba c || (c.toNat : Int) == 95) by unfold Qdd; rw [QbC]; rfl);have HS := Xi (QjO c w);obtain ⟨x,hx⟩ : ∃ x,Qdd c = x := ⟨_,rfl⟩;rw [hx] at HX ⊢;obtain ⟨y,hy⟩ : ∃ y,Qba c = y := ⟨_,rfl⟩;rw [hy] at HX HS;generalize (c.toNat : Int) = n at *;clear hx hy;cases y
 ·cases h1 : (n == 95)
  all_goals
   go_enter func210,ntmps210;go_wp2_with fail;refine HS.out.mono ?_;rintro e w2 ⟨rfl,rfl⟩;go_wp2_with fail;go_ret;exact ⟨by rw [HX.out]; simp [h1],rfl⟩
 ·go_enter func210,ntmps210;go_wp2_with fail;refine HS.out.mono ?_;rintro e w2 ⟨rfl,rfl⟩;go_wp2_with fail;go_ret;exact ⟨by rw [HX.out]; simp,rfl⟩
theorem Qh7 (c : UInt8) (w : World) : Calls Tryz.prog 211 #[.int .u8 (c.toNat : Int)] w fun e w' => e = .returned (.bool (QcT c)) ∧ w = w' := by
 have HX := Xi (show QcT c = (Qdd c || Qbc c || (c.toNat : Int) == 45) by
  have := QbC c 45;rw [show ((c.toNat : Int) == 45) = (c == 45) from this.symm];unfold QcT Qdd;cases Qba c <;> cases Qbc c <;> cases (c == 95) <;> cases (c == 45) <;> rfl)
 have HS := Xi (QeQ c w);have HD := Xi (QdS c w);obtain ⟨x,hx⟩ : ∃ x,QcT c = x := ⟨_,rfl⟩;rw [hx] at HX ⊢;obtain ⟨y,hy⟩ : ∃ y,Qdd c = y := ⟨_,rfl⟩;rw [hy] at HX HS;obtain ⟨z,hz⟩ : ∃ z,Qbc c = z := ⟨_,rfl⟩;rw [hz] at HX HD;generalize (c.toNat : Int) = n at *;clear hx hy hz;cases y
 ·cases z
  ·cases h1 : (n == 45)
   all_goals
    go_enter func211,ntmps211;go_wp2_with fail;refine HS.out.mono ?_;rintro e w2 ⟨rfl,rfl⟩;go_wp2_with fail;refine HD.out.mono ?_;rintro e w2 ⟨rfl,rfl⟩;go_wp2_with fail;go_ret;exact ⟨by rw [HX.out]; simp [h1],rfl⟩
  ·go_enter func211,ntmps211;go_wp2_with fail;refine HS.out.mono ?_;rintro e w2 ⟨rfl,rfl⟩;go_wp2_with fail;refine HD.out.mono ?_;rintro e w2 ⟨rfl,rfl⟩;go_wp2_with fail;go_ret;exact ⟨by rw [HX.out]; simp,rfl⟩
 ·go_enter func211,ntmps211;go_wp2_with fail;refine HS.out.mono ?_;rintro e w2 ⟨rfl,rfl⟩;go_wp2_with fail;go_ret;exact ⟨by rw [HX.out]; simp,rfl⟩
theorem QhG (c : UInt8) (w : World) : Calls Tryz.prog 200 #[.int .u8 (c.toNat : Int)] w fun e w' => e = .returned (.bool (c != 45)) ∧ w = w' := by
 have HX := Xi (show (c != 45) = ((c.toNat : Int) != 45) by
  have := QbC c 45;unfold bne;rw [this];rfl)
 obtain ⟨x,hx⟩ : ∃ x,(c != 45) = x := ⟨_,rfl⟩;rw [hx] at HX ⊢;generalize (c.toNat : Int) = n at *;clear hx;cases h1 : (n != 45)
 all_goals
  go_enter func200,ntmps200;go_wp2_with fail;go_ret;exact ⟨by rw [HX.out,h1]; rfl,rfl⟩
theorem QnN (c : UInt8) (w : World) : Calls Tryz.prog 201 #[.int .u8 (c.toNat : Int)] w fun e w' => e = .returned (.bool (QeZ c)) ∧ w = w' := by
 have HX := Xi (show QeZ c = (QcT c || (c.toNat : Int) == 43) by unfold QeZ; rw [QbC]; rfl);have HS := Xi (Qh7 c w);obtain ⟨x,hx⟩ : ∃ x,QeZ c = x := ⟨_,rfl⟩;rw [hx] at HX ⊢;obtain ⟨y,hy⟩ : ∃ y,QcT c = y := ⟨_,rfl⟩;rw [hy] at HX HS;generalize (c.toNat : Int) = n at *;clear hx hy;cases y
 ·cases h1 : (n == 43)
  all_goals
   go_enter func201,ntmps201;go_wp2_with fail;refine HS.out.mono ?_;rintro e w2 ⟨rfl,rfl⟩;go_wp2_with fail;go_ret;exact ⟨by rw [HX.out]; simp [h1],rfl⟩
 ·go_enter func201,ntmps201;go_wp2_with fail;refine HS.out.mono ?_;rintro e w2 ⟨rfl,rfl⟩;go_wp2_with fail;go_ret;exact ⟨by rw [HX.out]; simp,rfl⟩
theorem Qic {s : ByteArray} (h : s.size = 0) : s.toList.isEmpty = true ∧ s.data.toList = [] := by
 have h1 : s.data.toList = [] := List.length_eq_zero_iff.1 (by rw [Qag]; exact h);exact ⟨by rw [Lib.toList_data,h1]; rfl,h1⟩
theorem Qej {s : ByteArray} (h : 0 < s.size) : s.toList.isEmpty = false ∧ s.data.toList ≠ [] := by
 have h1 : s.data.toList ≠ [] := fun e => by have := Qag s; rw [e] at this; simp at this; omega
 exact ⟨by rw [Lib.toList_data]; simpa using h1,h1⟩
theorem low_eq (a b : UInt8) (x : Bool) (h : decide (lowB a = lowB b) = x) : (((lowB a).toNat : Int) != ((lowB b).toNat : Int)) = !x := by
 rw [← h];unfold bne;rw [← QbC];congr 1
/-- the word t begins with s,byte for byte -/
theorem Qn3 (t s : ByteArray) (h0 : 0 < s.size) : begD t.data.toList s.data.toList = true ↔ ∃ h1 : s.size ≤ t.size,∀ j (h : j < s.size),lowB s[j] = lowB (t[j]'(by omega)) := by
 rw [beg_get,Qag,Qag];constructor
 ·rintro ⟨-,h1,h2⟩;exact ⟨h1,fun j h => h2 j _ _ (Qhj rfl h) (Qhj rfl (by omega))⟩
 ·rintro ⟨h1,h2⟩;refine ⟨(Qej h0).2,h1,fun k c d hc hd => ?_⟩;have hk : k < s.size := by rw [← Qag]; exact (List.getElem?_eq_some_iff.1 hc).1
  rw [Qhj rfl hk] at hc;rw [Qhj rfl (by omega)] at hd;obtain rfl := Option.some.inj hc;obtain rfl := Option.some.inj hd;exact h2 k hk
theorem QgZ {f : FuncId} {args : Array Value} {W : World} {n : Nat} {v : Value} (h : Calls Tryz.prog f args (W.drewN n) fun e w' => e = .returned v ∧ W.drewN n = w') :
  Calls Tryz.prog f args (W.drewN n) fun e w' => e = .returned v ∧ ∃ m,w' = W.drewN m := h.mono fun _ _ h => ⟨h.1,n,h.2.symm⟩
theorem Qn4 (t s : ByteArray) (w : World) (hs : s.size ≤ 1000000) (ht : t.size ≤ 1000000) (x : Bool) (hx : begD t.data.toList s.data.toList = x) :
  Calls Tryz.prog 214 #[.string t,.string s] w fun e w' => e = .returned (.bool x) ∧ ∃ n,w' = w.drewN n := by
 by_cases h0 : s.size = 0
 ·obtain ⟨h1,h2⟩ := Qic h0;have hx : x = false := by rw [← hx,h2]; rfl
  subst hx;clear h2;go_enter func214,ntmps214;go_wp2_with fail;go_ret;exact ⟨rfl,0,rfl⟩
 ·have hpos : 0 < s.size := by omega
  have he := (Qej hpos).1;have HB := Xi (Qn3 t s hpos);rw [hx] at HB;clear hx h0;by_cases h1 : s.size ≤ t.size
  ·have HS := Xi (fun c W => Qji c W);go_enter func214,ntmps214;go_wp2_with fail
   go_loopg [5,17] s.size (fun g _ v17 wr => ∃ k : Nat,k + g = s.size ∧ v17 = .int .i64 (k : Int) ∧ (∀ j (h : j < s.size),j < k → lowB s[j] = lowB (t[j]'(by omega))) ∧ ∃ q,wr = w.drewN q)
   case atStart => exact ⟨0,by omega,rfl,fun j _ h => absurd h (by omega),0,rfl⟩
   case round =>
    obtain ⟨k,hk,rfl,hall,q,hq⟩ := hrel;have HA := Xi hall;have HQ := Xi hq;clear hall hq;by_cases hlt : k < s.size
    ·have hlt2 : k < t.size := by omega
     obtain ⟨y,hy⟩ : ∃ y,decide (lowB s[k] = lowB t[k]) = y := ⟨_,rfl⟩;have hne := low_eq _ _ _ hy;have HY := Xi hy;have HS1 := Xi (fun n => QgZ (HS.out s[k] (wr.drewN n)));have HS2 := Xi (fun n => QgZ (HS.out t[k] (wr.drewN n)));have i0 : (0 : Int) ≤ (k : Int) := by omega
     have i1 : (k : Int) < (s.size : Int) := by omega
     have i2 : (k : Int) < (t.size : Int) := by omega
     clear hy;obtain ⟨a,ha⟩ : ∃ a : Int,a = ((lowB s[k]).toNat : Int) := ⟨_,rfl⟩;obtain ⟨b,hb⟩ : ∃ b : Int,b = ((lowB t[k]).toNat : Int) := ⟨_,rfl⟩;rw [← ha] at hne HS1;rw [← hb] at hne HS2;clear ha hb;cases y with
     | true =>
      go_wp2_with fail
      go_quiet ((first | with_reducible exact HS1.out _ | with_reducible exact HS2.out _))
      go_wp2_with fail
      go_roundg (s.size - (k + 1))
      case measure => omega
      case rel => exact ⟨k + 1,by omega,by go_num,fun j h hj => by
       by_cases e : j = k
       ·subst e; exact of_decide_eq_true HY.out
       ·exact HA.out j h (by omega),_,by rw [HQ.out,World.drewN_drewN]⟩
     | false =>
      have hf : x = false := by
       rw [Bool.eq_false_iff];intro e;obtain ⟨_,h2⟩ := HB.out.1 e;exact of_decide_eq_false HY.out (h2 k hlt)
      subst hf;go_wp2_with fail
      go_quiet ((first | with_reducible exact HS1.out _ | with_reducible exact HS2.out _))
      go_wp2_with fail;go_ret;exact ⟨rfl,_,by rw [HQ.out,World.drewN_drewN]⟩
    ·have hf : x = true := HB.out.2 ⟨h1,fun j h => HA.out j h (by omega)⟩;subst hf;have hk' : k = s.size := by omega
     subst hk';go_wp2_with fail;go_ret;exact ⟨rfl,_,HQ.out⟩
  ·have hf : x = false := by
    rw [Bool.eq_false_iff];intro e;exact h1 (HB.out.1 e).1
   subst hf;clear HB;go_enter func214,ntmps214;go_wp2_with fail;go_ret;exact ⟨rfl,0,rfl⟩
theorem Qp6 {ls : List Bs} {k : Nat} {x : Bs} (h : ls[k]? = some x) : ls.drop k = x :: ls.drop (k + 1) := by
 obtain ⟨hk,rfl⟩ := List.getElem?_eq_some_iff.1 h;exact List.drop_eq_getElem_cons hk
theorem QeD (l : Bs) (A : Option Addr) (n c : Nat) (ws : List Bs) (w : World) (hr : Rd w 1 A n (ws.map strV)) (hn : n ≤ 1000) (hl : l.length ≤ 1000000) (hw : ∀ x ∈ ws,x.length ≤ 1000000) (z : Nat) (hz : Qlp l ws = z) :
  Calls Tryz.prog 187 #[strV l,.slice A n c] w fun e w' => e = .returned (.int .i64 (z : Int)) ∧ Fr w w' (fun _ => False) := by
 have HR := Xi hr;have HL := Xi (Ql0 hr);have HZ := Xi hz;have HW := Xi hw;have hls := Qal l;clear hr hz hw;obtain ⟨s,hs⟩ : ∃ s : ByteArray,s = ⟨l.toArray⟩ := ⟨_,rfl⟩;rw [← hs] at hls;rw [show strV l = .string s by rw [hs]];have HSL := Xi (show s.data.toList = l by rw [hs]);clear hs;have hsz : s.size ≤ 1000000 := by omega
 go_enter func187,ntmps187;go_wp2_with fail
 go_loopg [5,6,7,8,11] n (fun g v5 v6 _ _ v11 wr => ∃ k a m : Nat,k + g = n ∧ v11 = .int .i64 (k : Int) ∧ v5 = .int .i64 (a : Int) ∧ v6 = .int .i64 (m : Int) ∧ a ≤ k ∧ m ≤ k ∧ Qd7 (Qca l) k a m ((ws.drop k).map Qca) = z ∧ Fr w wr (fun _ => False))
 case atStart => exact ⟨0,0,0,by omega,rfl,rfl,rfl,by omega,by omega,HZ.out,Fr.refl _ _⟩
 case round =>
  obtain ⟨k,a,m,hk,rfl,rfl,rfl,ha,hm,hfd,hf⟩ := hrel;have HF := Xi hf;have HR2 := Xi (Qki HR.out hf);have HFD := Xi hfd;clear hf hfd;by_cases hlt : k < n
  ·obtain ⟨b,o,x,rfl,hx,hc⟩ := Qcu HR2.out hlt;have hxl : x.length ≤ 1000000 := HW.out x (List.mem_of_getElem? hx);have hxs := Qal x;have h1 : (k : Int) < (n : Int) := by omega
   have h2 : (0 : Int) ≤ (k : Int) := by omega
   have hstep := QpZ l k a m x (ws.drop (k + 1));rw [← Qp6 hx,HFD.out] at hstep;obtain ⟨y,hy⟩ : ∃ y,begD x l = y := ⟨_,rfl⟩;rw [hy] at hstep;have HB := Xi (Qn4 ⟨x.toArray⟩ s wr hsz (by rw [hxs]; exact hxl) y (by rw [HSL.out]; exact hy));clear hx hy;cases y with
   | false =>
    have HST := Xi hstep;clear hstep;go_wp2_with fail;refine HB.out.mono ?_;rintro e w2 ⟨rfl,q,rfl⟩;go_wp2_with fail
    go_roundg (n - (k + 1))
    case measure => omega
    case rel => exact ⟨k + 1,a,m,by omega,by go_num,rfl,rfl,by omega,by omega,by have := HST.out; simpa using this.symm,fd HF.out q⟩
   | true =>
    rw [if_pos rfl] at hstep;by_cases he : l.length = x.length
    ·rw [if_pos he] at hstep;have hzk : z = k + 1 := hstep;have het : ((s.size : Int) == ((⟨x.toArray⟩ : ByteArray).size : Int)) = true := beq_iff_eq.2 (by omega);clear hstep;subst hzk;go_wp2_with fail;refine HB.out.mono ?_;rintro e w2 ⟨rfl,q,rfl⟩;go_wp2_with fail;go_ret;exact ⟨by simp,fd HF.out q⟩
    ·rw [if_neg he] at hstep;have HST := Xi hstep;have het : ((s.size : Int) == ((⟨x.toArray⟩ : ByteArray).size : Int)) = false := beq_eq_false_iff_ne.2 (by omega);clear hstep;go_wp2_with fail;refine HB.out.mono ?_;rintro e w2 ⟨rfl,q,rfl⟩;go_wp2_with fail
     go_roundg (n - (k + 1))
     case measure => omega
     case rel => exact ⟨k + 1,k + 1,m + 1,by omega,by go_num,by go_num,by go_num,by omega,by omega,HST.out.symm,fd HF.out q⟩
  ·have hkn : k = n := by omega
   subst hkn;have hd : ws.drop k = [] := List.drop_eq_nil_of_le (by rw [HL.out]; omega);have hz : (if m = 1 then a else 0) = z := by have := HFD.out; rw [hd] at this; exact this
   by_cases hm1 : m = 1
   ·rw [if_pos hm1] at hz;subst hz hm1;go_wp2_with fail;go_ret;exact ⟨rfl,HF.out⟩
   ·rw [if_neg hm1] at hz;subst hz;have hmt : ((m : Int) != 1) = true := by simp; omega
    go_wp2_with fail;go_ret;exact ⟨rfl,HF.out⟩
theorem Qci {w w' : World} (o : Obj) (h : Fr (w.alloc o) w' (fun _ => False)) : Fr w w' (fun _ => False) := ff (Fr.new w o _) h
theorem Head_any (l : Bs) (w : World) (hl : l.length ≤ 1000000) (z : Nat) (hz : headD l = z) : Calls Tryz.prog 182 #[strV l] w fun e w' => e = .returned (.int .i64 (z : Int)) ∧ Fr w w' (fun _ => False) := by
 have HF := Xi (QeD l _ 3 3 Qmu _ (Qc7 w 9 (0,0) (Qmu.map strV)) (by omega) hl (by decide) z (by rw [QnT]; exact hz));clear hz;go_enter func182,ntmps182;go_wp2_with fail;refine HF.out.mono ?_;rintro e w2 ⟨rfl,hf⟩;have HF2 := Xi (Qci _ hf);clear hf;go_wp2_with fail;go_ret;exact ⟨rfl,HF2.out⟩
theorem QnC (w : World) : Calls Tryz.prog 215 #[] w fun e w' => ∃ A,e = .returned (.slice A 12 12) ∧ Rd w' 1 A 12 (Qha.map strV) ∧ Fr w w' (fun _ => False) := by
 have HR := Xi (Qc7 w 9 (0,0) (Qha.map strV));go_enter func215,ntmps215;go_wp2_with fail;go_ret;exact ⟨_,rfl,HR.out,Fr.new _ _ _⟩
theorem Qqw (l : Bs) (w : World) (hl : l.length ≤ 1000000) (z : Nat) (hz : Qcw l = z) : Calls Tryz.prog 188 #[strV l] w fun e w' => e = .returned (.int .i64 (z : Int)) ∧ Fr w w' (fun _ => False) := by
 have HM := Xi (QnC w);have HZ := Xi hz;clear hz;go_enter func188,ntmps188;go_wp2_with fail;refine HM.out.mono ?_;rintro e w2 ⟨A,rfl,hr,hf⟩;have HF2 := Xi hf;have HF := Xi (QeD l A 12 12 Qha w2 hr (by omega) hl (by decide) z (by rw [Qlo]; exact HZ.out));clear hf hr;go_wp2_with fail;refine HF.out.mono ?_;rintro e w3 ⟨rfl,hf⟩;have HF3 := Xf HF2 hf;clear hf;go_wp2_with fail;go_ret;exact ⟨rfl,HF3.out⟩
end Go.Proofs.YtodcnbejnchmhaaGreatDoor.S8
namespace Go.Proofs.YtodcnbejnchmhaaGreatDoor.S8
open _root_.Go.Proofs.Tryz
open Go.RowKit Go.Mem Go.Esc Go.Sort

theorem QpW (w : World) (k : Nat) (os : Array Obj) : Fr w (grow (w.drewN k) os) (fun _ => False) :=
 ⟨rfl,rfl,rfl,by simp [grow],fun i hi _ => by
  show (w.heap ++ os)[i]? = _;rw [Array.getElem?_append_left hi]⟩
theorem fr_bytes (w : World) (e : TypeId) (s : ByteArray) : Fr w (Lib.bytesWorld w e s) (fun _ => False) :=
 ⟨rfl,rfl,rfl,by rw [Lib.bytesWorld_size]; omega,fun k hk _ => Lib.bytesWorld_at_old w e s k hk⟩
theorem Qfu {w w' : World} (h : Below w.heap.size w w') : Fr w w' (fun _ => False) := (Fr.ofBelow h).mono (fun i hi hs => absurd hs (by omega))

theorem Qdn {s : ByteArray} : (∀ k (h : k < s.size),digB s[k] = true) ↔ s.data.toList.all digB = true := by
 rw [List.all_eq_true];constructor
 ·intro h x hx;obtain ⟨k,hk,e⟩ := List.getElem_of_mem hx;rw [← e];exact h k (by rw [Qag] at hk; exact hk)
 ·intro h k hk;exact h _ (List.getElem_mem (by rw [Qag]; exact hk))
theorem trim_lib (l : Bs) : Lib.trimPrefix l [45] = Qdq l := by
 unfold Lib.trimPrefix Qdq;cases l with
 | nil => rfl
 | cons c r =>
  by_cases h : c = 45
  ·subst h;simp [Lib.hasPrefix]
  ·have h' : ¬ (45 = c) := fun e => h e.symm;simp [Lib.hasPrefix,h,h']
theorem Qep (c : UInt8) : (48 ≤ c.toNat ∧ c.toNat ≤ 57) ↔ ¬ ((c.toNat : Int) < 48) ∧ ¬ ((57 : Int) < (c.toNat : Int)) := by omega
theorem Qlh (l : Bs) (w : World) (hz : l.length ≤ 999990) : Calls Tryz.prog 212 #[strV l] w fun e w' => e = .returned (.bool (QbY l)) ∧ w = w' := by
 obtain ⟨x,hx⟩ : ∃ x,QbY l = x := ⟨_,rfl⟩;rw [hx];by_cases h0 : l = [48]
 ·subst h0;have hf : x = true := by rw [← hx]; rfl
  subst hf;clear hx;go_enter func212,ntmps212;go_wp2_with fail;go_ret;exact ⟨rfl,rfl⟩
 ·have e0 : (l == [48]) = false := by simpa using h0
  have hx2 : x = (!(Qdq l).isEmpty && (Qdq l).head? != some 48 && (Qdq l).all digB) := by
   rw [← hx,QbY,e0];rfl
  obtain ⟨t,htt,ht⟩ : ∃ t : ByteArray,t.data.toList = Qdq l ∧ ∀ w,Calls Tryz.prog 231 #[strV l,.string ⟨#[45]⟩] w fun e w' => e = .returned (.string t) ∧ w' = w := by
   refine ⟨⟨(Qdq l).toArray⟩,by simp,fun w => ?_⟩;have := Tryz.strings_TrimPrefix ⟨l.toArray⟩ ⟨#[45]⟩ w;rw [show (⟨l.toArray⟩ : ByteArray).data.toList = l by simp,show (⟨#[45]⟩ : ByteArray).data.toList = [45] from rfl,trim_lib] at this;exact this
  have htz : t.size ≤ 999990 := by
   rw [← Qag,htt];unfold Qdq;split
   ·rw [List.length_tail]; omega
   ·exact hz
  rw [← htt] at hx2;have HT := Xi ht;clear hx ht htt h0 hz;by_cases hp : 0 < t.size
  ·have hne : t.data.toList ≠ [] := fun e => by have := Qag t; rw [e] at this; simp at this; omega
   have hemp : t.toList.isEmpty = false := by rw [Lib.toList_data]; simpa using hne
   have hhead : t.data.toList.head? = some t[0] := by
    rw [List.head?_eq_getElem?,List.getElem?_eq_getElem (by rw [Qag]; exact hp)];rfl
   have hemp2 : t.data.toList.isEmpty = false := by simpa using hne
   by_cases h48 : t[0] = 48
   ·have hf : x = false := by rw [hx2]; simp [hhead,h48]
    subst hf;have h48' : ((t[0].toNat : Int) == 48) = true := by rw [h48]; rfl
    clear hx2 hne hhead hemp2 h48;go_enter func212,ntmps212;go_wp2_with fail;refine (HT.out _).mono ?_;rintro e w' ⟨rfl,rfl⟩;go_wp2_with fail;go_ret;exact ⟨rfl,rfl⟩
   ·have h48' : ((t[0].toNat : Int) == 48) = false := Qeq (k := 48) h48 rfl;have HX := Xi (show x = t.data.toList.all digB by rw [hx2]; simp [hhead,hemp2,h48]);clear hx2 hne hhead hemp2 h48;go_enter func212,ntmps212;go_wp2_with fail;refine (HT.out _).mono ?_;rintro e w' ⟨rfl,rfl⟩;go_wp2_with fail
    go_loop [18] (fun v => ∃ k : Nat,k ≤ t.size ∧ v = .int .i64 k ∧ ∀ j (h : j < t.size),j < k → digB t[j] = true) (fun v => t.size - (intOf v).toNat)
    case atStart => exact ⟨0,Nat.zero_le _,rfl,fun j _ h => absurd h (by omega)⟩
    case round =>
     obtain ⟨k,hk,rfl,hall⟩ := hrel;have HA := Xi hall;clear hall;by_cases hlt : k < t.size
     ·have HI := Xi (Qep t[k]);by_cases p1 : (t[k].toNat : Int) < 48
      ·have hf : x = false := by
        rw [HX.out,Bool.eq_false_iff];intro e;have := (HI.out.1 ((QaP _).1 (Qdn.2 e k hlt))).1;omega
       subst hf;go_wp2_with fail;go_ret;exact ⟨rfl,rfl⟩
      ·by_cases p2 : (57 : Int) < (t[k].toNat : Int)
       ·have hf : x = false := by
         rw [HX.out,Bool.eq_false_iff];intro e;have := (HI.out.1 ((QaP _).1 (Qdn.2 e k hlt))).2;omega
        subst hf;go_wp2_with fail;go_ret;exact ⟨rfl,rfl⟩
       ·have HY := Xi ((QaP _).2 (HI.out.2 ⟨p1,p2⟩));go_wp2_with fail
        go_round
        case rel => exact ⟨k + 1,by omega,by go_num,fun j h hj => by
         by_cases e : j = k
         ·subst e; exact HY.out
         ·exact HA.out j h (by omega)⟩
        case measure => simp [intOf]; omega
     ·have hf : x = true := by
       rw [HX.out];exact Qdn.1 fun j h => HA.out j h (by omega)
      subst hf;go_wp2_with fail;go_ret;exact ⟨rfl,rfl⟩
  ·have hl0 : t.data.toList = [] := List.length_eq_zero_iff.1 (by rw [Qag]; omega);have hf : x = false := by rw [hx2,hl0]; rfl
   subst hf;have hemp : t.toList.isEmpty = true := by rw [Lib.toList_data,hl0]; rfl
   clear hx2 hl0;go_enter func212,ntmps212;go_wp2_with fail;refine (HT.out _).mono ?_;rintro e w' ⟨rfl,rfl⟩;go_wp2_with fail;go_ret;exact ⟨rfl,rfl⟩
theorem Qj7 (l : Bs) (w : World) (hz : l.length ≤ 999990) (hg : WOk w) :
  Calls Tryz.prog 185 #[strV l] w fun e w' => e = .returned (.tuple #[.int .i64 (Qa3 l).1,.int .i64 (Qa3 l).2]) ∧ Fr w w' (fun _ => False) := by
 have HW := Xi (Qlh l w hz);have hs : (⟨l.toArray⟩ : ByteArray).size = l.length := by show l.toArray.size = _; simp
 have hl : (⟨l.toArray⟩ : ByteArray).data.toList = l := by simp
 obtain ⟨n,k,hp⟩ : ∃ n k,Qa3 l = (n,k) := ⟨_,_,rfl⟩;rw [hp];unfold Qa3 at hp;cases hw : QbY l
 ·rw [hw] at HW;rw [if_neg (by rw [hw]; decide)] at hp;obtain ⟨rfl,rfl⟩ := Prod.mk.inj hp;clear hp hw hg;go_enter func185,ntmps185;go_wp2_with fail;refine HW.out.mono ?_;rintro e w' ⟨rfl,rfl⟩;go_wp2_with fail
  go_ret2
  exact ⟨rfl,Fr.refl _ _⟩
 ·rw [hw] at HW;rw [if_pos hw] at hp;have hpar := Qkg hw;by_cases hr : Go.Esc.QaB (numV l)
  ·rw [if_pos hr] at hp hpar;obtain ⟨rfl,rfl⟩ := Prod.mk.inj hp;have HP := Xi (Tryz.strconv_ParseInt_10_at64_ok ⟨l.toArray⟩ (by rw [hs]; omega) (numV l) (by rw [hl]; exact hpar) w);have hne : ∀ w : World,(binOp .neq 195 .nilIface .nilIface).run Tryz.prog w = .ok (.bool false) w := fun w => by kernel_rfl
   generalize numV l = v at HP;clear hp hw hg hr hpar;go_enter func185,ntmps185;go_wp2_with fail;refine HW.out.mono ?_;rintro e w' ⟨rfl,rfl⟩;go_wp2_with fail;refine HP.out.mono ?_;rintro e w2 ⟨rfl,hw2⟩;have HF := Xi (show Fr w w2 (fun _ => False) by
    rcases hw2 with rfl | ⟨t,rfl⟩
    ·exact Fr.refl _ _
    ·exact fr_bytes _ _ _)
   clear hw2;go_wp2_with fail
   go_ret2
   exact ⟨rfl,HF.out⟩
  ·rw [if_neg hr] at hp hpar;obtain ⟨rfl,rfl⟩ := Prod.mk.inj hp;obtain ⟨tp,p,hvar⟩ := hg.ran;have HP := Xi (Any.strconv_ParseInt_10_at64_range Tryz.laysC174 ⟨l.toArray⟩ (by rw [hs]; omega) (by rw [hl]; exact hpar) _ w hvar (.inr ⟨tp,p,rfl⟩));have hne : ∀ (N : Nat) (w : World),(binOp .neq 195 (.iface 278 (.pointer (some ⟨N,0,none⟩))) .nilIface).run Tryz.prog w = .ok (.bool true) w := fun N w => by kernel_rfl
   clear hp hw hg hr hpar hvar;generalize Lib.intSat 64 _ = v at HP;go_enter func185,ntmps185;go_wp2_with fail;refine HW.out.mono ?_;rintro e w' ⟨rfl,rfl⟩;go_wp2_with fail;refine HP.out.mono ?_;rintro e w2 ⟨N,rfl,-,-,hb⟩;have HF := Xi (Qfu hb);clear hb;go_wp2_with fail
   go_ret2
   exact ⟨rfl,HF.out⟩
end Go.Proofs.YtodcnbejnchmhaaGreatDoor.S8
namespace Go.Proofs.YtodcnbejnchmhaaGreatDoor.S8
open _root_.Go.Proofs.Tryz
open Go.RowKit Go.Mem Go.Kwd Go.Esc

theorem QnK (n : Int) (w : World) : Calls Tryz.prog 186 #[.int .i64 n] w fun e w' => e = .returned (.bool (decide (1 ≤ n ∧ n ≤ 9999))) ∧ w = w' := by
 obtain ⟨x,hx⟩ : ∃ x,decide (1 ≤ n ∧ n ≤ 9999) = x := ⟨_,rfl⟩;rw [hx];have HX := Xi hx;clear hx;by_cases h1 : 1 ≤ n
 all_goals by_cases h2 : n ≤ 9999
 all_goals
  go_enter func186,ntmps186;go_wp2_with fail
  all_goals
   go_ret;exact ⟨by rw [← HX.out]; simp [h1,h2],rfl⟩
theorem QmN (l : Kwd.Bs) (w : World) (hl : l.length ≤ 999990) (hw : WOk w) (y : Int × Int) (hy : QcJ (Qa3 l) = y) :
  Calls Tryz.prog 161 #[strV l] w fun e w' => e = .returned (.tuple #[.int .i64 y.1,.int .i64 y.2]) ∧ Fr w w' (fun _ => False) := by
 have HP := Xi (Qj7 l w hl hw);obtain ⟨p,q,hp⟩ : ∃ p q,Qa3 l = (p,q) := ⟨_,_,rfl⟩;rw [hp] at hy HP;have HP := Xi (show Calls Tryz.prog 185 #[strV l] w fun e w' => e = .returned (.tuple #[.int .i64 p,.int .i64 q]) ∧ Fr w w' (fun _ => False) from HP.out);have HI := Xi (fun W => QnK p W);clear hp hw;by_cases hq : q = 0
 ·subst hq;cases hr : decide (1 ≤ p ∧ p ≤ 9999) with
  | true =>
   have hr' := of_decide_eq_true hr;rw [hr] at HI;have hy : y = (p,0) := by rw [← hy,QcJ,if_pos ⟨rfl,hr'⟩]
   subst hy;obtain ⟨b1,b2⟩ := hr';clear hr;go_enter func161,ntmps161;go_wp2_with fail;refine HP.out.mono ?_;rintro e w2 ⟨rfl,hf⟩;have HF := Xi hf;clear hf;go_wp2_with fail;refine (HI.out _).mono ?_;rintro e w3 ⟨rfl,rfl⟩;go_wp2_with fail
   go_ret2
   exact ⟨rfl,HF.out⟩
  | false =>
   have hr' := of_decide_eq_false hr;rw [hr] at HI;have hy : y = (0,8) := by rw [← hy,QcJ,if_neg (fun h => hr' h.2)]
   subst hy;clear hr hr';go_enter func161,ntmps161;go_wp2_with fail;refine HP.out.mono ?_;rintro e w2 ⟨rfl,hf⟩;have HF := Xi hf;clear hf;go_wp2_with fail;refine (HI.out _).mono ?_;rintro e w3 ⟨rfl,rfl⟩;go_wp2_with fail
   go_ret2
   exact ⟨rfl,HF.out⟩
 ·have hy : y = (0,8) := by rw [← hy,QcJ,if_neg (fun h => hq h.1)]
  subst hy;have hq' : (q != 0) = true := by simpa using hq
  clear hq;go_enter func161,ntmps161;go_wp2_with fail;refine HP.out.mono ?_;rintro e w2 ⟨rfl,hf⟩;have HF := Xi hf;clear hf;go_wp2_with fail
  go_ret2
  exact ⟨rfl,HF.out⟩
theorem end_le (l : Kwd.Bs) : endD l ≤ 3 := by
 have := QiM (Qca l) ends 0 0 0 (by omega);simpa [endD,QhF,ends] using this
theorem To_any (l : Kwd.Bs) (fr : Int) (w : World) (hl : l.length ≤ 999990) (hw : WOk w) (y : Int × Int) (hy : Qld (endD l) (QcJ (Qa3 l)) fr = y) :
  Calls Tryz.prog 163 #[strV l,.int .i64 fr] w fun e w' => e = .returned (.tuple #[.int .i64 y.1,.int .i64 y.2]) ∧ Fr w w' (fun _ => False) := by
 obtain ⟨z,hz⟩ : ∃ z,endD l = z := ⟨_,rfl⟩;have HF := Xi (QeD l _ 3 3 ends _ (Qc7 w 9 (0,0) (ends.map strV)) (by omega) (by omega) (by decide) z (by rw [Qp0]; exact hz));have hz3 := end_le l;rw [hz] at hy hz3;obtain ⟨p,q,hp⟩ : ∃ p q,QcJ (Qa3 l) = (p,q) := ⟨_,_,rfl⟩;have HR := Xi (fun (W : World) (f : Fr w W (fun _ => False)) => (show Calls Tryz.prog 161 #[strV l] W fun e w' => e = .returned (.tuple #[.int .i64 p,.int .i64 q]) ∧ Fr W w' (fun _ => False) from QmN l W hl (hw.fr f) (p,q) hp));rw [hp] at hy;clear hz hp hw;have hcase : z = 1 ∨ z = 2 ∨ z = 0 ∨ z = 3 := by omega
 clear hz3;rcases hcase with rfl | rfl | hcase
 ·have hy : y = (fr,0) := by rw [← hy]; rfl
  subst hy;go_enter func163,ntmps163;go_wp2_with fail;refine HF.out.mono ?_;rintro e w2 ⟨rfl,hf⟩;have HF2 := Xi (Qci _ hf);clear hf;go_wp2_with fail
  go_ret2
  exact ⟨rfl,HF2.out⟩
 ·have hy : y = (10000,0) := by rw [← hy]; rfl
  subst hy;go_enter func163,ntmps163;go_wp2_with fail;refine HF.out.mono ?_;rintro e w2 ⟨rfl,hf⟩;have HF2 := Xi (Qci _ hf);clear hf;go_wp2_with fail
  go_ret2
  exact ⟨rfl,HF2.out⟩
 ·have hy : (if q = 0 ∧ fr ≤ p then (p,q) else (0,8)) = y := by rcases hcase with rfl | rfl <;> exact hy
  have z1 : ((z : Int) == 1) = false := beq_eq_false_iff_ne.2 (by omega);have z2 : ((z : Int) == 2) = false := beq_eq_false_iff_ne.2 (by omega);clear hcase;by_cases hq : q = 0
  ·subst hq;by_cases hfp : fr ≤ p
   ·rw [if_pos ⟨rfl,hfp⟩] at hy;subst hy;go_enter func163,ntmps163;go_wp2_with fail;refine HF.out.mono ?_;rintro e w2 ⟨rfl,hf⟩;have HF2 := Xi (Qci _ hf);clear hf;go_wp2_with fail;refine (HR.out _ HF2.out).mono ?_;rintro e w3 ⟨rfl,hf⟩;have HF3 := Xf HF2 hf;clear hf;go_wp2_with fail
    go_ret2
    exact ⟨rfl,HF3.out⟩
   ·rw [if_neg (fun h => hfp h.2)] at hy;subst hy;go_enter func163,ntmps163;go_wp2_with fail;refine HF.out.mono ?_;rintro e w2 ⟨rfl,hf⟩;have HF2 := Xi (Qci _ hf);clear hf;go_wp2_with fail;refine (HR.out _ HF2.out).mono ?_;rintro e w3 ⟨rfl,hf⟩;have HF3 := Xf HF2 hf;clear hf;go_wp2_with fail
    go_ret2
    exact ⟨rfl,HF3.out⟩
  ·rw [if_neg (fun h => hq h.1)] at hy;subst hy;have hq' : (q != 0) = true := by simpa using hq
   clear hq;go_enter func163,ntmps163;go_wp2_with fail;refine HF.out.mono ?_;rintro e w2 ⟨rfl,hf⟩;have HF2 := Xi (Qci _ hf);clear hf;go_wp2_with fail;refine (HR.out _ HF2.out).mono ?_;rintro e w3 ⟨rfl,hf⟩;have HF3 := Xf HF2 hf;clear hf;go_wp2_with fail
   go_ret2
   exact ⟨rfl,HF3.out⟩
end Go.Proofs.YtodcnbejnchmhaaGreatDoor.S8
namespace Go.Proofs.YtodcnbejnchmhaaGreatDoor.S8
open _root_.Go.Proofs.Tryz
open Go.RowKit Go.Mem Go.Kwd

def u8s (l : Bs) : List Value := (l.map fun b => (b.toNat : Int)).map (Value.int .u8)
theorem QgE (xs : List Int) (y : Int) : text (xs ++ [y]) = (text xs).push (UInt8.ofNat y.toNat) := by simp [text]
theorem QfI (l : Bs) : text (l.map fun b => (b.toNat : Int)) = ⟨l.toArray⟩ := by
 have : ∀ l : Bs,text ((l.reverse).map fun b => (b.toNat : Int)) = ⟨l.reverse.toArray⟩ := by
  intro l
  induction l with
  | nil => rfl
  | cons b l ih =>
   rw [List.reverse_cons,List.map_append,List.map_cons,List.map_nil,QgE,ih];have : UInt8.ofNat ((b.toNat : Int)).toNat = b := by simp
   rw [this];apply ByteArray.ext;simp
 have := this l.reverse;rw [List.reverse_reverse] at this;exact this
theorem QiV (w : World) : (convert 157 9 (.slice none 0 0)).run Tryz.prog w = .ok (.string ⟨#[]⟩) w := by kernel_rfl
/-- a slice of bytes of the call's own,as a string -/
theorem own_text {w : World} {base : Nat} {v : Value} {l : Bs} (h : w.ownsRow base 5 1 v l.length (u8s l)) : (convert 157 9 v).run Tryz.prog w = .ok (strV l) w := by
 obtain ⟨A,c,rfl,-,-,hrd,hn,-⟩ := Qed h;cases A with
 | none =>
  have h0 := hn rfl;obtain rfl : l = [] := List.length_eq_zero_iff.1 h0.1;obtain rfl := h0.2;exact QiV w
 | some a =>
  have := Ql5 (P := Tryz.prog) w 157 9 5 underlying157 underlying5 underlying9 a l.length c (l.map fun b => (b.toNat : Int)) (show Rd w 1 (some a) l.length ((l.map fun b => (b.toNat : Int)).map (Value.int .u8)) from hrd);rw [QfI] at this;exact this

theorem Qm9 {l : Bs} {k : Nat} {c : UInt8} (h : l[k]? = some c) : Qca (l.take (k + 1)) = Qca (l.take k) ++ [lowB c] := by
 obtain ⟨hk,rfl⟩ := List.getElem?_eq_some_iff.1 h;rw [Qca,Qca,List.take_succ_eq_append_getElem hk,List.map_append];rfl
def SInv (w : World) (l : Bs) (n g : Nat) (v3 v4 : Value) (wr : World) : Prop :=
 ∃ k : Nat,k + g = n ∧ v4 = .int .i64 (k : Int) ∧ wr.ownsRow w.heap.size 5 1 v3 k (u8s (Qca (l.take k))) ∧ Fr w wr (fun _ => False)
theorem Qnj (l : Bs) (w : World) (hl : l.length ≤ 1000000) : Calls Tryz.prog 111 #[strV l] w fun e w' => e = .returned (strV (Qca l)) ∧ Fr w w' (fun _ => False) := by
 have hls := Qal l;obtain ⟨s,hs⟩ : ∃ s : ByteArray,s = ⟨l.toArray⟩ := ⟨_,rfl⟩;rw [← hs] at hls;rw [show strV l = .string s by rw [hs]];have HSL := Xi (show s.data.toList = l by rw [hs]);clear hs;have hsz : s.size ≤ 1000000 := by omega
 have HLS := Xi hls;clear hls;obtain ⟨t,ht⟩ : ∃ t,Qca l = t := ⟨_,rfl⟩;rw [ht];have HT := Xi ht;clear ht;obtain ⟨i0,hi0,hz0,hz1,hz2⟩ := info_parts Qlj;go_enter func111,ntmps111;go_wp2_with fail
 go_loopg [3,4,5] s.size (fun g v3 v4 _ wr => SInv w l s.size g v3 v4 wr)
 case atStart => exact ⟨0,by omega,rfl,World.ownsRow_nil _ _ _ _,Fr.refl _ _⟩
 case round =>
  obtain ⟨k,hk,rfl,hown,hf⟩ := hrel;have HO := Xi hown;have HF := Xi hf;obtain ⟨A3,c3,rfl⟩ := Qcf hown;have hws := hf.size;clear hown hf;by_cases hlt : k < s.size
  ·have hget := Qhj HSL.out hlt;have HSN := Xi (Qm9 hget);have h0 : (0 : Int) ≤ (k : Int) := by omega
   have h1 : (k : Int) < (s.size : Int) := by omega
   clear hget;by_cases hg : 65 ≤ (s[k].toNat : Int) ∧ (s[k].toNat : Int) ≤ 90
   ·have HE := Xi (QjF hg.1 hg.2);obtain ⟨g1,g2⟩ := hg;have HO3 := Xi (HO.out.alloc (.cells #[.int .u8 ((s[k].toNat : Int) + 32)] 5));go_wp2_with (at_builtin; refine QaF _ rfl (.tmp 23) (.tmp 25) 157 rfl w.heap.size 5 i0 _ 1 1 underlying157 hi0 hz0 hz1 hz2 rfl (by decide) _ _ _ rfl HO3.out _ 1 1 [.int .u8 ((s[k].toNat : Int) + 32)] rfl (Qc7 wr 5 (0,0) [.int .u8 ((s[k].toNat : Int) + 32)]) (by intro u hu; simp at hu; subst hu; rfl) (by simp only [maxLen]; omega) (by omega) (by simp; omega) ?_; intro v6 w6 hown6 hg6 _);have HFW6 := Xi ((ff HF.out (Fr.new wr _ _)).fresh (Fr.ofGrown hg6) (fun i e => (HO3.out.lt i e.symm).1));have HO6 := Xi hown6;clear hown6 hg6;go_wp2_with fail
    go_roundg (s.size - (k + 1))
    case measure => omega
    case rel => exact ⟨k + 1,by omega,by go_num,by rw [HSN.out]; have := HO6.out; rw [← HE.out] at this; simpa [u8s] using this,HFW6.out⟩
   ·have h' : (s[k].toNat : Int) < 65 ∨ 90 < (s[k].toNat : Int) := by omega
    have HE := Xi (Qmj h');have HO3 := Xi (HO.out.alloc (.cells #[.int .u8 (s[k].toNat : Int)] 5));clear hg;rcases h' with h' | h'
    all_goals
     go_wp2_with (at_builtin; refine QaF _ rfl (.tmp 23) (.tmp 25) 157 rfl w.heap.size 5 i0 _ 1 1 underlying157 hi0 hz0 hz1 hz2 rfl (by decide) _ _ _ rfl HO3.out _ 1 1 [.int .u8 (s[k].toNat : Int)] rfl (Qc7 wr 5 (0,0) [.int .u8 (s[k].toNat : Int)]) (by intro u hu; simp at hu; subst hu; rfl) (by simp only [maxLen]; omega) (by omega) (by simp; omega) ?_; intro v6 w6 hown6 hg6 _);have HFW6 := Xi ((ff HF.out (Fr.new wr _ _)).fresh (Fr.ofGrown hg6) (fun i e => (HO3.out.lt i e.symm).1));have HO6 := Xi hown6;clear hown6 hg6;go_wp2_with fail
     go_roundg (s.size - (k + 1))
     case measure => omega
     case rel => exact ⟨k + 1,by omega,by go_num,by rw [HSN.out,HE.out]; simpa [u8s] using HO6.out,HFW6.out⟩
  ·have hkn : k = s.size := by omega
   have htk : Qca (l.take k) = t := by rw [List.take_of_length_le (by have := HLS.out; omega),HT.out]
   have htl : t.length = k := by rw [← HT.out,Qds,← HLS.out,hkn]
   have hown := HO.out;rw [htk,← htl] at hown;have HOT := own_text hown;rw [htl] at HOT;clear hown htk htl;subst hkn;go_wp2_with fail;go_ret;exact ⟨rfl,HF.out⟩
end Go.Proofs.YtodcnbejnchmhaaGreatDoor.S8
