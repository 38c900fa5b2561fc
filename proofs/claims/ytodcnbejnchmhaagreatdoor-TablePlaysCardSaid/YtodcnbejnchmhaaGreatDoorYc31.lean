import Derived.Test.YtodcnbejnchmhaaGreatDoorYc23
import Derived.Test.YtodcnbejnchmhaaGreatDoorYc11
import Derived.Test.YtodcnbejnchmhaaGreatDoorYc16
import Derived.Test.YtodcnbejnchmhaaGreatDoorYc07
import Derived.Test.YtodcnbejnchmhaaGreatDoorYc17
import Derived.Test.YtodcnbejnchmhaaGreatDoorYc18
import Derived.Test.YtodcnbejnchmhaaGreatDoorYc19
import Derived.Test.YtodcnbejnchmhaaGreatDoorYc21
import Derived.Test.YtodcnbejnchmhaaGreatDoorYc30
import Derived.Test.YtodcnbejnchmhaaGreatDoorCards
import Derived.Test.YtodcnbejnchmhaaGreatDoorTie
import Derived.ShutString
import Derived.ChangeOld
import Derived.ChangeMaps5
import Derived.ProofKit
import Derived.OpenShut
import Derived.JoinedCond
import Derived.Deep.DeepHandedRow
import Derived.Deep.DeepWitnessRowRef
import Derived.Lib.LaidTab
import Derived.Lib.LaidU8
import Derived.Lib.SmallJoins
import Derived.Lay
import Derived.LaidLaws
import Derived.Shelf.Vars
import Derived.Test.YtodcnbejnchmhaaGreatDoorYc09
import Derived.Great.BuildSlice
import Derived.Deep.WholeRow
import Derived.Deep.RegionHeld3
set_option maxRecDepth 100000
namespace Go.Proofs.YtodcnbejnchmhaaGreatDoor.S8
open _root_.Go.Proofs.Tryz
open Go.RowKit Go.Mem Go.Kwd

abbrev Qk3 (c : UInt8) : Bool := c != 45
theorem QfU (c : UInt8) (h : Qdd c = true) : QcT c = true := by
 have H : ∀ k : Fin 256,Qdd (UInt8.ofNat k.val) = true → QcT (UInt8.ofNat k.val) = true := by decide +kernel
 have := H ⟨c.toNat,c.toNat_lt⟩;simp only [UInt8.ofNat_toNat] at this;exact this h

theorem conP_iff (s : ByteArray) (h : 0 < s.size) : Qg3 s.data.toList = true ↔ Qk3 s[0] = true ∧ ∀ j (h : j < s.size),QeZ s[j] = true := by
 obtain ⟨c,r,hl⟩ : ∃ c r,s.data.toList = c :: r := by
  cases hl : s.data.toList with
  | nil => exact absurd hl (Qej h).2
  | cons c r => exact ⟨c,r,rfl⟩
 obtain ⟨_,hc,-⟩ := QaS (s := s) (a := 0) (by rw [List.drop_zero]; exact hl);have hall : (∀ j (h : j < s.size),QeZ s[j] = true) ↔ s.data.toList.all QeZ = true := by
  rw [List.all_eq_true];constructor
  ·intro h x hx;obtain ⟨k,hk,e⟩ := List.getElem_of_mem hx;rw [← e];exact h k (by rw [Qag] at hk; exact hk)
  ·intro h k hk;exact h _ (List.getElem_mem (by rw [Qag]; exact hk))
 rw [hall,hl,hc];simp [Qg3,Qk3]

theorem QmE (s : ByteArray) (h : 0 < s.size) : QoN s.data.toList = true ↔ Qdd s[0] = true ∧ ∀ j (h : j < s.size),QcT s[j] = true := by
 obtain ⟨c,r,hl⟩ : ∃ c r,s.data.toList = c :: r := by
  cases hl : s.data.toList with
  | nil => exact absurd hl (Qej h).2
  | cons c r => exact ⟨c,r,rfl⟩
 obtain ⟨_,hc,-⟩ := QaS (s := s) (a := 0) (by rw [List.drop_zero]; exact hl);have hall : (∀ j (h : j < s.size),QcT s[j] = true) ↔ s.data.toList.all QcT = true := by
  rw [List.all_eq_true];constructor
  ·intro h x hx;obtain ⟨k,hk,e⟩ := List.getElem_of_mem hx;rw [← e];exact h k (by rw [Qag] at hk; exact hk)
  ·intro h k hk;exact h _ (List.getElem_mem (by rw [Qag]; exact hk))
 rw [hall,hl,hc];rw [show QoN (c :: r) = (Qdd c && r.all QcT) from rfl,List.all_cons,Bool.and_eq_true,Bool.and_eq_true];exact ⟨fun h => ⟨h.1,QfU c h.1,h.2⟩,fun h => ⟨h.1,h.2.2⟩⟩

theorem conP_any (s : ByteArray) (w : World) (hs : s.size ≤ 1000000) (x : Bool) (hx : Qg3 s.data.toList = x) :
  Calls Tryz.prog 199 #[.string s,.func (.func 200) #[] #[],.func (.func 201) #[] #[]] w fun e w' => e = .returned (.bool x) ∧ w = w' := by
 by_cases h0 : s.size = 0
 ·obtain ⟨h1,h2⟩ := Qic h0;have hx : x = false := by rw [← hx,h2]; rfl
  subst hx;clear h2;go_enter func199,ntmps199;go_wp2_with fail;go_ret;exact ⟨rfl,rfl⟩
 ·have hpos : 0 < s.size := by omega
  have he := (Qej hpos).1;have HX := Xi (conP_iff s hpos);rw [hx] at HX;obtain ⟨y,hy⟩ : ∃ y,Qk3 s[0] = y := ⟨_,rfl⟩;have HF := Xi (fun W => QhG s[0] W);have HF := Xi (fun W => (show Calls Tryz.prog 200 #[.int .u8 (s[0].toNat : Int)] W fun e w' => e = .returned (.bool y) ∧ W = w' by rw [← hy]; exact HF.out W));clear hx h0;cases y with
  | false =>
   have hf : x = false := by
    rw [Bool.eq_false_iff];intro e;have := (HX.out.1 e).1;rw [hy] at this;cases this
   subst hf;clear hy;go_enter func199,ntmps199;go_wp2_with fail;refine (HF.out _).mono ?_;rintro e w2 ⟨rfl,rfl⟩;go_wp2_with fail;go_ret;exact ⟨rfl,rfl⟩
  | true =>
   have HY := Xi hy;clear hy;go_enter func199,ntmps199;go_wp2_with fail;refine (HF.out _).mono ?_;rintro e w2 ⟨rfl,rfl⟩;go_wp2_with fail
   go_loopg [7,19] s.size (fun g _ v19 wr => ∃ k : Nat,k + g = s.size ∧ v19 = .int .i64 (k : Int) ∧ (∀ j (h : j < s.size),j < k → QeZ s[j] = true) ∧ w = wr)
   case atStart => exact ⟨0,by omega,rfl,fun j _ h => absurd h (by omega),rfl⟩
   case round =>
    obtain ⟨k,hk,rfl,hall,rfl⟩ := hrel;have HA := Xi hall;clear hall;by_cases hlt : k < s.size
    ·have i0 : (0 : Int) ≤ (k : Int) := by omega
     have i1 : (k : Int) < (s.size : Int) := by omega
     obtain ⟨z,hz⟩ : ∃ z,QeZ s[k] = z := ⟨_,rfl⟩;have HE := Xi (QnN s[k] w);have HE := Xi (show Calls Tryz.prog 201 #[.int .u8 (s[k].toNat : Int)] w fun e w' => e = .returned (.bool z) ∧ w = w' by rw [← hz]; exact HE.out);have HZ := Xi hz;clear hz;cases z with
     | true =>
      go_wp2_with fail;refine HE.out.mono ?_;rintro e w2 ⟨rfl,rfl⟩;go_wp2_with fail
      go_roundg (s.size - (k + 1))
      case measure => omega
      case rel => exact ⟨k + 1,by omega,by go_num,fun j h hj => by
       by_cases e : j = k
       ·subst e; exact HZ.out
       ·exact HA.out j h (by omega),rfl⟩
     | false =>
      have hf : x = false := by
       rw [Bool.eq_false_iff];intro e;have := (HX.out.1 e).2 k hlt;rw [HZ.out] at this;cases this
      subst hf;go_wp2_with fail;refine HE.out.mono ?_;rintro e w2 ⟨rfl,rfl⟩;go_wp2_with fail;go_ret;exact ⟨rfl,rfl⟩
    ·have hf : x = true := HX.out.2 ⟨HY.out,fun j h => HA.out j h (by omega)⟩;subst hf;have hk' : k = s.size := by omega
     subst hk';go_wp2_with fail;go_ret;exact ⟨rfl,rfl⟩

theorem conR_any (s : ByteArray) (w : World) (hs : s.size ≤ 1000000) (x : Bool) (hx : QoN s.data.toList = x) :
  Calls Tryz.prog 199 #[.string s,.func (.func 210) #[] #[],.func (.func 211) #[] #[]] w fun e w' => e = .returned (.bool x) ∧ w = w' := by
 by_cases h0 : s.size = 0
 ·obtain ⟨h1,h2⟩ := Qic h0;have hx : x = false := by rw [← hx,h2]; rfl
  subst hx;clear h2;go_enter func199,ntmps199;go_wp2_with fail;go_ret;exact ⟨rfl,rfl⟩
 ·have hpos : 0 < s.size := by omega
  have he := (Qej hpos).1;have HX := Xi (QmE s hpos);rw [hx] at HX;obtain ⟨y,hy⟩ : ∃ y,Qdd s[0] = y := ⟨_,rfl⟩;have HF := Xi (fun W => QeQ s[0] W);have HF := Xi (fun W => (show Calls Tryz.prog 210 #[.int .u8 (s[0].toNat : Int)] W fun e w' => e = .returned (.bool y) ∧ W = w' by rw [← hy]; exact HF.out W));clear hx h0;cases y with
  | false =>
   have hf : x = false := by
    rw [Bool.eq_false_iff];intro e;have := (HX.out.1 e).1;rw [hy] at this;cases this
   subst hf;clear hy;go_enter func199,ntmps199;go_wp2_with fail;refine (HF.out _).mono ?_;rintro e w2 ⟨rfl,rfl⟩;go_wp2_with fail;go_ret;exact ⟨rfl,rfl⟩
  | true =>
   have HY := Xi hy;clear hy;go_enter func199,ntmps199;go_wp2_with fail;refine (HF.out _).mono ?_;rintro e w2 ⟨rfl,rfl⟩;go_wp2_with fail
   go_loopg [7,19] s.size (fun g _ v19 wr => ∃ k : Nat,k + g = s.size ∧ v19 = .int .i64 (k : Int) ∧ (∀ j (h : j < s.size),j < k → QcT s[j] = true) ∧ w = wr)
   case atStart => exact ⟨0,by omega,rfl,fun j _ h => absurd h (by omega),rfl⟩
   case round =>
    obtain ⟨k,hk,rfl,hall,rfl⟩ := hrel;have HA := Xi hall;clear hall;by_cases hlt : k < s.size
    ·have i0 : (0 : Int) ≤ (k : Int) := by omega
     have i1 : (k : Int) < (s.size : Int) := by omega
     obtain ⟨z,hz⟩ : ∃ z,QcT s[k] = z := ⟨_,rfl⟩;have HE := Xi (Qh7 s[k] w);have HE := Xi (show Calls Tryz.prog 211 #[.int .u8 (s[k].toNat : Int)] w fun e w' => e = .returned (.bool z) ∧ w = w' by rw [← hz]; exact HE.out);have HZ := Xi hz;clear hz;cases z with
     | true =>
      go_wp2_with fail;refine HE.out.mono ?_;rintro e w2 ⟨rfl,rfl⟩;go_wp2_with fail
      go_roundg (s.size - (k + 1))
      case measure => omega
      case rel => exact ⟨k + 1,by omega,by go_num,fun j h hj => by
       by_cases e : j = k
       ·subst e; exact HZ.out
       ·exact HA.out j h (by omega),rfl⟩
     | false =>
      have hf : x = false := by
       rw [Bool.eq_false_iff];intro e;have := (HX.out.1 e).2 k hlt;rw [HZ.out] at this;cases this
      subst hf;go_wp2_with fail;refine HE.out.mono ?_;rintro e w2 ⟨rfl,rfl⟩;go_wp2_with fail;go_ret;exact ⟨rfl,rfl⟩
    ·have hf : x = true := HX.out.2 ⟨HY.out,fun j h => HA.out j h (by omega)⟩;subst hf;have hk' : k = s.size := by omega
     subst hk';go_wp2_with fail;go_ret;exact ⟨rfl,rfl⟩
theorem Qd9 : ∀ (l : Bs),(∀ p ∈ Lib.split l [47],p.length ≤ l.length) ∧ (Lib.split l [47]).length ≤ l.length + 1
 | [] => by rw [Qff]; simp
 | c :: l => by
  obtain ⟨h1,h2⟩ := Qd9 l;by_cases h : c = 47
  ·subst h;rw [Qio];refine ⟨fun p hp => ?_,by simp; omega⟩;rcases List.mem_cons.1 hp with rfl | hp
   ·simp
   ·have := h1 p hp;simp; omega
  ·obtain ⟨p,ps,e1,e2⟩ := QcK c l h;rw [e1] at h1 h2;rw [e2];refine ⟨fun q hq => ?_,by simp at h2 ⊢; omega⟩;rcases List.mem_cons.1 hq with rfl | hq
   ·have := h1 p (.head _);simp; omega
   ·have := h1 q (.tail _ hq);simp; omega
theorem Qqs (l : Bs) (w : World) (hl : l.length ≤ 1000000) (hw : WOk w) : Calls Tryz.prog 64 #[strV l,.string ⟨#[47]⟩] w fun e w' =>
  ∃ A n,n = (Lib.split l [47]).length ∧ e = .returned (.slice A n n) ∧ Rd w' 1 A n ((Lib.split l [47]).map strV) ∧ Fr w w' (fun _ => False) := by
 obtain ⟨m,hm⟩ := hw.max;have hsz := Qal l;refine (Tryz.strings_Split ⟨l.toArray⟩ ⟨#[47]⟩ m w (by omega) hm (by decide)).mono ?_;rintro e w2 ⟨rfl,rfl⟩;have hd : (Lib.splitB ⟨#[47]⟩ 0 (Lib.countB ⟨l.toArray⟩ ⟨#[47]⟩) ⟨l.toArray⟩).map (·.data.toList) = Lib.split l [47] := by
  rw [Lib.splitB_data];simp [Lib.split,Lib.countB]
 have hn : Lib.countB ⟨l.toArray⟩ ⟨#[47]⟩ + 1 = (Lib.split l [47]).length := by
  rw [← hd,List.length_map,Lib.splitB_all _ (by decide) 0 _ _ rfl]
 have hcs : (Lib.splitB ⟨#[47]⟩ 0 (Lib.countB ⟨l.toArray⟩ ⟨#[47]⟩) ⟨l.toArray⟩).map Value.string = (Lib.split l [47]).map strV := by
  rw [← hd,List.map_map];exact List.map_congr_left fun s _ => QeU s
 rw [hcs,hn];have hr := Qc7 w 9 (0,0) ((Lib.split l [47]).map strV);rw [List.length_map] at hr;exact ⟨_,_,rfl,rfl,hr,Fr.new _ _ _⟩
theorem all_snoc {ls : List Bs} {k : Nat} {x : Bs} (f : Bs → Bool) (h : ls[k]? = some x) : (ls.take (k + 1)).all f = ((ls.take k).all f && f x) := by
 obtain ⟨hk,rfl⟩ := List.getElem?_eq_some_iff.1 h;rw [List.take_succ_eq_append_getElem hk,List.all_append];simp
theorem Zone_any (l : Bs) (w : World) (hl : l.length ≤ 1000000) (hw : WOk w) (x : Bool) (hx : Qcd l = x) : Calls Tryz.prog 173 #[strV l] w fun e w' => e = .returned (.bool x) ∧ Fr w w' (fun _ => False) := by
 have hsz := Qal l;have HSP := Xi (Qqs l w hl hw);obtain ⟨s,hs⟩ : ∃ s : ByteArray,s = ⟨l.toArray⟩ := ⟨_,rfl⟩;rw [← hs] at hsz;rw [show strV l = .string s by rw [hs]] at HSP ⊢;by_cases h30 : l.length ≤ 30
 ·have HZ := Xi (Qof l h30);rw [hx] at HZ;obtain ⟨p1,p2⟩ := Qd9 l;have HP1 := Xi p1;obtain ⟨ps,hps⟩ : ∃ ps,Lib.split l [47] = ps := ⟨_,rfl⟩;rw [hps] at HSP HZ HP1 p2;have h' : (s.size : Int) ≤ 30 := by omega
  clear hx hw p1 hps hs hsz;go_enter func173,ntmps173;go_wp2_with fail;refine HSP.out.mono ?_;rintro e w2 ⟨A,n,hn,rfl,hr,hf⟩;have HN := Xi hn;have HR := Xi hr;have HF := Xi hf;have hn31 : n ≤ 31 := by omega
  clear hn hr hf;go_wp2_with fail
  go_loopg [4,11] n (fun g _ v11 wr => ∃ k : Nat,k + g = n ∧ v11 = .int .i64 (k : Int) ∧ (ps.take k).all Qg3 = true ∧ Fr w2 wr (fun _ => False))
  case atStart => exact ⟨0,by omega,rfl,rfl,Fr.refl _ _⟩
  case round =>
   obtain ⟨k,hk,rfl,hall,hf⟩ := hrel;have HA := Xi hall;have HF2 := Xi hf;have HR2 := Xi (Qki HR.out hf);clear hall hf;by_cases hlt : k < n
   ·obtain ⟨b,o,y,rfl,hy,hc⟩ := Qcu HR2.out hlt;have hyl := HP1.out y (List.mem_of_getElem? hy);have h1 : (k : Int) < (n : Int) := by omega
    have h2 : (0 : Int) ≤ (k : Int) := by omega
    have hsn := all_snoc Qg3 hy;obtain ⟨z,hz⟩ : ∃ z,Qg3 y = z := ⟨_,rfl⟩;have hys := Qal y;have HC := Xi (conP_any ⟨y.toArray⟩ wr (by omega) z hz);rw [HA.out,hz] at hsn;have HSN := Xi hsn;have HY := Xi hy;have HPB := Xi hz;clear hsn hy hz hys hyl;cases z with
    | true =>
     go_wp2_with fail;refine HC.out.mono ?_;rintro e w3 ⟨rfl,rfl⟩;go_wp2_with fail
     go_roundg (n - (k + 1))
     case measure => omega
     case rel => exact ⟨k + 1,by omega,by go_num,HSN.out,HF2.out⟩
    | false =>
     have hf : x = false := by
      rw [HZ.out,Bool.eq_false_iff];intro e;have := List.all_eq_true.1 e y (List.mem_of_getElem? HY.out);rw [HPB.out] at this;cases this
     subst hf;go_wp2_with fail;refine HC.out.mono ?_;rintro e w3 ⟨rfl,rfl⟩;go_wp2_with fail;go_ret;exact ⟨rfl,ff HF.out HF2.out⟩
   ·have hkn : k = n := by omega
    have hf : x = true := by
     have := HA.out;rw [List.take_of_length_le (by have := HN.out; omega)] at this;rw [HZ.out,this]
    subst hf;subst hkn;go_wp2_with fail;go_ret;exact ⟨rfl,ff HF.out HF2.out⟩
 ·have hf : x = false := by
   rw [← hx,Qcd,decide_eq_false h30];simp
  subst hf;have h' : (30 : Int) < (s.size : Int) := by omega
  clear hx hw hs hsz h30;go_enter func173,ntmps173;go_wp2_with fail;go_ret;exact ⟨rfl,Fr.refl _ _⟩
theorem Rule_any (l : Bs) (w : World) (hl : l.length ≤ 1000000) (x : Bool) (hx : Qc4 l = x) : Calls Tryz.prog 184 #[strV l] w fun e w' => e = .returned (.bool x) ∧ Fr w w' (fun _ => False) := by
 have hsz := Qal l;obtain ⟨s,hs⟩ : ∃ s : ByteArray,s = ⟨l.toArray⟩ := ⟨_,rfl⟩;rw [← hs] at hsz;have hsl : s.data.toList = l := by rw [hs]
 rw [show strV l = .string s by rw [hs]];by_cases h30 : l.length ≤ 30
 ·have h' : (s.size : Int) ≤ 30 := by omega
  have HC := Xi (conR_any s w (by omega) x (by
   rw [hsl,← hx,Qc4,decide_eq_true h30];cases l with
   | nil => rfl
   | cons c r => simp))
  clear hx hs hsz h30 hsl hl;go_enter func184,ntmps184;go_wp2_with fail;refine HC.out.mono ?_;rintro e w3 ⟨rfl,rfl⟩;go_wp2_with fail;go_ret;exact ⟨rfl,Fr.refl _ _⟩
 ·have hf : x = false := by
   rw [← hx,Qc4,decide_eq_false h30];simp
  subst hf;have h' : (30 : Int) < (s.size : Int) := by omega
  clear hx hs hsz h30 hsl hl;go_enter func184,ntmps184;go_wp2_with fail;go_ret;exact ⟨rfl,Fr.refl _ _⟩
end Go.Proofs.YtodcnbejnchmhaaGreatDoor.S8
namespace Go.Proofs.YtodcnbejnchmhaaGreatDoor
open Go.RowKit Go.Mem Go.Lin

def QiT : List Int := [0,0,10,10,5,9,3,7,3,3]
/-- what the listed variables hold -/
structure LOk (w : World) : Prop where
 base : S6.WOk w
 slots : ∀ i,i < 3 → w.cell? ⟨4,i,none⟩ = some (strV (QcR.getD i []))
 counts : ∀ i,i < 10 → w.cell? ⟨1,i,none⟩ = some (intV (QiT.getD i 0))
theorem LOk.fr {w w' : World} (h : LOk w) (f : Fr w w' (fun _ => False)) : LOk w' := ⟨h.base.fr f,fun i hi => f.cell0 (h.slots i hi),fun i hi => f.cell0 (h.counts i hi)⟩
theorem LOk.kwd {w : World} (h : LOk w) : S8.WOk w := ⟨h.base.pow,h.base.max,h.base.ran⟩
theorem ff {a c d : World} (h : Fr a c (fun _ => False)) (h2 : Fr c d (fun _ => False)) : Fr a d (fun _ => False) := h.trans h2 (fun _ _ h => h) (fun _ _ h => h)
theorem fd {a b : World} (h : Fr a b (fun _ => False)) (n : Nat) : Fr a (b.drewN n) (fun _ => False) := ff h (Fr.drewN _ _ _)
theorem Qal (l : Bs) : (⟨l.toArray⟩ : ByteArray).size = l.length := by show l.toArray.size = _; simp
/-- what Parse answers -/
def Qb8 (l : Bs) : LineL := if (S7.Qbi l).2.2 ≠ 0 then QaC (S7.Qbi l).2.2 (S7.Qbi l).2.1 else Qdi (S7.Qbi l).1
def ParseC : Prop := ∀ (l : Bs) (x : LineL) (W : World),LOk W → l.length ≤ 100000 → Qb8 l = x → Calls Tryz.prog 43 #[strV l] W fun e w' => e = .returned (QeL x) ∧ Fr W w' (fun _ => False)
/- the laws,without the program -/
/-- what any text says is right,or it is wrong -/
theorem Qc8 (l : Bs) : Qml (Qb8 l) ∨ ∃ k c,Qb8 l = QaC k c ∧ k ≠ 0 := by
 unfold Qb8;split
 ·rename_i h;exact .inr ⟨_,_,rfl,h⟩
 ·rcases QnF (S7.Qbi l).1 with h | ⟨k,c,h,hk,-⟩
  ·exact .inl h
  ·exact .inr ⟨k,c,h,hk⟩
end Go.Proofs.YtodcnbejnchmhaaGreatDoor
namespace Go.Proofs.YtodcnbejnchmhaaGreatDoor
open _root_.Go.Proofs.Tryz
open Go.ChangeShapes Go.WideShapes Go.ChangeAt Go.RowKit Go.Mem Go.Dfm

theorem own : ownKnob Tryz.prog.godebug = none := by kernel_rfl
theorem QpN : laidOutB Tryz.prog = true := by kernel_rfl
theorem gPow : Tryz.prog.globalNamed "internal/strconv.uint64pow10" = some 10 := by kernel_rfl
theorem gPowType : (Tryz.prog.globals[10]?).map (·.type) = some 298 := by kernel_rfl
theorem cellsPow : Tryz.prog.cellsOf 298 = 20 := by kernel_rfl
theorem cellsU64 : Tryz.prog.cellsOf 275 = 1 := by kernel_rfl
theorem gLen : Tryz.prog.globalNamed "noonmark/civil.lengths" = some 7 := by kernel_rfl
theorem gLenType : (Tryz.prog.globals[7]?).map (·.type) = some 284 := by kernel_rfl
theorem cellsArr : Tryz.prog.cellsOf 284 = 12 := by kernel_rfl
theorem QmF : Tryz.prog.cellsOf 3 = 1 := by kernel_rfl
theorem cellsStr : Tryz.prog.cellsOf 9 = 1 := by kernel_rfl
theorem gMarks : Tryz.prog.globalNamed "noonmark/dayform.marks" = some 5 := by kernel_rfl
theorem QnS : (Tryz.prog.globals[5]?).map (·.type) = some 269 := by kernel_rfl
theorem gNames : Tryz.prog.globalNamed "noonmark/dayform.dayNames" = some 6 := by kernel_rfl
theorem QnR : (Tryz.prog.globals[6]?).map (·.type) = some 281 := by kernel_rfl
theorem gSyn : Tryz.prog.globalNamed "strconv.ErrSyntax" = some 8 := by kernel_rfl
theorem gSynType : (Tryz.prog.globals[8]?).map (·.type) = some 195 := by kernel_rfl
theorem gRan : Tryz.prog.globalNamed "strconv.ErrRange" = some 9 := by kernel_rfl
theorem gRanType : (Tryz.prog.globals[9]?).map (·.type) = some 195 := by kernel_rfl
theorem gCounts : Tryz.prog.globalNamed "noonmark/line.counts" = some 1 := by kernel_rfl
theorem Qll : (Tryz.prog.globals[1]?).map (·.type) = some 223 := by kernel_rfl
theorem gSlots : Tryz.prog.globalNamed "noonmark/line.slots" = some 4 := by kernel_rfl
theorem QnQ : (Tryz.prog.globals[4]?).map (·.type) = some 263 := by kernel_rfl
theorem Qqe : Tryz.prog.cellsOf 222 = 2 := by kernel_rfl
abbrev Qby : List (String × DataW Unit) := [("math/bits.deBruijn32tab", Rows.laid_math_bits_deBruijn32tab), ("math/bits.deBruijn64tab", Rows.laid_math_bits_deBruijn64tab), ("internal/strconv.uint64pow10", Rows.laid_internal_strconv_uint64pow10), ("noonmark/civil.lengths", Rows.laid_noonmark_civil_lengths), ("unicode/utf8.acceptRanges", Rows.laid_unicode_utf8_acceptRanges), ("strconv.ErrRange", Rows.laid_strconv_ErrRange), ("strconv.ErrSyntax", Rows.laid_strconv_ErrSyntax), ("noonmark/dayform.marks", Rows.laid_noonmark_dayform_marks), ("noonmark/dayform.dayNames", Rows.laid_noonmark_dayform_dayNames), ("noonmark/line.counts", Rows.laid_noonmark_line_counts), ("noonmark/line.slots", Rows.laid_noonmark_line_slots), ("unicode/utf8.first", Rows.laid_unicode_utf8_first)]

theorem lok {W : World} (h : laidMetH Tryz.prog Qby W) : S6.LOk W := by
 have h1 := h.filter (fun x => x.1 == "noonmark/civil.lengths");have h2 : Qby.filter (fun x => x.1 == "noonmark/civil.lengths") = [("noonmark/civil.lengths", Rows.laid_noonmark_civil_lengths)] := by kernel_rfl
 rw [h2] at h1;have ht := Lib.tabIs_of_head (rest := []) (zs := S6.Qmn) gLen gLenType underlying284 underlying3 QmF cellsArr h1;exact fun i hi => ht.cell gLen i hi
theorem table {W : World} (h : laidMetH Tryz.prog Qby W) : Lib.TabBelow Tryz.prog W.heap.size W "internal/strconv.uint64pow10" .u64 Lib.pow10Tab := by
 have h1 := h.filter (fun x => x.1 == "internal/strconv.uint64pow10");have h2 : Qby.filter (fun x => x.1 == "internal/strconv.uint64pow10") = [("internal/strconv.uint64pow10", Rows.laid_internal_strconv_uint64pow10)] := by kernel_rfl
 rw [h2] at h1;exact Lib.tabBelow_of_tabIs (Lib.tabIs_of_head (rest := []) (zs := Lib.pow10Tab) gPow gPowType underlying298 underlying275 cellsU64 cellsPow h1)
/-- an array of strings that is laid -/
theorem QgJ {W : World} {name : String} {g : Nat} {t : TypeId} {n : Nat} {zs : List Go.Lin.Bs} (hg : Tryz.prog.globalNamed name = some g) (hty : (Tryz.prog.globals[g]?).map (·.type) = some t) (ht : Tryz.prog.underlying t = some (.array n 9))
  (h : Lib.VarReads Tryz.prog W name (.agg (zs.map fun z => .lit (.string z)))) (i : Nat) (hi : i < n) : W.cell? ⟨g,i,none⟩ = some (strV (zs.getD i [])) := by
 obtain ⟨g',t',cs,fuel,p,hg',ht',hv,hd⟩ := h;obtain rfl := Option.some.inj (hg.symm.trans hg');obtain rfl := Option.some.inj (hty.symm.trans ht');obtain ⟨f',d,q,hds,he⟩ := Lib.array_elem ht hd i hi;rw [cellsStr,Nat.mul_one] at he;obtain ⟨s,hs,hx,_⟩ := DataW.trod_string underlying9 he;have hd2 : d = .lit (.string s.data.toList) := congrArg Prod.fst hx;rw [List.getElem?_map,hd2] at hds;obtain ⟨z,hz,e⟩ := Option.map_eq_some_iff.1 hds;injection e with e;injection e with e;have hc := World.var?_cell hg hv i;have h1 := congrArg (·[0]?) hs;simp only [List.getElem?_take,List.getElem?_drop,Nat.add_zero] at h1;rw [if_pos (by decide)] at h1;rw [hc,← Array.getElem?_toList,h1,List.getD_eq_getElem?_getD,hz];show some (Value.string s) = some (strV z);rw [e]
/-- an array of pairs of ints that is laid -/
theorem Qnz {W : World} {name : String} {g : Nat} {t : TypeId} {n : Nat} {zs : List (Int × Int)} (hg : Tryz.prog.globalNamed name = some g) (hty : (Tryz.prog.globals[g]?).map (·.type) = some t) (ht : Tryz.prog.underlying t = some (.array n 222))
  (h : Lib.VarReads Tryz.prog W name (.agg (zs.map fun z => .agg [.lit (.int .i64 z.1),.lit (.int .i64 z.2)]))) (i : Nat) (hi : i < n) :
  W.cell? ⟨g,i * 2,none⟩ = some (intV (zs.getD i (0,0)).1) ∧ W.cell? ⟨g,i * 2 + 1,none⟩ = some (intV (zs.getD i (0,0)).2) := by
 obtain ⟨g',t',cs,fuel,p,hg',ht',hv,hd⟩ := h;obtain rfl := Option.some.inj (hg.symm.trans hg');obtain rfl := Option.some.inj (hty.symm.trans ht');obtain ⟨f',d,q,hds,he⟩ := Lib.array_elem ht hd i hi;rw [Qqe] at he;obtain ⟨xs,m,-,hx,-,hlen,hf⟩ := DataW.trod_struct underlying222 he;obtain ⟨x0,x1,rfl⟩ : ∃ x0 x1,xs = [x0,x1] := by
  match xs,hlen with
  | [a,b],_ => exact ⟨a,b,rfl⟩
 have a0 := hf 0 _ rfl;have a1 := hf 1 _ rfl;obtain ⟨n0,e0,g0,-⟩ := DataW.trod_int underlying3 a0;obtain ⟨n1,e1,g1,-⟩ := DataW.trod_int underlying3 a1;have h0 := congrArg (·[0]?) e0;have h1 := congrArg (·[0]?) e1;simp [QmF,List.getElem?_drop] at h0 h1;have hd2 : d = .agg [x0.1,x1.1] := congrArg Prod.fst hx;rw [g0,g1] at hd2;rw [List.getElem?_map,hd2] at hds;obtain ⟨z,hz,e⟩ := Option.map_eq_some_iff.1 hds;injection e with e;injection e with b0 b1;injection b0 with b0;injection b0 with _ b0;injection b1 with b1 _;injection b1 with b1;injection b1 with _ b1;have hgd : zs.getD i (0,0) = z := by rw [List.getD_eq_getElem?_getD,hz]; rfl
 rw [hgd,b0,b1];refine ⟨?_,?_⟩
 ·rw [World.var?_cell hg hv (i * 2)];exact h0
 ·rw [World.var?_cell hg hv (i * 2 + 1)];exact h1
theorem QjW {W : World} {name : String} {g : Nat} {dt : DataW Unit} {nm : String} {d : DataW Unit} (hd0 : dt = .iface nm d) (hg : Tryz.prog.globalNamed name = some g) (hty : (Tryz.prog.globals[g]?).map (·.type) = some 195)
  (h : Lib.VarReads Tryz.prog W name dt) : ∃ t p,W.cell? ⟨g,0,none⟩ = some (.iface t p) := by
 subst hd0;obtain ⟨g',t',cs,fuel,p,hg',ht',hv,hd⟩ := h;obtain rfl := Option.some.inj (hg.symm.trans hg');obtain rfl := Option.some.inj (hty.symm.trans ht');obtain ⟨_,u,v,hcs,_,_⟩ := iface_of_trod underlying195 hd;have hc := World.var?_cell hg hv 0;refine ⟨u,v,?_⟩;rw [hc,← Array.getElem?_toList,hcs];rfl
theorem reads4 {W : World} (h : laidMetH Tryz.prog Qby W) : Lib.VarReads Tryz.prog W "strconv.ErrRange" Rows.laid_strconv_ErrRange := by
 have h1 := h.filter (fun x => x.1 == "strconv.ErrRange");have h2 : Qby.filter (fun x => x.1 == "strconv.ErrRange") = [("strconv.ErrRange", Rows.laid_strconv_ErrRange)] := by kernel_rfl
 rw [h2] at h1;exact Lib.laidMet.reads h1 (.head _)
theorem reads5 {W : World} (h : laidMetH Tryz.prog Qby W) : Lib.VarReads Tryz.prog W "strconv.ErrSyntax" Rows.laid_strconv_ErrSyntax := by
 have h1 := h.filter (fun x => x.1 == "strconv.ErrSyntax");have h2 : Qby.filter (fun x => x.1 == "strconv.ErrSyntax") = [("strconv.ErrSyntax", Rows.laid_strconv_ErrSyntax)] := by kernel_rfl
 rw [h2] at h1;exact Lib.laidMet.reads h1 (.head _)
theorem reads6 {W : World} (h : laidMetH Tryz.prog Qby W) : Lib.VarReads Tryz.prog W "noonmark/dayform.marks" Rows.laid_noonmark_dayform_marks := by
 have h1 := h.filter (fun x => x.1 == "noonmark/dayform.marks");have h2 : Qby.filter (fun x => x.1 == "noonmark/dayform.marks") = [("noonmark/dayform.marks", Rows.laid_noonmark_dayform_marks)] := by kernel_rfl
 rw [h2] at h1;exact Lib.laidMet.reads h1 (.head _)
theorem reads7 {W : World} (h : laidMetH Tryz.prog Qby W) : Lib.VarReads Tryz.prog W "noonmark/dayform.dayNames" Rows.laid_noonmark_dayform_dayNames := by
 have h1 := h.filter (fun x => x.1 == "noonmark/dayform.dayNames");have h2 : Qby.filter (fun x => x.1 == "noonmark/dayform.dayNames") = [("noonmark/dayform.dayNames", Rows.laid_noonmark_dayform_dayNames)] := by kernel_rfl
 rw [h2] at h1;exact Lib.laidMet.reads h1 (.head _)
theorem reads8 {W : World} (h : laidMetH Tryz.prog Qby W) : Lib.VarReads Tryz.prog W "noonmark/line.counts" Rows.laid_noonmark_line_counts := by
 have h1 := h.filter (fun x => x.1 == "noonmark/line.counts");have h2 : Qby.filter (fun x => x.1 == "noonmark/line.counts") = [("noonmark/line.counts", Rows.laid_noonmark_line_counts)] := by kernel_rfl
 rw [h2] at h1;exact Lib.laidMet.reads h1 (.head _)
theorem reads9 {W : World} (h : laidMetH Tryz.prog Qby W) : Lib.VarReads Tryz.prog W "noonmark/line.slots" Rows.laid_noonmark_line_slots := by
 have h1 := h.filter (fun x => x.1 == "noonmark/line.slots");have h2 : Qby.filter (fun x => x.1 == "noonmark/line.slots") = [("noonmark/line.slots", Rows.laid_noonmark_line_slots)] := by kernel_rfl
 rw [h2] at h1;exact Lib.laidMet.reads h1 (.head _)
def Qpr : List (Int × Int) := [(0,0),(10,10),(5,9),(3,7),(3,3)]
theorem Qlx {W : World} (h : laidMetH Tryz.prog Qby W) (i : Nat) (hi : i < 10) : W.cell? ⟨1,i,none⟩ = some (intV (QiT.getD i 0)) := by
 have hk : ∀ j : Fin 5,QiT.getD (j.val * 2) 0 = (Qpr.getD j.val (0,0)).1 ∧ QiT.getD (j.val * 2 + 1) 0 = (Qpr.getD j.val (0,0)).2 := by decide
 obtain ⟨j,hj,e⟩ : ∃ j,j < 5 ∧ (i = j * 2 ∨ i = j * 2 + 1) := ⟨i / 2,by omega,by omega⟩;have hp := Qnz (zs := Qpr) gCounts Qll underlying223 (reads8 h) j hj;rcases e with e | e
 ·rw [e,hp.1,(hk ⟨j,hj⟩).1]
 ·rw [e,hp.2,(hk ⟨j,hj⟩).2]
theorem Qk6 {W : World} (h : W.ShapedOpen Tryz.prog) : ∃ m,W.cell? ⟨0,0,none⟩ = some (.int .i64 m) :=
 Go.Proofs.cell_of_shapedOpen_int (zero := #[.int .i64 0]) (t := 3) h (of_decide_eq_true (by kernel_rfl)) (by kernel_rfl) rfl (by kernel_rfl) (by kernel_rfl) underlying3
theorem wok {W : World} (h : laidMetH Tryz.prog Qby W) (hs : W.ShapedOpen Tryz.prog) : LOk W := by
 refine ⟨⟨lok h,⟨_,Nat.le_refl _,table h⟩,Qk6 hs,?_,?_,fun i hi => ?_,fun i hi => ?_⟩,fun i hi => ?_,fun i hi => Qlx h i hi⟩
 ·exact QjW rfl gSyn gSynType (reads5 h)
 ·exact QjW rfl gRan gRanType (reads4 h)
 ·exact QgJ (zs := S6.marksT) gMarks QnS underlying269 (reads6 h) i hi
 ·exact QgJ (zs := Qee) gNames QnR underlying281 (reads7 h) i hi
 ·exact QgJ (zs := Go.Lin.QcR) gSlots QnQ underlying263 (reads9 h) i hi
theorem laid_met (os : Os) (args : Array Value) : laidMet Tryz.prog Qby ((World.laidAll Tryz.prog os Qby).forCall (fun _ _ => 0) ⟨#[],args,[]⟩).memory :=
 laidMet_laidAll args (by kernel_rfl) (by kernel_rfl)
end Go.Proofs.YtodcnbejnchmhaaGreatDoor
namespace Go.Proofs.YtodcnbejnchmhaaGreatDoor
open _root_.Go.Proofs.Tryz
open Go.RowKit Go.Mem Go.Lin

theorem QdS (c : UInt8) (w : World) : Calls Tryz.prog 183 #[.int .u8 (c.toNat : Int)] w fun e w' => e = .returned (.bool (Go.Kwd.Qbc c)) ∧ w = w' := by
 have HX := Xi (show Go.Kwd.Qbc c = (decide ((48 : Int) ≤ (c.toNat : Int)) && decide ((c.toNat : Int) ≤ 57)) by unfold Go.Kwd.Qbc; congr 1 <;> simp <;> omega);obtain ⟨x,hx⟩ : ∃ x,Go.Kwd.Qbc c = x := ⟨_,rfl⟩;rw [hx] at HX ⊢;generalize (c.toNat : Int) = n at *;clear hx;by_cases h1 : (48 : Int) ≤ n
 all_goals by_cases h2 : n ≤ 57
 all_goals
  go_enter func183,ntmps183;go_wp2_with fail;go_ret;exact ⟨by rw [HX.out]; simp [h1,h2],rfl⟩
theorem QdZ (c : UInt8) (w : World) : Calls Tryz.prog 198 #[.int .u8 (c.toNat : Int)] w fun e w' => e = .returned (.bool (letB c)) ∧ w = w' := by
 have HX := Xi (show letB c = ((decide ((97 : Int) ≤ (c.toNat : Int)) && decide ((c.toNat : Int) ≤ 122)) || (decide ((65 : Int) ≤ (c.toNat : Int)) && decide ((c.toNat : Int) ≤ 90)) || Go.Kwd.Qbc c || (c.toNat : Int) == 43) by
  have h43 : (c == 43) = ((c.toNat : Int) == 43) := S8.QbC c 43;unfold letB Go.Kwd.Qba;rw [h43];congr 3
  ·congr 1 <;> simp <;> omega
  ·congr 1 <;> simp <;> omega)
 have HD := Xi (QdS c w);obtain ⟨x,hx⟩ : ∃ x,letB c = x := ⟨_,rfl⟩;rw [hx] at HX ⊢;obtain ⟨z,hz⟩ : ∃ z,Go.Kwd.Qbc c = z := ⟨_,rfl⟩;rw [hz] at HX HD;generalize (c.toNat : Int) = n at *;clear hx hz;by_cases h0 : 97 ≤ n ∧ n ≤ 122
 ·obtain ⟨h1,h2⟩ := h0;go_enter func198,ntmps198;go_wp2_with fail;go_ret;exact ⟨by rw [HX.out]; simp [h1,h2] <;> omega,rfl⟩
 by_cases h0 : 65 ≤ n ∧ n ≤ 90
 ·obtain ⟨h3,h4⟩ := h0;have h1 : ¬ 97 ≤ n := by omega
  go_enter func198,ntmps198;go_wp2_with fail;go_ret;exact ⟨by rw [HX.out]; simp [h3,h4] <;> omega,rfl⟩
 have hr : 122 < n ∨ (90 < n ∧ n < 97) ∨ n < 65 := by omega
 rcases hr with hr | hr | hr
 ·have h1 : 97 ≤ n := by omega
  have h2 : ¬ n ≤ 122 := by omega
  have h3 : 65 ≤ n := by omega
  have h4 : ¬ n ≤ 90 := by omega
  clear hr;cases z
  ·cases h5 : (n == 43)
   all_goals
    go_enter func198,ntmps198;go_wp2_with fail;refine HD.out.mono ?_;rintro e w2 ⟨rfl,rfl⟩;go_wp2_with fail;go_ret;exact ⟨by rw [HX.out]; simp [h1,h2,h3,h4,h5] <;> omega,rfl⟩
  ·go_enter func198,ntmps198;go_wp2_with fail;refine HD.out.mono ?_;rintro e w2 ⟨rfl,rfl⟩;go_wp2_with fail;go_ret;exact ⟨by rw [HX.out]; simp [h1,h3] <;> omega,rfl⟩
 ·have h1 : ¬ 97 ≤ n := by omega
  have h3 : 65 ≤ n := by omega
  have h4 : ¬ n ≤ 90 := by omega
  clear hr;cases z
  ·cases h5 : (n == 43)
   all_goals
    go_enter func198,ntmps198;go_wp2_with fail;refine HD.out.mono ?_;rintro e w2 ⟨rfl,rfl⟩;go_wp2_with fail;go_ret;exact ⟨by rw [HX.out]; simp [h3,h4,h5] <;> omega,rfl⟩
  ·go_enter func198,ntmps198;go_wp2_with fail;refine HD.out.mono ?_;rintro e w2 ⟨rfl,rfl⟩;go_wp2_with fail;go_ret;exact ⟨by rw [HX.out]; simp [h3] <;> omega,rfl⟩
 ·have h1 : ¬ 97 ≤ n := by omega
  have h3 : ¬ 65 ≤ n := by omega
  clear hr;cases z
  ·cases h5 : (n == 43)
   all_goals
    go_enter func198,ntmps198;go_wp2_with fail;refine HD.out.mono ?_;rintro e w2 ⟨rfl,rfl⟩;go_wp2_with fail;go_ret;exact ⟨by rw [HX.out]; simp [h5] <;> omega,rfl⟩
  ·go_enter func198,ntmps198;go_wp2_with fail;refine HD.out.mono ?_;rintro e w2 ⟨rfl,rfl⟩;go_wp2_with fail;go_ret;exact ⟨by rw [HX.out]; simp <;> omega,rfl⟩
theorem Qgc (c : UInt8) (w : World) : Calls Tryz.prog 203 #[.int .u8 (c.toNat : Int)] w fun e w' => e = .returned (.bool (QcS c)) ∧ w = w' := by
 have HX := Xi (show QcS c = (letB c || (c.toNat : Int) == 45) by unfold QcS; rw [S8.QbC]; rfl);have HS := Xi (QdZ c w);obtain ⟨x,hx⟩ : ∃ x,QcS c = x := ⟨_,rfl⟩;rw [hx] at HX ⊢;obtain ⟨y,hy⟩ : ∃ y,letB c = y := ⟨_,rfl⟩;rw [hy] at HX HS;generalize (c.toNat : Int) = n at *;clear hx hy;cases y
 ·cases h1 : (n == 45)
  all_goals
   go_enter func203,ntmps203;go_wp2_with fail;refine HS.out.mono ?_;rintro e w2 ⟨rfl,rfl⟩;go_wp2_with fail;go_ret;exact ⟨by rw [HX.out]; simp [h1],rfl⟩
 ·go_enter func203,ntmps203;go_wp2_with fail;refine HS.out.mono ?_;rintro e w2 ⟨rfl,rfl⟩;go_wp2_with fail;go_ret;exact ⟨by rw [HX.out]; simp,rfl⟩
theorem QcC (b : Bool) (k : Int) (w : World) : Calls Tryz.prog 172 #[.bool b,intV k] w fun e w' => e = .returned (intV (if b = true then 0 else k)) ∧ w = w' := by
 cases b
 all_goals
  go_enter func172,ntmps172;go_wp2_with fail;go_ret;exact ⟨rfl,rfl⟩
theorem Qmx (l : Bs) (m : Int) (w : World) (x : Bool) (hx : (decide (1 ≤ l.length) && decide ((l.length : Int) ≤ m)) = x) : Calls Tryz.prog 196 #[strV l,intV m] w fun e w' => e = .returned (.bool x) ∧ w = w' := by
 have HX := Xi hx;clear hx;by_cases h1 : (1 : Int) ≤ (l.length : Int)
 ·by_cases h2 : (l.length : Int) ≤ m
  ·have h3 : decide (1 ≤ l.length) = true := decide_eq_true (by omega);have hf : true = x := by rw [← HX.out,h3]; simp [h2]
   subst hf;clear HX h3;go_enter func196,ntmps196;go_wp2_with fail;go_ret;exact ⟨by simp,rfl⟩
  ·have hf : false = x := by rw [← HX.out]; simp [h2]
   subst hf;clear HX;go_enter func196,ntmps196;go_wp2_with fail;go_ret;exact ⟨by simp,rfl⟩
 ·have h3 : decide (1 ≤ l.length) = false := decide_eq_false (by omega);have hf : false = x := by rw [← HX.out,h3]; rfl
  subst hf;clear HX h3;go_enter func196,ntmps196;go_wp2_with fail;go_ret;exact ⟨by simp,rfl⟩
theorem all_at (s : ByteArray) (E : UInt8 → Bool) : s.data.toList.all E = true ↔ ∀ j (h : j < s.size),E s[j] = true := by
 rw [List.all_eq_true];constructor
 ·intro h k hk;exact h _ (List.getElem_mem (by rw [S8.Qag]; exact hk))
 ·intro h x hx;obtain ⟨k,hk,e⟩ := List.getElem_of_mem hx;rw [← e];exact h k (by rw [S8.Qag] at hk; exact hk)
theorem conL_any (s : ByteArray) (w : World) (hs : s.size ≤ 1000000) (x : Bool) (hx : s.data.toList.all letB = x) :
  Calls Tryz.prog 197 #[.string s,.func (.func 198) #[] #[]] w fun e w' => e = .returned (.bool x) ∧ w = w' := by
 have HX := Xi (all_at s letB);rw [hx] at HX;clear hx;go_enter func197,ntmps197;go_wp2_with fail
 go_loopg [5,8] s.size (fun g _ v8 wr => ∃ k : Nat,k + g = s.size ∧ v8 = .int .i64 (k : Int) ∧ (∀ j (h : j < s.size),j < k → letB s[j] = true) ∧ w = wr)
 case atStart => exact ⟨0,by omega,rfl,fun j _ h => absurd h (by omega),rfl⟩
 case round =>
  obtain ⟨k,hk,rfl,hall,rfl⟩ := hrel;have HA := Xi hall;clear hall;by_cases hlt : k < s.size
  ·have i0 : (0 : Int) ≤ (k : Int) := by omega
   have i1 : (k : Int) < (s.size : Int) := by omega
   obtain ⟨z,hz⟩ : ∃ z,letB s[k] = z := ⟨_,rfl⟩;have HE := Xi (QdZ s[k] w);have HE := Xi (show Calls Tryz.prog 198 #[.int .u8 (s[k].toNat : Int)] w fun e w' => e = .returned (.bool z) ∧ w = w' by rw [← hz]; exact HE.out);have HZ := Xi hz;clear hz;cases z with
   | true =>
    go_wp2_with fail;refine HE.out.mono ?_;rintro e w2 ⟨rfl,rfl⟩;go_wp2_with fail
    go_roundg (s.size - (k + 1))
    case measure => omega
    case rel => exact ⟨k + 1,by omega,by go_num,fun j h hj => by
     by_cases e : j = k
     ·subst e; exact HZ.out
     ·exact HA.out j h (by omega),rfl⟩
   | false =>
    have hf : x = false := by
     rw [Bool.eq_false_iff];intro e;have := HX.out.1 e k hlt;rw [HZ.out] at this;cases this
    subst hf;go_wp2_with fail;refine HE.out.mono ?_;rintro e w2 ⟨rfl,rfl⟩;go_wp2_with fail;go_ret;exact ⟨rfl,rfl⟩
  ·have hf : x = true := HX.out.2 (fun j h => HA.out j h (by omega));subst hf;have hk' : k = s.size := by omega
   subst hk';go_wp2_with fail;go_ret;exact ⟨rfl,rfl⟩
theorem conF_any (s : ByteArray) (w : World) (hs : s.size ≤ 1000000) (x : Bool) (hx : s.data.toList.all QcS = x) :
  Calls Tryz.prog 197 #[.string s,.func (.func 203) #[] #[]] w fun e w' => e = .returned (.bool x) ∧ w = w' := by
 have HX := Xi (all_at s QcS);rw [hx] at HX;clear hx;go_enter func197,ntmps197;go_wp2_with fail
 go_loopg [5,8] s.size (fun g _ v8 wr => ∃ k : Nat,k + g = s.size ∧ v8 = .int .i64 (k : Int) ∧ (∀ j (h : j < s.size),j < k → QcS s[j] = true) ∧ w = wr)
 case atStart => exact ⟨0,by omega,rfl,fun j _ h => absurd h (by omega),rfl⟩
 case round =>
  obtain ⟨k,hk,rfl,hall,rfl⟩ := hrel;have HA := Xi hall;clear hall;by_cases hlt : k < s.size
  ·have i0 : (0 : Int) ≤ (k : Int) := by omega
   have i1 : (k : Int) < (s.size : Int) := by omega
   obtain ⟨z,hz⟩ : ∃ z,QcS s[k] = z := ⟨_,rfl⟩;have HE := Xi (Qgc s[k] w);have HE := Xi (show Calls Tryz.prog 203 #[.int .u8 (s[k].toNat : Int)] w fun e w' => e = .returned (.bool z) ∧ w = w' by rw [← hz]; exact HE.out);have HZ := Xi hz;clear hz;cases z with
   | true =>
    go_wp2_with fail;refine HE.out.mono ?_;rintro e w2 ⟨rfl,rfl⟩;go_wp2_with fail
    go_roundg (s.size - (k + 1))
    case measure => omega
    case rel => exact ⟨k + 1,by omega,by go_num,fun j h hj => by
     by_cases e : j = k
     ·subst e; exact HZ.out
     ·exact HA.out j h (by omega),rfl⟩
   | false =>
    have hf : x = false := by
     rw [Bool.eq_false_iff];intro e;have := HX.out.1 e k hlt;rw [HZ.out] at this;cases this
    subst hf;go_wp2_with fail;refine HE.out.mono ?_;rintro e w2 ⟨rfl,rfl⟩;go_wp2_with fail;go_ret;exact ⟨rfl,rfl⟩
  ·have hf : x = true := HX.out.2 (fun j h => HA.out j h (by omega));subst hf;have hk' : k = s.size := by omega
   subst hk';go_wp2_with fail;go_ret;exact ⟨rfl,rfl⟩
end Go.Proofs.YtodcnbejnchmhaaGreatDoor
namespace Go.Lxr
theorem QnV : ∀ (l : Bs) (p : Nat) (t r : Bs),QaW p l = .ok (t,r) → t.length + r.length ≤ l.length := by
 refine QjU ?_ ?_ ?_ ?_ ?_
 ·intro p t r h;rw [QdC] at h;injection h with h;injection h with h1 h2;subst h1 h2;simp
 ·intro p c l hs t r h;rw [QdB hs] at h;injection h with h;injection h with h1 h2;subst h1 h2;simp
 ·intro p l hq t r h;rw [QeF hq] at h;cases h
 ·intro p q l l' hq ih t r h;rw [QeE hq] at h;cases hf : QaW (p + q.length + 2) l' with
  | error k => rw [hf] at h; cases h
  | ok x =>
   rw [hf] at h;injection h with h;injection h with h1 h2;subst h1 h2;have := ih x.1 x.2 hf;rw [(Qgj hq).1];simp;omega
 ·intro p c l hs hc ih t r h;rw [Qfw hs hc] at h;cases hf : QaW (p + 1) l with
  | error k => rw [hf] at h; cases h
  | ok x =>
   rw [hf] at h;injection h with h;injection h with h1 h2;subst h1 h2;have := ih x.1 x.2 hf;simp;omega
theorem Qlq : ∀ (l : Bs) (p : Nat) (fs : List (Bs × Nat)),QaU p l = .ok fs → ∀ x ∈ fs,x.1.length ≤ l.length := by
 refine QnU ?_ ?_ ?_ ?_ ?_
 ·intro p fs h;rw [QfW] at h;injection h with h;subst h;intro x hx;cases hx
 ·intro p r fs h;rw [Qe6] at h;injection h with h;subst h;intro x hx;cases hx
 ·intro p c r hw ih fs h;rw [Qei hw] at h;intro x hx;have := ih fs h x hx;simp;omega
 ·intro p c r k hs hf fs h;rw [QfX hs p k r hf] at h;cases h
 ·intro p c r t r' hs hf hlt ih fs h;rw [QfV hs p r t r' hf] at h;cases hg : QaU (p + ((c :: r).length - r'.length)) r' with
  | error j => rw [hg] at h; cases h
  | ok y =>
   rw [hg] at h;injection h with h;subst h;intro x hx;rcases List.mem_cons.1 hx with e | e
   ·subst e;have := QnV _ _ _ _ hf;show t.length ≤ _;omega
   ·have := ih y hg x e;omega
end Go.Lxr
namespace Go.Proofs.YtodcnbejnchmhaaGreatDoor
open Go.RowKit Go.Mem Go.Lin

theorem Qf6 (l : Bs) : ∀ x ∈ (S7.Qbi l).1,x.1.length ≤ 200 := by
 unfold S7.Qbi;split
 ·intro x hx; cases hx
 ·split
  ·intro x hx; cases hx
  ·rename_i fs hf;intro x hx;have := Go.Lxr.Qlq l 0 fs hf x hx;omega
theorem Qde {fs gs : List Qat} {s t : Bs} (h1 : S7.Qbi s = (fs,0,0)) (h2 : S7.Qbi t = (gs,0,0)) (h : fs.map (·.1) = gs.map (·.1)) : ({ Qb8 s with col := 0 } : LineL) = { Qb8 t with col := 0 } := by
 unfold Qb8;rw [h1,h2,if_neg (by simp),if_neg (by simp)];exact Qk8 h
end Go.Proofs.YtodcnbejnchmhaaGreatDoor
