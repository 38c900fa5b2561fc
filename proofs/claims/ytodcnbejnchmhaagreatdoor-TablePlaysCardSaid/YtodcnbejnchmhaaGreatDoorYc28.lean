import Derived.Test.YtodcnbejnchmhaaGreatDoorYc20
import Derived.Test.YtodcnbejnchmhaaGreatDoorYc26
import Derived.Test.YtodcnbejnchmhaaGreatDoorYc21
set_option maxHeartbeats 1600000
namespace Go.Proofs.YtodcnbejnchmhaaGreatDoor.S6
open _root_.Go.Proofs.Tryz
open Go.RowKit Go.Mem Go.Civil

theorem Qpd (y : Int) (w : World) (hy : -9999 ≤ y ∧ y ≤ 10000) : Calls Tryz.prog 149 #[.int .i64 y] w fun e w' => e = .returned (.int .i64 (begD y)) ∧ w = w' := by
 go_enter func149,ntmps149;go_wp2_with fail
 go_loop [3,4] (fun v2 v3 => ∃ a : Int,1970 ≤ a ∧ (a ≤ y ∨ a = 1970) ∧ v2 = .int .i64 (begD a) ∧ v3 = .int .i64 a) (fun _ v3 => (y - intOf v3).toNat)
 case atStart => exact ⟨1970,by omega,by omega,by rw [begD_0],rfl⟩
 case round =>
  obtain ⟨a,ha,ha2,rfl,rfl⟩ := hrel;have hbr := QdE (y := a) (by omega);by_cases hlt : a + 400 ≤ y
  ·have HS := Xi (begD_add a);generalize begD a = B at *;go_wp2_with fail
   go_round
   case rel => exact ⟨a + 400,by omega,by omega,by rw [HS.out],rfl⟩
   case measure => simp [intOf]; omega
  ·have hlo : y < a + 400 := by omega
   clear hlt ha;have ha3 : a ≤ 10000 := by omega
   clear ha2 hbr;go_wp2_with fail
   go_loop [3,4] (fun v3 v4 => ∃ a : Int,y < a + 400 ∧ a ≤ 10000 ∧ v3 = .int .i64 (begD a) ∧ v4 = .int .i64 a) (fun _ v4 => (intOf v4 - y).toNat)
   case atStart => exact ⟨a,hlo,ha3,rfl,rfl⟩
   case round =>
    obtain ⟨b,hb,hb2,rfl,rfl⟩ := hrel;clear hlo ha3;have hbr := Qj4 (y := b) (by omega);by_cases hlt : y < b
    ·have HS := Xi (begD_sub b);generalize begD b = B at *;go_wp2_with fail
     go_round
     case rel => exact ⟨b - 400,by omega,by omega,by rw [HS.out],rfl⟩
     case measure => simp [intOf]; omega
    ·have hle : b ≤ y := by omega
     clear hlt hb2 hbr;go_wp2_with fail
     go_loop [3,4] (fun v3 v4 => ∃ a : Int,y < a + 400 ∧ a ≤ y ∧ v3 = .int .i64 (begD a) ∧ v4 = .int .i64 a) (fun _ v4 => (y - intOf v4).toNat)
     case atStart => exact ⟨b,hb,hle,rfl,rfl⟩
     case round =>
      obtain ⟨c,hc,hc2,rfl,rfl⟩ := hrel;clear hb hle;have hbr := Qj4 (y := c) (by omega);by_cases hlt : c < y
      ·have hs := Qhv c;unfold Qe2 at hs;have HS := Xi hs;clear hs;have HL := Xi (Qjv c w);generalize begD c = B at *;generalize Qgb c = L at *;go_wp2_with fail;refine HL.out.mono ?_;rintro e w' ⟨rfl,rfl⟩;cases L
       ·go_wp2_with fail
        go_round
        case rel => exact ⟨c + 1,by omega,by omega,by rw [HS.out]; simp,rfl⟩
        case measure => simp [intOf]; omega
       ·go_wp2_with fail
        go_round
        case rel => exact ⟨c + 1,by omega,by omega,by rw [HS.out]; simp,rfl⟩
        case measure => simp [intOf]; omega
      ·obtain rfl : c = y := by omega
       go_wp2_with fail;go_ret;exact ⟨rfl,rfl⟩
theorem tmod_gt {n c : Int} (h : n < 0) (hc : 0 < c) : -c < n.tmod c := by
 have e1 : n.tmod c = -((-n) % c) := by
  have := Int.neg_tmod (-n) c;rw [Int.neg_neg,Int.tmod_eq_emod_of_nonneg (a := -n) (by omega)] at this;exact this
 have b2 := Int.emod_lt_of_pos (-n) hc;omega
theorem Qpe (n : Int) (w : World) (hn : QaB n) : Calls Tryz.prog 120 #[.int .i64 n] w fun e w' => e = .returned (.int .i64 ((n + 4) % 7)) ∧ w = w' := by
 unfold QaB at hn;by_cases h : n < 0
 ·have hp := QjC h (show (0 : Int) < 7 by omega);have hg := tmod_gt h (show (0 : Int) < 7 by omega);have b : -7 < n.tmod 7 ∧ n.tmod 7 ≤ 0 := by omega
  have HE := Xi (show (n.tmod 7 + 11) % 7 = (n + 4) % 7 by omega);have b2 : 0 ≤ n.tmod 7 + 11 := by omega
  clear hp hg;go_enter func120,ntmps120;go_wp2_with fail;go_ret;exact QkI HE.out
 ·have HE := Xi (show (n + 11) % 7 = (n + 4) % 7 by omega);go_enter func120,ntmps120;go_wp2_with fail;go_ret;exact QkI HE.out
theorem Qfo (y m d : Int) (w : World) :
  Calls Tryz.prog 119 #[.int .i64 y,.int .i64 m,.int .i64 d] w fun e w' => e = .returned (.tuple #[.int .i64 (QbH y m d),.int .i64 (QcB y m d)]) ∧ w = w' := by
 have HR := Xi (QcD y m d w);unfold QbH QcB;by_cases h : QaL y m d = true
 ·rw [h] at HR;rw [if_pos h,if_pos h];have hb := QaO.1 h;have hnum : numD y m d = begD y + sumM y (m - 1).toNat + (d - 1) := rfl;have HB := Xi (Qpd y w (by omega));have hbr := QdE (y := y) (by omega);have hle := QeA y m;obtain ⟨j,rfl⟩ : ∃ j : Nat,m = (j : Int) + 1 := ⟨(m - 1).toNat,by omega⟩;rw [show ((j : Int) + 1 - 1).toNat = j by omega] at hnum;have hb1 : 1 ≤ d ∧ d ≤ 31 ∧ (j : Int) ≤ 11 := by omega
  rw [hnum];have HL := Xi (fun i => QcM y i w);have HN : Hid (∀ k : Nat,k ≤ 12 → 0 ≤ sumM y k ∧ sumM y k ≤ 366) := Xi (Qox y);generalize begD y = B at *;clear h hb hnum hle;go_enter func119,ntmps119;go_wp2_with fail;refine HR.out.mono ?_;rintro e w' ⟨rfl,rfl⟩;go_wp2_with fail;refine HB.out.mono ?_;rintro e w' ⟨rfl,rfl⟩;go_wp2_with fail
  go_loop [8,9] (fun v8 v9 => ∃ k : Nat,k ≤ j ∧ v8 = .int .i64 (B + sumM y k) ∧ v9 = .int .i64 ((k : Int) + 1)) (fun _ v9 => j + 1 - (intOf v9).toNat)
  case atStart => exact ⟨0,Nat.zero_le _,by simp [sumM],rfl⟩
  case round =>
   obtain ⟨k,hk,rfl,rfl⟩ := hrel;by_cases hlt : k < j
   ·have hs := HN.out k (by omega);have hs2 := HN.out (k + 1) (by omega);have hst := Qje y k;have HS := Xi hst;have HC := Xi (HL.out ((k : Int) + 1));have h1 : (k : Int) < (j : Int) := by omega
    have h2 : (k : Int) + 1 < (j : Int) + 1 := by omega
    have hle := QeA y ((k : Int) + 1);generalize QaX y ((k : Int) + 1) = L at *;generalize sumM y k = S at *;clear hst;go_wp2_with fail;refine HC.out.mono ?_;rintro e w' ⟨rfl,rfl⟩;go_wp2_with fail
    go_round
    case rel => exact ⟨k + 1,by omega,by rw [HS.out]; congr 1; omega,by go_num⟩
    case measure => simp [intOf]; omega
   ·obtain rfl : k = j := by omega
    have hs := HN.out k (by omega);go_wp2_with fail
    go_ret2
    exact Qo0 (P := fun w' => w = w') (by omega) rfl rfl
 ·rw [if_neg h,if_neg h];simp only [Bool.not_eq_true] at h;rw [h] at HR;clear h;go_enter func119,ntmps119;go_wp2_with fail;refine HR.out.mono ?_;rintro e w' ⟨rfl,rfl⟩;go_wp2_with fail
  go_ret2
  exact ⟨rfl,rfl⟩
end Go.Proofs.YtodcnbejnchmhaaGreatDoor.S6
namespace Go.Proofs.YtodcnbejnchmhaaGreatDoor.S6
open _root_.Go.Proofs.Tryz
open Go.RowKit Go.Mem Go.Dfm

/-- what the reference's Of answers: some number,and why there is none -/
def OfX (j : Int) (w : World) (e : Ending) (w' : World) : Prop := ∃ n : Int,e = .returned (.tuple #[.int .i64 n,.int .i64 j]) ∧ Fr w w' (fun _ => False)
theorem QeY (n : Int) (hn : QaB n) (W : World) (i : Nat) : Calls Tryz.prog 120 #[.int .i64 n] (W.drewN i) fun e w' => e = .returned (.int .i64 ((n + 4) % 7)) ∧ ∃ j,w' = W.drewN j :=
 (Qpe n _ hn).mono fun _ _ h => ⟨h.1,i,h.2.symm⟩
theorem rof_out (k d q y m : Int) (h : QaL k d q = true) (hr : Go.Civil.QaL y m 1 = false) (w : World) : Calls Tryz.prog 80 #[dayV k d q,.int .i64 y,.int .i64 m] w (OfX 6 w) := by
 have HT := Xi (fun W => QcW k d q W);rw [h] at HT;have HF := Xi (Fr.new w (.cells #[.int .i64 k,.int .i64 d,.int .i64 q] 61) (fun _ => False));have HL := Xi (fun W => QcM y m W);have HR := Xi (fun W => QcD y m 1 W);rw [hr] at HR;clear h hr;go_enter func80,ntmps80;go_wp2_with fail;refine (HT.out _).mono ?_;rintro e w2 ⟨rfl,hf2⟩;have HF2 := Xf HF hf2;clear hf2;go_wp2_with fail;refine (HL.out _).mono ?_;rintro e w3 ⟨rfl,rfl⟩;go_wp2_with fail;refine (HR.out _).mono ?_;rintro e w3 ⟨rfl,rfl⟩;go_wp2_with fail
 go_ret2
 exact ⟨0,rfl,HF2.out⟩
theorem QoV (k d q y m : Int) (h : QaL k d q = true) (hr : Go.Civil.QaL y m 1 = true) (hd : Go.Civil.QaX y m < d) (w : World) : Calls Tryz.prog 80 #[dayV k d q,.int .i64 y,.int .i64 m] w (OfX 6 w) := by
 have HT := Xi (fun W => QcW k d q W);rw [h] at HT;have hf := Fr.new w (.cells #[.int .i64 k,.int .i64 d,.int .i64 q] 61) (fun _ => False);have HB := Xi (Blk.made w 61 #[.int .i64 k,.int .i64 d,.int .i64 q]);have HF := Xi hf;have HL := Xi (fun W => QcM y m W);have HR := Xi (fun W => QcD y m 1 W);rw [hr] at HR;generalize Go.Civil.QaX y m = L at *;clear h hr hf;go_enter func80,ntmps80;go_wp2_with fail;refine (HT.out _).mono ?_;rintro e w2 ⟨rfl,hf2⟩;have HF2 := Xf HF hf2;have c1 := Qaa (hf2.blk HB.out (fun h => h)) 1;simp at c1;clear hf2;go_wp2_with fail;refine (HL.out _).mono ?_;rintro e w3 ⟨rfl,rfl⟩;go_wp2_with fail;refine (HR.out _).mono ?_;rintro e w3 ⟨rfl,rfl⟩;go_wp2_with fail
 go_ret2
 exact ⟨0,rfl,HF2.out⟩
theorem rof_0 (d y m : Int) (h : QaL 0 d 0 = true) (hr : Go.Civil.QaL y m 1 = true) (hd : d ≤ Go.Civil.QaX y m) (w : World) : Calls Tryz.prog 80 #[dayV 0 d 0,.int .i64 y,.int .i64 m] w (OfX 0 w) := by
 have HT := Xi (fun W => QcW 0 d 0 W);rw [h] at HT;have hf := Fr.new w (.cells #[.int .i64 0,.int .i64 d,.int .i64 0] 61) (fun _ => False);have HB := Xi (Blk.made w 61 #[.int .i64 0,.int .i64 d,.int .i64 0]);have HF := Xi hf;have HL := Xi (fun W => QcM y m W);have HR := Xi (fun W => QcD y m 1 W);have HD := Xi (fun W => Qfo y m d W);rw [hr] at HR;generalize Go.Civil.QaX y m = L at *;generalize QbH y m d = N at *;generalize QcB y m d = E at *;clear h hr hf;go_enter func80,ntmps80;go_wp2_with fail;refine (HT.out _).mono ?_;rintro e w2 ⟨rfl,hf2⟩;have HF2 := Xf HF hf2;have c0 := Qaa (hf2.blk HB.out (fun h => h)) 0;have c1 := Qaa (hf2.blk HB.out (fun h => h)) 1;simp at c0 c1;clear hf2;go_wp2_with fail;refine (HL.out _).mono ?_;rintro e w3 ⟨rfl,rfl⟩;go_wp2_with fail;refine (HR.out _).mono ?_;rintro e w3 ⟨rfl,rfl⟩;go_wp2_with fail;refine (HD.out _).mono ?_;rintro e w3 ⟨rfl,rfl⟩;go_wp2_with fail
 go_ret2
 exact ⟨N,rfl,HF2.out⟩
def RofI (N : Int) (w : World) (q : Nat) (cs : Array Value) (g : Nat) (v10 v12 : Value) (wr : World) : Prop := ∃ (i : Nat) (n : Int),i + g = 7 ∧ v12 = .int .i64 (i : Int) ∧ v10 = .int .i64 n ∧ N - i ≤ n ∧ n ≤ N + i ∧ Blk wr q 61 cs ∧ Fr w wr (fun _ => False)
theorem rof_1 (q y m : Int) (h : QaL 1 0 q = true) (hr : Go.Civil.QaL y m 1 = true) (hd : 0 ≤ Go.Civil.QaX y m) (w : World) : Calls Tryz.prog 80 #[dayV 1 0 q,.int .i64 y,.int .i64 m] w (OfX 0 w) := by
 have HT := Xi (fun W => QcW 1 0 q W);rw [h] at HT;have hf := Fr.new w (.cells #[.int .i64 1,.int .i64 0,.int .i64 q] 61) (fun _ => False);have HB := Xi (Blk.made w 61 #[.int .i64 1,.int .i64 0,.int .i64 q]);have HF := Xi hf;have HL := Xi (fun W => QcM y m W);have HR := Xi (fun W => QcD y m 1 W);have HD := Xi (fun W => Qfo y m (Go.Civil.QaX y m) W);have hn := QcF y m (Go.Civil.QaX y m);rw [hr] at HR;generalize QbH y m (Go.Civil.QaX y m) = N at *;generalize QcB y m (Go.Civil.QaX y m) = E at *;generalize Go.Civil.QaX y m = L at *;clear h hr hf;go_enter func80,ntmps80;go_wp2_with fail;refine (HT.out _).mono ?_;rintro e w2 ⟨rfl,hf2⟩;have hb2 := hf2.blk HB.out (fun h => h);have c0 := Qaa hb2 0;have c1 := Qaa hb2 1;simp at c0 c1;have HF2 := Xf HF hf2;have HB2 := Xi hb2;clear hf2 hb2;go_wp2_with fail;refine (HL.out _).mono ?_;rintro e w3 ⟨rfl,rfl⟩;go_wp2_with fail;refine (HR.out _).mono ?_;rintro e w3 ⟨rfl,rfl⟩;go_wp2_with fail;refine (HD.out _).mono ?_;rintro e w3 ⟨rfl,rfl⟩;go_wp2_with fail;clear c0 c1
 go_loopg [10,12] 7 (fun g v10 v12 wr => RofI N w w.heap.size #[.int .i64 1,.int .i64 0,.int .i64 q] g v10 v12 wr)
 case atStart => exact ⟨0,N,rfl,rfl,rfl,by omega,by omega,HB2.out,HF2.out⟩
 case round =>
  obtain ⟨i,n,hi,rfl,rfl,h1,h2,hb,hf⟩ := hrel;have HBr := Xi hb;have HFr := Xi hf;by_cases hlt : i < 7
  ·have i7 : (i : Int) < 7 := by omega
   have c0 := Qaa hb 0;have c2 := Qaa hb 2;simp at c0 c2;have HWK := Xi (fun W j => QeY n (by unfold QaB; omega) W j);have hn1 : -9000000 ≤ n ∧ n ≤ 9000000 := by omega
   obtain ⟨v,hv⟩ : ∃ v,(n + 4) % 7 = v := ⟨_,rfl⟩;rw [hv] at HWK;clear hv hb hf;by_cases hq : v = q
   ·subst hq;go_wp2_with fail
    go_quiet (with_reducible exact HWK.out _ _)
    go_wp2_with fail
    go_ret2
    exact ⟨n,rfl,ff HFr.out (Fr.drewN _ _ _)⟩
   ·have hq2 : (v != q) = true := by simpa using hq
    clear hq;go_wp2_with fail
    go_quiet (with_reducible exact HWK.out _ _)
    go_wp2_with fail
    go_roundg (7 - (i + 1))
    case measure => omega
    case rel => exact ⟨i + 1,_,by omega,by go_num,rfl,by omega,by omega,(Fr.drewN _ _ (fun _ => False)).blk HBr.out (fun h => h),ff HFr.out (Fr.drewN _ _ _)⟩
  ·obtain rfl : i = 7 := by omega
   have c0 := Qaa hb 0;have c2 := Qaa hb 2;simp at c0 c2;clear hb hf;go_wp2_with fail
   go_quiet (fail)
   go_wp2_with fail
   go_ret2
   exact ⟨n,rfl,ff HFr.out (Fr.drewN _ _ _)⟩
theorem rof_2 (d q y m : Int) (h : QaL 2 d q = true) (hr : Go.Civil.QaL y m 1 = true) (hd : d ≤ Go.Civil.QaX y m) (w : World) : Calls Tryz.prog 80 #[dayV 2 d q,.int .i64 y,.int .i64 m] w (OfX 0 w) := by
 have HT := Xi (fun W => QcW 2 d q W);rw [h] at HT;have hf := Fr.new w (.cells #[.int .i64 2,.int .i64 d,.int .i64 q] 61) (fun _ => False);have HB := Xi (Blk.made w 61 #[.int .i64 2,.int .i64 d,.int .i64 q]);have HF := Xi hf;have HL := Xi (fun W => QcM y m W);have HR := Xi (fun W => QcD y m 1 W);have HD := Xi (fun W => Qfo y m (d) W);have hn := QcF y m (d);rw [hr] at HR;generalize QbH y m (d) = N at *;generalize QcB y m (d) = E at *;generalize Go.Civil.QaX y m = L at *;clear h hr hf;go_enter func80,ntmps80;go_wp2_with fail;refine (HT.out _).mono ?_;rintro e w2 ⟨rfl,hf2⟩;have hb2 := hf2.blk HB.out (fun h => h);have c0 := Qaa hb2 0;have c1 := Qaa hb2 1;simp at c0 c1;have HF2 := Xf HF hf2;have HB2 := Xi hb2;clear hf2 hb2;go_wp2_with fail;refine (HL.out _).mono ?_;rintro e w3 ⟨rfl,rfl⟩;go_wp2_with fail;refine (HR.out _).mono ?_;rintro e w3 ⟨rfl,rfl⟩;go_wp2_with fail;refine (HD.out _).mono ?_;rintro e w3 ⟨rfl,rfl⟩;go_wp2_with fail;clear c0 c1
 go_loopg [10,12] 7 (fun g v10 v12 wr => RofI N w w.heap.size #[.int .i64 2,.int .i64 d,.int .i64 q] g v10 v12 wr)
 case atStart => exact ⟨0,N,rfl,rfl,rfl,by omega,by omega,HB2.out,HF2.out⟩
 case round =>
  obtain ⟨i,n,hi,rfl,rfl,h1,h2,hb,hf⟩ := hrel;have HBr := Xi hb;have HFr := Xi hf;by_cases hlt : i < 7
  ·have i7 : (i : Int) < 7 := by omega
   have c0 := Qaa hb 0;have c2 := Qaa hb 2;simp at c0 c2;have HWK := Xi (fun W j => QeY n (by unfold QaB; omega) W j);have hn1 : -9000000 ≤ n ∧ n ≤ 9000000 := by omega
   obtain ⟨v,hv⟩ : ∃ v,(n + 4) % 7 = v := ⟨_,rfl⟩;rw [hv] at HWK;clear hv hb hf;by_cases hq : v = q
   ·subst hq;go_wp2_with fail
    go_quiet (with_reducible exact HWK.out _ _)
    go_wp2_with fail
    go_ret2
    exact ⟨n,rfl,ff HFr.out (Fr.drewN _ _ _)⟩
   ·have hq2 : (v != q) = true := by simpa using hq
    clear hq;go_wp2_with fail
    go_quiet (with_reducible exact HWK.out _ _)
    go_wp2_with fail
    go_roundg (7 - (i + 1))
    case measure => omega
    case rel => exact ⟨i + 1,_,by omega,by go_num,rfl,by omega,by omega,(Fr.drewN _ _ (fun _ => False)).blk HBr.out (fun h => h),ff HFr.out (Fr.drewN _ _ _)⟩
  ·obtain rfl : i = 7 := by omega
   have c0 := Qaa hb 0;have c2 := Qaa hb 2;simp at c0 c2;clear hb hf;go_wp2_with fail
   go_quiet (fail)
   go_wp2_with fail
   go_ret2
   exact ⟨n,rfl,ff HFr.out (Fr.drewN _ _ _)⟩
theorem rof_3 (d q y m : Int) (h : QaL 3 d q = true) (hr : Go.Civil.QaL y m 1 = true) (hd : d ≤ Go.Civil.QaX y m) (w : World) : Calls Tryz.prog 80 #[dayV 3 d q,.int .i64 y,.int .i64 m] w (OfX 0 w) := by
 have HT := Xi (fun W => QcW 3 d q W);rw [h] at HT;have hf := Fr.new w (.cells #[.int .i64 3,.int .i64 d,.int .i64 q] 61) (fun _ => False);have HB := Xi (Blk.made w 61 #[.int .i64 3,.int .i64 d,.int .i64 q]);have HF := Xi hf;have HL := Xi (fun W => QcM y m W);have HR := Xi (fun W => QcD y m 1 W);have HD := Xi (fun W => Qfo y m (d) W);have hn := QcF y m (d);rw [hr] at HR;generalize QbH y m (d) = N at *;generalize QcB y m (d) = E at *;generalize Go.Civil.QaX y m = L at *;clear h hr hf;go_enter func80,ntmps80;go_wp2_with fail;refine (HT.out _).mono ?_;rintro e w2 ⟨rfl,hf2⟩;have hb2 := hf2.blk HB.out (fun h => h);have c0 := Qaa hb2 0;have c1 := Qaa hb2 1;simp at c0 c1;have HF2 := Xf HF hf2;have HB2 := Xi hb2;clear hf2 hb2;go_wp2_with fail;refine (HL.out _).mono ?_;rintro e w3 ⟨rfl,rfl⟩;go_wp2_with fail;refine (HR.out _).mono ?_;rintro e w3 ⟨rfl,rfl⟩;go_wp2_with fail;refine (HD.out _).mono ?_;rintro e w3 ⟨rfl,rfl⟩;go_wp2_with fail;clear c0 c1
 go_loopg [10,12] 7 (fun g v10 v12 wr => RofI N w w.heap.size #[.int .i64 3,.int .i64 d,.int .i64 q] g v10 v12 wr)
 case atStart => exact ⟨0,N,rfl,rfl,rfl,by omega,by omega,HB2.out,HF2.out⟩
 case round =>
  obtain ⟨i,n,hi,rfl,rfl,h1,h2,hb,hf⟩ := hrel;have HBr := Xi hb;have HFr := Xi hf;by_cases hlt : i < 7
  ·have i7 : (i : Int) < 7 := by omega
   have c0 := Qaa hb 0;have c2 := Qaa hb 2;simp at c0 c2;have HWK := Xi (fun W j => QeY n (by unfold QaB; omega) W j);have hn1 : -9000000 ≤ n ∧ n ≤ 9000000 := by omega
   obtain ⟨v,hv⟩ : ∃ v,(n + 4) % 7 = v := ⟨_,rfl⟩;rw [hv] at HWK;clear hv hb hf;by_cases hq : v = q
   ·subst hq;go_wp2_with fail
    go_quiet (with_reducible exact HWK.out _ _)
    go_wp2_with fail
    go_ret2
    exact ⟨n,rfl,ff HFr.out (Fr.drewN _ _ _)⟩
   ·have hq2 : (v != q) = true := by simpa using hq
    clear hq;go_wp2_with fail
    go_quiet (with_reducible exact HWK.out _ _)
    go_wp2_with fail
    go_roundg (7 - (i + 1))
    case measure => omega
    case rel => exact ⟨i + 1,_,by omega,by go_num,rfl,by omega,by omega,(Fr.drewN _ _ (fun _ => False)).blk HBr.out (fun h => h),ff HFr.out (Fr.drewN _ _ _)⟩
  ·obtain rfl : i = 7 := by omega
   have c0 := Qaa hb 0;have c2 := Qaa hb 2;simp at c0 c2;clear hb hf;go_wp2_with fail
   go_quiet (fail)
   go_wp2_with fail
   go_ret2
   exact ⟨n,rfl,ff HFr.out (Fr.drewN _ _ _)⟩
theorem QjZ {y m d : Int} (h : Go.Civil.QaX y m < d) : QcB y m d = 6 := by
 unfold QcB;rw [if_neg];rw [Go.Civil.QaO];omega
theorem Qp9 {y m d : Int} (h : Go.Civil.QaL y m 1 = false) : QcB y m d = 6 := by
 unfold QcB;rw [if_neg];rw [Go.Civil.QaO];rw [Go.Civil.QoZ] at h;rintro ⟨h1,h2,h3,h4,h5,h6⟩;exact h ⟨h1,h2,h3,h4,by omega,by omega⟩
theorem QiS {y m d : Int} (h : Go.Civil.QaL y m 1 = true) (h1 : 1 ≤ d) (h2 : d ≤ Go.Civil.QaX y m) : QcB y m d = 0 := by
 unfold QcB;rw [if_pos];rw [Go.Civil.QaO] at h ⊢;omega
theorem rOf_any (k d q y m : Int) (h : QaL k d q = true) (w : World) : Calls Tryz.prog 80 #[dayV k d q,.int .i64 y,.int .i64 m] w (OfX (QcB y m (Qek k d y m)) w) := by
 have hp := QaO.1 h;cases hr : Go.Civil.QaL y m 1 with
 | false => rw [Qp9 hr]; exact rof_out k d q y m h hr w
 | true =>
  have hb := Go.Civil.QaO.1 hr;unfold Qce at hp;rcases hp with ⟨rfl,h1,h2,rfl⟩ | ⟨rfl,rfl,h1,h2⟩ | ⟨hk,h1,h2,h3,h4⟩
  ·rw [show Qek 0 d y m = d from rfl];by_cases hd : d ≤ Go.Civil.QaX y m
   ·rw [QiS hr h1 hd]; exact rof_0 d y m h hr hd w
   ·rw [QjZ (by omega)]; exact QoV _ _ _ _ _ h hr (by omega) w
  ·rw [show Qek 1 0 y m = Go.Civil.QaX y m from rfl,QiS hr (by omega) (Int.le_refl _)];exact rof_1 q y m h hr (by omega) w
  ·have e : Qek k d y m = d := by unfold Qek; rw [if_neg (by omega)]
   rw [e];by_cases hd : d ≤ Go.Civil.QaX y m
   ·rw [QiS hr h1 hd];rcases hk with rfl | rfl
    ·exact rof_2 d q y m h hr hd w
    ·exact rof_3 d q y m h hr hd w
   ·rw [QjZ (by omega)]; exact QoV _ _ _ _ _ h hr (by omega) w
end Go.Proofs.YtodcnbejnchmhaaGreatDoor.S6
