import Derived.Test.YtodcnbejnchmhaaGreatDoorProg
import Derived.Test.YtodcnbejnchmhaaGreatDoorYc10
import Derived.Test.YtodcnbejnchmhaaGreatDoorYc04
import Derived.Lib.Hide
import Derived.IntWalk
import Derived.LoopTactic
import Derived.Deep.LoopGhost
import Derived.Test.YtodcnbejnchmhaaGreatDoorYc03
import Derived.BigQuiet
import Derived.Deep.QuietTactic
import Derived.WalkLawsBesides
import Derived.Tactics2
import Derived.Test.YtodcnbejnchmhaaGreatDoorYc11
import Derived.Lib.AppendIntMem
import Derived.Lib.ConvBytes
import Derived.Deep.DeepCutAuto
set_option maxRecDepth 100000
namespace Go.Proofs.YtodcnbejnchmhaaGreatDoor.S6
open _root_.Go.Proofs.Tryz
open Go.RowKit Go.Mem Go.Civil

def Qmn : List Int := [31,28,31,30,31,30,31,31,30,31,30,31]
/-- the months' lengths stand where the program's text lays them -/
def LOk (w : World) : Prop := ∀ i,i < 12 → w.cell? ⟨7,i,none⟩ = some (.int .i64 (Qmn.getD i 0))
theorem LOk.fr {w w' : World} (h : LOk w) (f : Fr w w' (fun _ => False)) : LOk w' := by
 intro i hi;have h0 := h i hi;have hlt : 7 < w.heap.size := by
  rcases Nat.lt_or_ge 7 w.heap.size with h' | h'
  ·exact h'
  ·simp [World.cell?,Array.getElem?_eq_none h'] at h0
 rw [← h0];unfold World.cell?;rw [f.block _ hlt (fun h => h)]
theorem Qlc {y : Int} {k : Nat} (h : 1 ≤ k ∧ k ≤ 12) : Qmn.getD (k - 1) 0 = QaX y k - (if k = 2 then Qe2 y else 0) := by
 have : k = 1 ∨ k = 2 ∨ k = 3 ∨ k = 4 ∨ k = 5 ∨ k = 6 ∨ k = 7 ∨ k = 8 ∨ k = 9 ∨ k = 10 ∨ k = 11 ∨ k = 12 := by omega
 rcases this with rfl | rfl | rfl | rfl | rfl | rfl | rfl | rfl | rfl | rfl | rfl | rfl <;> simp [Qmn,QaX] <;> omega
def QaB (n : Int) : Prop := -9223372036854775808 ≤ n ∧ n ≤ 9223372036854775807
theorem QgB {y c : Int} : y.tmod c = 0 ↔ y % c = 0 := by
 rw [← Int.dvd_iff_tmod_eq_zero,Int.dvd_iff_emod_eq_zero]
theorem tests (y c : Int) : (y.tmod c == 0) = (y % c == 0) := by
 rw [Bool.eq_iff_iff]; simp [QgB]

theorem Qmo {y : Int} {b : Bool} {w : World} (h : b = Qgb y) : Ending.returned (.bool b) = .returned (.bool (Qgb y)) ∧ w = w := ⟨by rw [h],rfl⟩
theorem Leap_any (y : Int) (w : World) : Calls Tryz.prog 257 #[.int .i64 y] w fun e w' => e = .returned (.bool (Qgb y)) ∧ w = w' := by
 go_enter func257,ntmps257;go_wp2_with fail
 all_goals
  go_ret;refine Qmo ?_
  simp_all [Qgb,QgB,tests]
theorem QiX (y m : Int) (w : World) (hg : LOk w) : Calls Tryz.prog 240 #[.int .i64 y,.int .i64 m] w fun e w' => e = .returned (.int .i64 (QaX y m)) ∧ w = w' := by
 by_cases h : 1 ≤ m ∧ m ≤ 12
 ·obtain ⟨k,rfl⟩ : ∃ k : Nat,m = (k : Int) := ⟨m.toNat,by omega⟩;obtain ⟨j,rfl⟩ : ∃ j : Nat,k = j + 1 := ⟨k - 1,by omega⟩;have hc := hg j (by omega);have ht := Qlc (y := y) (k := j + 1) (by omega);rw [show j + 1 - 1 = j from rfl] at ht;rw [ht] at hc;have hle := QeA y ((j + 1 : Nat) : Int);clear hg ht
  push_cast at *
  obtain ⟨x,hx⟩ : ∃ x,QaX y ((j : Int) + 1) = x := ⟨_,rfl⟩;rw [hx] at hc hle ⊢;by_cases h2 : j + 1 = 2
  ·obtain rfl : j = 1 := by omega
   have HL := Xi (Leap_any y);by_cases hl : Qgb y = true
   ·have e : Qe2 y = 1 := by unfold Qe2; rw [if_pos hl]
    rw [hl] at HL;rw [if_pos rfl,e] at hc;clear hx;go_enter func240,ntmps240;go_wp2_with fail;refine (HL.out _).mono ?_;rintro e w' ⟨rfl,rfl⟩;go_wp2_with fail;go_ret;exact ⟨by congr <;> omega,rfl⟩
   ·simp only [Bool.not_eq_true] at hl;have e : Qe2 y = 0 := by unfold Qe2; rw [hl]; rfl
    rw [hl] at HL;rw [if_pos rfl,e] at hc;clear hx;go_enter func240,ntmps240;go_wp2_with fail;refine (HL.out _).mono ?_;rintro e w' ⟨rfl,rfl⟩;go_wp2_with fail;go_ret;exact ⟨by congr <;> omega,rfl⟩
  ·rw [if_neg (by omega)] at hc;have n2 : (((j : Int) + 1) == 2) = false := by simp; omega
   clear hx;go_enter func240,ntmps240;go_wp2_with fail;go_ret;exact ⟨by congr <;> omega,rfl⟩
 ·have e : QaX y m = 0 := by
   unfold QaX;rw [if_neg (by omega),if_neg (by omega),if_neg h]
  rw [e];clear hg e;by_cases h1 : m < 1
  ·go_enter func240,ntmps240;go_wp2_with fail;go_ret;exact ⟨rfl,rfl⟩
  ·have h2 : m > 12 := by omega
   clear h;go_enter func240,ntmps240;go_wp2_with fail;go_ret;exact ⟨rfl,rfl⟩
theorem QkI {a b : Int} {w : World} (h : a = b) : Ending.returned (.int .i64 a) = .returned (.int .i64 b) ∧ w = w := ⟨by rw [h],rfl⟩
theorem Qgh {a b : Bool} {w : World} (h : a = b) : Ending.returned (.bool a) = .returned (.bool b) ∧ w = w := ⟨by rw [h],rfl⟩
theorem QpC {y m : Int} (h : ¬ (1 ≤ m ∧ m ≤ 12)) : QaX y m = 0 := by
 unfold QaX;rw [if_neg (by omega),if_neg (by omega),if_neg h]
theorem Qqt (y m d : Int) (w : World) (hg : LOk w) : Calls Tryz.prog 238 #[.int .i64 y,.int .i64 m,.int .i64 d] w fun e w' => e = .returned (.bool (QaL y m d)) ∧ w = w' := by
 have HL := Xi (QiX y m w hg);have HB := Xi (QaO (y := y) (m := m) (d := d));have HM := Xi (QpC (y := y) (m := m));generalize QaL y m d = b at HB ⊢;generalize QaX y m = L at HB HL HM;clear hg;go_enter func238,ntmps238;go_wp2_with fail
 all_goals first
  | (refine HL.out.mono ?_;rintro e w' ⟨rfl,rfl⟩;go_wp2_with fail
     all_goals
      go_ret;refine Qgh ?_;have hb := HB.out;have hm := HM.out;rw [Bool.eq_iff_iff,hb];simp;omega)
  | (go_ret;refine Qgh ?_;have hb := HB.out;have hm := HM.out;rw [Bool.eq_iff_iff,hb];simp
     try omega)
theorem QjC {n c : Int} (h : n < 0) (hc : 0 < c) : (n.tmod c = 0 ∧ n % c = 0 ∧ n.tdiv c = n / c) ∨ (n.tmod c < 0 ∧ n % c = n.tmod c + c ∧ n / c = n.tdiv c - 1) := by
 have e1 : n.tmod c = -((-n) % c) := by
  have := Int.neg_tmod (-n) c;rw [Int.neg_neg,Int.tmod_eq_emod_of_nonneg (a := -n) (by omega)] at this;exact this
 have e2 : n.tdiv c = -((-n) / c) := by
  have := Int.neg_tdiv (a := -n) (b := c);rw [Int.neg_neg,Int.tdiv_eq_ediv_of_nonneg (a := -n) (by omega)] at this;exact this
 have a1 := Int.emod_nonneg n (show c ≠ 0 by omega);have a2 := Int.emod_lt_of_pos n hc;have b1 := Int.emod_nonneg (-n) (show c ≠ 0 by omega);have b2 := Int.emod_lt_of_pos (-n) hc;have a3 := Int.mul_ediv_add_emod n c;have b3 := Int.mul_ediv_add_emod (-n) c;rw [e1,e2];generalize n % c = r at *;generalize (-n) % c = s at *;generalize n / c = q at *;generalize (-n) / c = p at *;have key : c * (q + p) + (r + s) = 0 := by rw [Int.mul_add]; omega
 have hq : q + p = 0 ∨ q + p = -1 := by
  rcases Int.lt_trichotomy (q + p) (-1) with h1 | h1 | h1
  ·have := Int.mul_le_mul_of_nonneg_left (show q + p ≤ -2 by omega) (show 0 ≤ c by omega);omega
  ·exact Or.inr h1
  ·rcases Int.lt_trichotomy (q + p) 0 with h2 | h2 | h2
   ·omega
   ·exact Or.inl h2
   ·have := Int.mul_le_mul_of_nonneg_left (show 1 ≤ q + p by omega) (show 0 ≤ c by omega);omega
 rcases hq with hq | hq
 ·rw [hq] at key;left;omega
 ·rw [hq] at key;right;omega

theorem neg_half {n c : Int} (h : n < 0) (hn : QaB n) (hc : 2 ≤ c) : -4611686018427387904 ≤ n.tdiv c ∧ n.tdiv c ≤ 0 := by
 have e2 : n.tdiv c = -((-n) / c) := by
  have := Int.neg_tdiv (a := -n) (b := c);rw [Int.neg_neg,Int.tdiv_eq_ediv_of_nonneg (a := -n) (by omega)] at this;exact this
 have b1 := Int.emod_nonneg (-n) (show c ≠ 0 by omega);have b3 := Int.mul_ediv_add_emod (-n) c;have b4 := Int.ediv_nonneg (show 0 ≤ -n by omega) (show 0 ≤ c by omega);rw [e2];generalize (-n) % c = s at *;generalize (-n) / c = p at *;have := Int.mul_le_mul_of_nonneg_right hc b4;unfold QaB at hn;omega
theorem Qo0 {a b a' b' : Int} {P : World → Prop} {w : World} (h : a = a') (h' : b = b') (hp : P w) : Ending.returned (.tuple #[.int .i64 a,.int .i64 b]) = .returned (.tuple #[.int .i64 a',.int .i64 b']) ∧ P w := ⟨by rw [h,h'],hp⟩

theorem Qmc (n c : Int) (w : World) (hc : 2 ≤ c ∧ c ≤ 1000000) (hn : QaB n) : Calls Tryz.prog 241 #[.int .i64 n,.int .i64 c] w fun e w' => e = .returned (.tuple #[.int .i64 (n / c),.int .i64 (n % c)]) ∧ w' = w.drew := by
 by_cases h : n < 0
 ·have hp := QjC h (show 0 < c by omega);have c0 : (c == 0) = false := by simp; omega
  have c1 : (c == -1) = false := by simp; omega
  have a1 := Int.emod_nonneg n (show c ≠ 0 by omega);have a2 := Int.emod_lt_of_pos n (show 0 < c by omega);have a3 := neg_half h hn hc.1;unfold QaB at hn;rcases hp with ⟨h1,h2,h3⟩ | ⟨h1,h2,h3⟩
  ·rw [h2];go_enter func241,ntmps241;go_wp2_with fail
   go_region
   go_wp2_with fail
   go_ret2
   exact ⟨rfl,rfl⟩
  ·rw [h3,h2];go_enter func241,ntmps241;go_wp2_with fail
   go_region
   go_wp2_with fail
   go_ret2
   exact ⟨rfl,rfl⟩
 ·have a1 := Int.emod_nonneg n (show c ≠ 0 by omega);unfold QaB at hn;go_enter func241,ntmps241;go_wp2_with fail
  go_region
  go_wp2_with fail
  go_ret2
  exact ⟨rfl,rfl⟩

theorem Qn0 (r : Int) (w : World) (hr : -1000 ≤ r ∧ r ≤ 1000) (h0 : 0 ≤ r) : Calls Tryz.prog 256 #[.int .i64 r] w fun e w' => e = .returned (.int .i64 (toY r)) ∧ w = w' := by
 unfold toY;have b1 : 0 ≤ (r + 3) / 4 ∧ (r + 3) / 4 ≤ 1000 := by omega
 have b2 : 0 ≤ (r + 99) / 100 ∧ (r + 99) / 100 ≤ 1000 := by omega
 have b3 : 0 ≤ (r + 399) / 400 ∧ (r + 399) / 400 ≤ 1000 := by omega
 go_enter func256,ntmps256;go_wp2_with fail;go_ret;exact ⟨rfl,rfl⟩
theorem toY_le {r : Int} (h : 0 ≤ r ∧ r ≤ 400) : 0 ≤ toY r ∧ toY r ≤ 146097 := by unfold toY; omega
theorem Qb6 (y : Int) (w : World) (hy : -9999 ≤ y ∧ y ≤ 10000) : Calls Tryz.prog 239 #[.int .i64 y] w fun e w' => e = .returned (.int .i64 (begD y)) ∧ w' = w.drew := by
 have HP := Xi (Qmc y 400 w (by omega) (by unfold QaB; omega));have HD := Xi (Qn0 (y % 400) w.drew (by omega) (by omega));have ht := toY_le (r := y % 400) (by omega);have hq : -25 ≤ y / 400 ∧ y / 400 ≤ 25 := by omega
 unfold begD;generalize toY (y % 400) = T at *;generalize y / 400 = q at *;generalize y % 400 = r at *;go_enter func239,ntmps239;go_wp2_with fail;refine HP.out.mono ?_;rintro e w' ⟨rfl,rfl⟩;go_wp2_with fail;refine HD.out.mono ?_;rintro e w' ⟨rfl,rfl⟩;go_wp2_with fail;go_ret;exact ⟨rfl,rfl⟩
theorem Week_any (n : Int) (w : World) (hn : QaB n) : Calls Tryz.prog 221 #[.int .i64 n] w fun e w' => e = .returned (.int .i64 ((n + 4) % 7)) ∧ w' = w.drew := by
 have HP := Xi (Qmc n 7 w (by omega) hn);have hr : 0 ≤ n % 7 ∧ n % 7 < 7 := by omega
 have e : (n + 4) % 7 = (n % 7 + 4) % 7 := by omega
 rw [e];clear hn e;generalize n % 7 = r at *;generalize n / 7 = q at *;go_enter func221,ntmps221;go_wp2_with fail;refine HP.out.mono ?_;rintro e w' ⟨rfl,rfl⟩;go_wp2_with fail;go_ret;exact ⟨rfl,rfl⟩
def QbH (y m d : Int) : Int := if QaL y m d then numD y m d else 0
def QcB (y m d : Int) : Int := if QaL y m d then 0 else 6
theorem Qje (y : Int) (k : Nat) : sumM y (k + 1) = sumM y k + QaX y ((k : Int) + 1) := rfl
theorem Qox (y : Int) (k : Nat) (h : k ≤ 12) : 0 ≤ sumM y k ∧ sumM y k ≤ 366 := by
 have h1 := QlY (y := y) k;have h2 := QgH (y := y) h;rw [QlZ] at h2;have := Qgn y;omega
theorem QfD (y m d : Int) (w : World) (hg : LOk w) :
  Calls Tryz.prog 218 #[.int .i64 y,.int .i64 m,.int .i64 d] w fun e w' => e = .returned (.tuple #[.int .i64 (QbH y m d),.int .i64 (QcB y m d)]) ∧ Fr w w' (fun _ => False) := by
 have HR := Xi (Qqt y m d w hg);unfold QbH QcB;by_cases h : QaL y m d = true
 ·rw [h] at HR;rw [if_pos h,if_pos h];have hb := QaO.1 h;have hnum : numD y m d = begD y + sumM y (m - 1).toNat + (d - 1) := rfl;have HB := Xi (Qb6 y w (by omega));have hbr := QdE (y := y) (by omega);have hle := QeA y m;obtain ⟨j,rfl⟩ : ∃ j : Nat,m = (j : Int) + 1 := ⟨(m - 1).toNat,by omega⟩;rw [show ((j : Int) + 1 - 1).toNat = j by omega] at hnum;have hb1 : 1 ≤ d ∧ d ≤ 31 ∧ (j : Int) ≤ 11 := by omega
  rw [hnum];have HL := Xi (fun i => QiX y i w.drew (hg.fr (Fr.drew _ _)));have HN : Hid (∀ k : Nat,k ≤ 12 → 0 ≤ sumM y k ∧ sumM y k ≤ 366) := Xi (Qox y);generalize begD y = B at *;clear h hb hnum hle hg;go_enter func218,ntmps218;go_wp2_with fail;refine HR.out.mono ?_;rintro e w' ⟨rfl,rfl⟩;go_wp2_with fail;refine HB.out.mono ?_;rintro e w' ⟨rfl,rfl⟩;go_wp2_with fail
  go_loop [8,9] (fun v8 v9 => ∃ k : Nat,k ≤ j ∧ v8 = .int .i64 (B + (d - 1) + sumM y k) ∧ v9 = .int .i64 ((k : Int) + 1)) (fun _ v9 => j + 1 - (intOf v9).toNat)
  case atStart => exact ⟨0,Nat.zero_le _,by simp [sumM],rfl⟩
  case round =>
   obtain ⟨k,hk,rfl,rfl⟩ := hrel;by_cases hlt : k < j
   ·have hs := HN.out k (by omega);have hs2 := HN.out (k + 1) (by omega);have hst := Qje y k;have HS := Xi hst;have HC := Xi (HL.out ((k : Int) + 1));have h1 : (k : Int) < (j : Int) := by omega
    have h2 : (k : Int) + 1 < (j : Int) + 1 := by omega
    have hle := QeA y ((k : Int) + 1);generalize QaX y ((k : Int) + 1) = L at *;generalize sumM y k = S at *;clear hst;go_wp2_with fail;refine HC.out.mono ?_;rintro e w' ⟨rfl,rfl⟩;go_wp2_with fail
    go_round
    case rel => exact ⟨k + 1,by omega,by rw [HS.out]; congr 1; omega,by go_num⟩
    case measure => simp [intOf]; omega
   ·obtain rfl : k = j := by omega
    have hs := HN.out k (by omega);go_wp2_with fail
    go_ret2
    exact Qo0 (P := fun w' => Fr w w' (fun _ => False)) (by omega) rfl (Fr.drew _ _)
 ·rw [if_neg h,if_neg h];simp only [Bool.not_eq_true] at h;rw [h] at HR;clear h hg;go_enter func218,ntmps218;go_wp2_with fail;refine HR.out.mono ?_;rintro e w' ⟨rfl,rfl⟩;go_wp2_with fail
  go_ret2
  exact ⟨rfl,Fr.refl _ _⟩
end Go.Proofs.YtodcnbejnchmhaaGreatDoor.S6
namespace Go.Proofs.YtodcnbejnchmhaaGreatDoor.S6
open _root_.Go.Proofs.Tryz
open Go.RowKit Go.Mem Go.Dfm

abbrev Bs := List UInt8
abbrev strV (l : Bs) : Value := .string ⟨l.toArray⟩
theorem Qlj : (Tryz.prog.info? 5).map (fun i => (i.zero,i.size,i.bytes)) = some (some (.int .u8 0),1,1) := by kernel_rfl
theorem QnL : (Tryz.prog.info? 9).map (fun i => (i.zero,i.size,i.bytes)) = some (some (.string ⟨#[]⟩),1,16) := by kernel_rfl
theorem Qal (l : Bs) : (⟨l.toArray⟩ : ByteArray).size = l.length := by show l.toArray.size = _; simp
theorem Qag (s : ByteArray) : s.data.toList.length = s.size := by rw [Array.length_toList]; rfl
theorem QeU (s : ByteArray) : Value.string s = strV s.data.toList := by
 show Value.string s = .string ⟨s.data.toList.toArray⟩;congr
theorem QbZ {P : Program} (w : World) (a b : Bs) (h : a.length + b.length ≤ 1000000) : (Op.stringOp .add ⟨a.toArray⟩ ⟨b.toArray⟩).run P w = .ok (strV (a ++ b)) w := by
 rw [run_string_add_sum w _ _ (by show a.toArray.size + b.toArray.size ≤ _; simp; omega)];show Result.ok (Value.string ((⟨a.toArray⟩ : ByteArray) ++ ⟨b.toArray⟩)) w = .ok (.string ⟨(a ++ b).toArray⟩) w;congr 2
theorem ff {a c d : World} (h : Fr a c (fun _ => False)) (h2 : Fr c d (fun _ => False)) : Fr a d (fun _ => False) := h.trans h2 (fun _ _ h => h) (fun _ _ h => h)
theorem fd {a b : World} (h : Fr a b (fun _ => False)) (n : Nat) : Fr a (b.drewN n) (fun _ => False) := ff h (Fr.drewN _ _ _)
/-- a day -/
abbrev dayV (k d w : Int) : Value := .agg #[.int .i64 k,.int .i64 d,.int .i64 w]
abbrev dayC (k d w : Int) : Obj := .cells #[.int .i64 k,.int .i64 d,.int .i64 w] 61
theorem ret_bf {a b : Bool} {x y : World} (h : a = b) (hf : Fr x y (fun _ => False)) : Ending.returned (.bool a) = .returned (.bool b) ∧ Fr x y (fun _ => False) := ⟨by rw [h],hf⟩
theorem Qc5 (k d q : Int) (w : World) : Calls Tryz.prog 217 #[dayV k d q] w fun e w' => e = .returned (.bool (QaL k d q)) ∧ Fr w w' (fun _ => False) := by
 obtain ⟨b,hb⟩ : ∃ b,QaL k d q = b := ⟨_,rfl⟩;have HB := Xi (show b = true ↔ Qce k d q by rw [← hb]; exact QaO);rw [hb];clear hb;go_enter func217,ntmps217;go_wp2_with fail
 all_goals
  go_ret;refine ret_bf ?_ (Fr.new _ _ _);have hb := HB.out;rw [Bool.eq_iff_iff,hb];simp [Qce]
  try (simp only [beq_iff_eq,beq_eq_false_iff_ne,ne_eq] at *; omega)
end Go.Proofs.YtodcnbejnchmhaaGreatDoor.S6
namespace Go.Proofs.YtodcnbejnchmhaaGreatDoor.S6
open _root_.Go.Proofs.Tryz
open Go.RowKit Go.Mem Go.Dfm Go.Sort

def marksT : List Bs := [[],[108,97,115,116],[62,61],[60,61]]
/-- the variables that the code reads hold what the program's text lays -/
structure WOk (w : World) : Prop where
 lok : LOk w
 pow : ∃ B, B ≤ w.heap.size ∧ Lib.TabBelow Tryz.prog B w "internal/strconv.uint64pow10" .u64 Lib.pow10Tab
 max : ∃ m,w.cell? ⟨0,0,none⟩ = some (.int .i64 m)
 syn : ∃ t p,w.cell? ⟨8,0,none⟩ = some (.iface t p)
 ran : ∃ t p,w.cell? ⟨9,0,none⟩ = some (.iface t p)
 marks : ∀ i,i < 4 → w.cell? ⟨5,i,none⟩ = some (strV (marksT.getD i []))
 names : ∀ i,i < 7 → w.cell? ⟨6,i,none⟩ = some (strV (Qee.getD i []))
theorem WOk.fr {w w' : World} (h : WOk w) (f : Fr w w' (fun _ => False)) : WOk w' := by
 refine ⟨h.lok.fr f,?_,?_,?_,?_,fun i hi => f.cell0 (h.marks i hi),fun i hi => f.cell0 (h.names i hi)⟩
 ·obtain ⟨B,hB,ht⟩ := h.pow;exact ⟨B,Nat.le_trans hB f.size,ht.on (f.below hB (fun _ h => h.elim))⟩
 ·obtain ⟨m,hm⟩ := h.max;exact ⟨m,f.cell0 hm⟩
 ·obtain ⟨t,p,hm⟩ := h.syn;exact ⟨t,p,f.cell0 hm⟩
 ·obtain ⟨t,p,hm⟩ := h.ran;exact ⟨t,p,f.cell0 hm⟩
theorem QpW (w : World) (k : Nat) (os : Array Obj) : Fr w (grow (w.drewN k) os) (fun _ => False) :=
 ⟨rfl,rfl,rfl,by simp [grow],fun i hi _ => by
  show (w.heap ++ os)[i]? = _;rw [Array.getElem?_append_left hi]⟩
theorem Qfu {w w' : World} (h : Below w.heap.size w w') : Fr w w' (fun _ => False) := (Fr.ofBelow h).mono (fun i hi hs => absurd hs (by omega))
theorem Itoa_any (n : Int) (h0 : -9223372036854775808 ≤ n) (h1 : n ≤ 9223372036854775807) (w : World) (hw : WOk w) : Calls Tryz.prog 255 #[.int .i64 n] w fun e w' => e = .returned (strV (Lib.itoa n)) ∧ Fr w w' (fun _ => False) := by
 obtain ⟨B,hB,hg⟩ := hw.pow;refine (Tryz.strconv_Itoa n h0 h1 w (hg w (Below.refl _ _))).mono ?_;rintro e w2 ⟨rfl,k,os,rfl⟩;exact ⟨rfl,QpW w k os⟩
theorem Atoi_ok (l : Bs) (v : Int) (h : Lib.atoiAll l = .ok v) (hl : l.length ≤ 1000000) (w : World) : Calls Tryz.prog 254 #[strV l] w fun e w' => e = .returned (.tuple #[.int .i64 v,.nilIface]) ∧ Fr w w' (fun _ => False) := by
 refine (Tryz.strconv_Atoi_ok ⟨l.toArray⟩ (by rw [Qal]; omega) v h w).mono ?_;rintro e w2 ⟨rfl,hw⟩;refine ⟨rfl,Qfu ?_⟩;rcases hw with rfl | ⟨t,rfl⟩
 ·exact Below.refl _ _
 ·exact Lib.bytesWorld_below _ _ _
theorem Atoi_no (l : Bs) (h : ∀ v,Lib.atoiAll l ≠ .ok v) (hl : l.length ≤ 1000000) (w : World) (hw : WOk w) : Calls Tryz.prog 254 #[strV l] w fun e w' => ∃ x t p,e = .returned (.tuple #[.int .i64 x,.iface t p]) ∧ Fr w w' (fun _ => False) := by
 have hsz : (⟨l.toArray⟩ : ByteArray).size ≤ 281474976710656 := by rw [Qal]; omega
 cases hx : Lib.atoiAll l with
 | ok v => exact absurd hx (h v)
 | range =>
  obtain ⟨t,p,hv⟩ := hw.ran;refine (Any.strconv_Atoi_range Tryz.laysC172 ⟨l.toArray⟩ hsz hx _ w hv (.inr ⟨t,p,rfl⟩)).mono ?_;rintro e w2 ⟨N,rfl,h1,h2,h3⟩;exact ⟨_,_,_,rfl,Qfu h3⟩
 | _ =>
  obtain ⟨t,p,hv⟩ := hw.syn;refine (Any.strconv_Atoi_syntax Tryz.laysC172 ⟨l.toArray⟩ hsz hx _ w hv (.inr ⟨t,p,rfl⟩)).mono ?_;rintro e w2 ⟨N,rfl,h1,h2,h3⟩;exact ⟨_,_,_,rfl,Qfu h3⟩
theorem Qe8 (l p : Bs) (hl : l.length ≤ 1000000) (w : World) (hw : WOk w) : Calls Tryz.prog 228 #[strV l,strV p] w fun e w' => e = .returned (.tuple #[strV (Lib.cut l p).1,strV (Lib.cut l p).2.1,.bool (Lib.cut l p).2.2]) ∧ Fr w w' (fun _ => False) := by
 obtain ⟨m,hm⟩ := hw.max;refine (Tryz.strings_Cut ⟨l.toArray⟩ ⟨p.toArray⟩ m w (by rw [Qal]; omega) hm).mono ?_;rintro e w2 ⟨rfl,n,rfl⟩;exact ⟨rfl,Fr.drewN _ _ _⟩
theorem QcV (l p : Bs) (w : World) : Calls Tryz.prog 235 #[strV l,strV p] w fun e w' => e = .returned (.tuple #[strV (Lib.trimPrefix l p),.bool (Lib.hasPrefix l p)]) ∧ w = w' := by
 refine (Tryz.strings_CutPrefix ⟨l.toArray⟩ ⟨p.toArray⟩ w).mono ?_;rintro e w2 ⟨rfl,rfl⟩;exact ⟨rfl,rfl⟩
theorem QcZ (l : Bs) (hl : l.length ≤ 1000000) (w : World) (hw : WOk w) : Calls Tryz.prog 237 #[strV l] w fun e w' => e = .returned (.int .i64 (numD l)) ∧ Fr w w' (fun _ => False) := by
 by_cases h : ∃ v,Lib.atoiAll l = .ok v
 ·obtain ⟨v,hv⟩ := h;obtain ⟨b0,b1⟩ := Lib.atoiAll_bounds hv;have HA := Xi (Atoi_ok l v hv hl w);have HI := Xi (fun (W : World) (f : Fr w W (fun _ => False)) => Itoa_any v b0 b1 W (hw.fr f));obtain ⟨z,hz⟩ : ∃ z,numD l = z := ⟨_,rfl⟩;have hzz : z = if Lib.itoa v = l then v else 0 := by rw [← hz,numD,hv]
  rw [hz];clear hz hw;generalize Lib.itoa v = t at *;by_cases ht : t = l
  ·rw [if_pos ht] at hzz;subst hzz ht;clear hv;go_enter func237,ntmps237;go_wp2_with fail;refine HA.out.mono ?_;rintro e w2 ⟨rfl,hf2⟩;have HF2 := Xi hf2;have HB2 := Xi (HI.out _ hf2);clear hf2;go_wp2_with fail;refine HB2.out.mono ?_;rintro e w3 ⟨rfl,hf3⟩;have HF3 := Xi hf3;clear hf3;go_wp2_with fail
   all_goals
    go_ret;exact ⟨rfl,ff HF2.out HF3.out⟩
  ·rw [if_neg ht] at hzz;subst hzz;have hne : (t == l) = false := beq_eq_false_iff_ne.2 ht;have hne2 : (t != l) = true := by simp [bne,hne]
   clear hv;go_enter func237,ntmps237;go_wp2_with fail;refine HA.out.mono ?_;rintro e w2 ⟨rfl,hf2⟩;have HF2 := Xi hf2;have HB2 := Xi (HI.out _ hf2);clear hf2;go_wp2_with fail;refine HB2.out.mono ?_;rintro e w3 ⟨rfl,hf3⟩;have HF3 := Xi hf3;clear hf3;go_wp2_with fail
   all_goals
    go_ret;exact ⟨rfl,ff HF2.out HF3.out⟩
 ·have HA := Xi (Atoi_no l (fun v hv => h ⟨v,hv⟩) hl w hw);obtain ⟨z,hz⟩ : ∃ z,numD l = z := ⟨_,rfl⟩;have hzz : z = 0 := by
   rw [← hz,numD];split
   ·rename_i v hv;exact absurd ⟨v,hv⟩ h
   ·rfl
  rw [hz];subst hzz;clear hz hw h;go_enter func237,ntmps237;go_wp2_with fail;refine HA.out.mono ?_;rintro e w2 ⟨x,t,p,rfl,hf2⟩;have HF2 := Xi hf2;clear hf2;go_wp2_with fail
  all_goals
   go_ret;exact ⟨rfl,HF2.out⟩
end Go.Proofs.YtodcnbejnchmhaaGreatDoor.S6
namespace Go.Proofs.YtodcnbejnchmhaaGreatDoor.S6
open _root_.Go.Proofs.Tryz
open Go.RowKit Go.Mem Go.Dfm

theorem names_of {w : World} (hw : WOk w) : w.cell? ⟨6,0,none⟩ = some (strV [83,117,110]) ∧ w.cell? ⟨6,1,none⟩ = some (strV [77,111,110]) ∧ w.cell? ⟨6,2,none⟩ = some (strV [84,117,101]) ∧ w.cell? ⟨6,3,none⟩ = some (strV [87,101,100]) ∧ w.cell? ⟨6,4,none⟩ = some (strV [84,104,117]) ∧ w.cell? ⟨6,5,none⟩ = some (strV [70,114,105]) ∧ w.cell? ⟨6,6,none⟩ = some (strV [83,97,116]) :=
 ⟨hw.names 0 (by decide),hw.names 1 (by decide),hw.names 2 (by decide),hw.names 3 (by decide),hw.names 4 (by decide),hw.names 5 (by decide),hw.names 6 (by decide)⟩
theorem Qi7 {l : Bs} {z : Int} (h : QaT l = z) (ha : ∀ j,j < 7 → Qee.getD j [] ≠ l) : z = -1 := by
 have h0 : ∀ j,j < 7 → ¬ l = Qee.getD j [] := fun j hj e => ha j hj e.symm;have a0 : ¬ l = [83,117,110] := h0 0 (by decide);have a1 : ¬ l = [77,111,110] := h0 1 (by decide);have a2 : ¬ l = [84,117,101] := h0 2 (by decide);have a3 : ¬ l = [87,101,100] := h0 3 (by decide);have a4 : ¬ l = [84,104,117] := h0 4 (by decide);have a5 : ¬ l = [70,114,105] := h0 5 (by decide);have a6 : ¬ l = [83,97,116] := h0 6 (by decide);rw [← h,QaT,if_neg a0,if_neg a1,if_neg a2,if_neg a3,if_neg a4,if_neg a5,if_neg a6]
theorem Qgf (l : Bs) (w : World) (hw : WOk w) : Calls Tryz.prog 236 #[strV l] w fun e w' => e = .returned (.int .i64 (QaT l)) ∧ w = w' := by
 obtain ⟨c0,c1,c2,c3,c4,c5,c6⟩ := names_of hw;have i0 : ∀ w,(Instr.index 281 (.agg #[strV [83,117,110],strV [77,111,110],strV [84,117,101],strV [87,101,100],strV [84,104,117],strV [70,114,105],strV [83,97,116]]) (.int .i64 0)).run Tryz.prog w = .ok (strV [83,117,110]) w := fun _ => by kernel_rfl
 have i1 : ∀ w,(Instr.index 281 (.agg #[strV [83,117,110],strV [77,111,110],strV [84,117,101],strV [87,101,100],strV [84,104,117],strV [70,114,105],strV [83,97,116]]) (.int .i64 1)).run Tryz.prog w = .ok (strV [77,111,110]) w := fun _ => by kernel_rfl
 have i2 : ∀ w,(Instr.index 281 (.agg #[strV [83,117,110],strV [77,111,110],strV [84,117,101],strV [87,101,100],strV [84,104,117],strV [70,114,105],strV [83,97,116]]) (.int .i64 2)).run Tryz.prog w = .ok (strV [84,117,101]) w := fun _ => by kernel_rfl
 have i3 : ∀ w,(Instr.index 281 (.agg #[strV [83,117,110],strV [77,111,110],strV [84,117,101],strV [87,101,100],strV [84,104,117],strV [70,114,105],strV [83,97,116]]) (.int .i64 3)).run Tryz.prog w = .ok (strV [87,101,100]) w := fun _ => by kernel_rfl
 have i4 : ∀ w,(Instr.index 281 (.agg #[strV [83,117,110],strV [77,111,110],strV [84,117,101],strV [87,101,100],strV [84,104,117],strV [70,114,105],strV [83,97,116]]) (.int .i64 4)).run Tryz.prog w = .ok (strV [84,104,117]) w := fun _ => by kernel_rfl
 have i5 : ∀ w,(Instr.index 281 (.agg #[strV [83,117,110],strV [77,111,110],strV [84,117,101],strV [87,101,100],strV [84,104,117],strV [70,114,105],strV [83,97,116]]) (.int .i64 5)).run Tryz.prog w = .ok (strV [70,114,105]) w := fun _ => by kernel_rfl
 have i6 : ∀ w,(Instr.index 281 (.agg #[strV [83,117,110],strV [77,111,110],strV [84,117,101],strV [87,101,100],strV [84,104,117],strV [70,114,105],strV [83,97,116]]) (.int .i64 6)).run Tryz.prog w = .ok (strV [83,97,116]) w := fun _ => by kernel_rfl
 obtain ⟨z,hz⟩ : ∃ z,QaT l = z := ⟨_,rfl⟩;have HZ := Xi hz;rw [hz];clear hz hw;go_enter func236,ntmps236;go_wp2_with fail
 go_loop [6] (fun v6 => ∃ k : Int,0 ≤ k ∧ k ≤ 7 ∧ v6 = .int .i64 k ∧ ∀ j : Nat,(j : Int) < k → Qee.getD j [] ≠ l) (fun v6 => 7 - (intOf v6).toNat)
 case atStart => exact ⟨0,by omega,by omega,rfl,fun j h => absurd h (by omega)⟩
 case round =>
  obtain ⟨k,hk0,hk,rfl,hall⟩ := hrel;have HA := Xi hall;clear hall;have hk7 : k = 0 ∨ k = 1 ∨ k = 2 ∨ k = 3 ∨ k = 4 ∨ k = 5 ∨ k = 6 ∨ k = 7 := by omega
  clear hk hk0;rcases hk7 with rfl | rfl | rfl | rfl | rfl | rfl | rfl | rfl
  ·by_cases h : [83,117,110] = l
   ·have hz : z = 0 := by rw [← HZ.out,← h]; rfl
    subst hz h;go_wp2_with fail;go_ret;exact ⟨rfl,rfl⟩
   ·have h1 : (([83,117,110] : Bs) == l) = false := beq_eq_false_iff_ne.2 h;have HN := Xi h;clear h;go_wp2_with fail
    go_round
    case rel => exact ⟨1,by omega,by omega,by rfl,fun j hj => by
     by_cases e : j = 0
     ·subst e; exact HN.out
     ·exact HA.out j (by omega)⟩
    case measure => simp [intOf]
  ·by_cases h : [77,111,110] = l
   ·have hz : z = 1 := by rw [← HZ.out,← h]; rfl
    subst hz h;go_wp2_with fail;go_ret;exact ⟨rfl,rfl⟩
   ·have h1 : (([77,111,110] : Bs) == l) = false := beq_eq_false_iff_ne.2 h;have HN := Xi h;clear h;go_wp2_with fail
    go_round
    case rel => exact ⟨2,by omega,by omega,by rfl,fun j hj => by
     by_cases e : j = 1
     ·subst e; exact HN.out
     ·exact HA.out j (by omega)⟩
    case measure => simp [intOf]
  ·by_cases h : [84,117,101] = l
   ·have hz : z = 2 := by rw [← HZ.out,← h]; rfl
    subst hz h;go_wp2_with fail;go_ret;exact ⟨rfl,rfl⟩
   ·have h1 : (([84,117,101] : Bs) == l) = false := beq_eq_false_iff_ne.2 h;have HN := Xi h;clear h;go_wp2_with fail
    go_round
    case rel => exact ⟨3,by omega,by omega,by rfl,fun j hj => by
     by_cases e : j = 2
     ·subst e; exact HN.out
     ·exact HA.out j (by omega)⟩
    case measure => simp [intOf]
  ·by_cases h : [87,101,100] = l
   ·have hz : z = 3 := by rw [← HZ.out,← h]; rfl
    subst hz h;go_wp2_with fail;go_ret;exact ⟨rfl,rfl⟩
   ·have h1 : (([87,101,100] : Bs) == l) = false := beq_eq_false_iff_ne.2 h;have HN := Xi h;clear h;go_wp2_with fail
    go_round
    case rel => exact ⟨4,by omega,by omega,by rfl,fun j hj => by
     by_cases e : j = 3
     ·subst e; exact HN.out
     ·exact HA.out j (by omega)⟩
    case measure => simp [intOf]
  ·by_cases h : [84,104,117] = l
   ·have hz : z = 4 := by rw [← HZ.out,← h]; rfl
    subst hz h;go_wp2_with fail;go_ret;exact ⟨rfl,rfl⟩
   ·have h1 : (([84,104,117] : Bs) == l) = false := beq_eq_false_iff_ne.2 h;have HN := Xi h;clear h;go_wp2_with fail
    go_round
    case rel => exact ⟨5,by omega,by omega,by rfl,fun j hj => by
     by_cases e : j = 4
     ·subst e; exact HN.out
     ·exact HA.out j (by omega)⟩
    case measure => simp [intOf]
  ·by_cases h : [70,114,105] = l
   ·have hz : z = 5 := by rw [← HZ.out,← h]; rfl
    subst hz h;go_wp2_with fail;go_ret;exact ⟨rfl,rfl⟩
   ·have h1 : (([70,114,105] : Bs) == l) = false := beq_eq_false_iff_ne.2 h;have HN := Xi h;clear h;go_wp2_with fail
    go_round
    case rel => exact ⟨6,by omega,by omega,by rfl,fun j hj => by
     by_cases e : j = 5
     ·subst e; exact HN.out
     ·exact HA.out j (by omega)⟩
    case measure => simp [intOf]
  ·by_cases h : [83,97,116] = l
   ·have hz : z = 6 := by rw [← HZ.out,← h]; rfl
    subst hz h;go_wp2_with fail;go_ret;exact ⟨rfl,rfl⟩
   ·have h1 : (([83,97,116] : Bs) == l) = false := beq_eq_false_iff_ne.2 h;have HN := Xi h;clear h;go_wp2_with fail
    go_round
    case rel => exact ⟨7,by omega,by omega,by rfl,fun j hj => by
     by_cases e : j = 6
     ·subst e; exact HN.out
     ·exact HA.out j (by omega)⟩
    case measure => simp [intOf]
  ·have hz : z = -1 := Qi7 HZ.out (fun j hj => HA.out j (by omega));subst hz;go_wp2_with fail;go_ret;exact ⟨rfl,rfl⟩
theorem QlC (a b : Int) (w : World) (ha : 0 ≤ a ∧ a < 7) (hb : 0 ≤ b ∧ b < 7) : Calls Tryz.prog 220 #[.int .i64 a,.int .i64 b] w fun e w' => e = .returned (.int .i64 ((b - a + 7) % 7)) ∧ w = w' := by
 obtain ⟨ha0,ha1⟩ := ha;obtain ⟨hb0,hb1⟩ := hb;have h1 : 0 ≤ b - a + 7 := by omega
 go_enter func220,ntmps220;go_wp2_with fail;go_ret;exact ⟨rfl,rfl⟩
theorem Qem (k d q y m : Int) (w : World) (hw : WOk w) : Calls Tryz.prog 219 #[dayV k d q,.int .i64 y,.int .i64 m] w fun e w' => e = .returned (.int .i64 (if k = 1 then Go.Civil.QaX y m else d)) ∧ Fr w w' (fun _ => False) := by
 have HL := Xi (fun (W : World) (f : Fr w W (fun _ => False)) => QiX y m W (hw.fr f).lok);clear hw;by_cases h : k = 1
 ·rw [if_pos h];subst h;go_enter func219,ntmps219;go_wp2_with fail;refine (HL.out _ (Fr.new _ _ _)).mono ?_;rintro e w2 ⟨rfl,rfl⟩;go_wp2_with fail;go_ret;exact ⟨rfl,Fr.new _ _ _⟩
 ·rw [if_neg h];have h1 : (k == 1) = false := beq_eq_false_iff_ne.2 h;clear h HL;go_enter func219,ntmps219;go_wp2_with fail;go_ret;exact ⟨rfl,Fr.new _ _ _⟩
end Go.Proofs.YtodcnbejnchmhaaGreatDoor.S6
namespace Go.Proofs.YtodcnbejnchmhaaGreatDoor.S6
open Go.RowKit Go.Mem Go.Esc

theorem QaS {s : ByteArray} {a : Nat} {c : UInt8} {l : Bs} (h : s.data.toList.drop a = c :: l) : ∃ hs : a < s.size,s[a] = c ∧ s.data.toList.drop (a + 1) = l := by
 have hl : s.data.toList.length = s.size := Qag s;have hs : a < s.size := by
  rw [← hl];rcases Nat.lt_or_ge a s.data.toList.length with h1 | h1
  ·exact h1
  ·rw [List.drop_eq_nil_of_le h1] at h;cases h
 refine ⟨hs,?_,?_⟩
 ·rw [List.drop_eq_getElem_cons (by rw [hl]; exact hs)] at h;have := (List.cons.inj h).1;rw [← this];rfl
 ·rw [List.drop_eq_getElem_cons (by rw [hl]; exact hs)] at h;exact (List.cons.inj h).2
theorem Qe7 (s : ByteArray) (a k : Nat) : s.extract a (a + k) = ⟨((s.data.toList.drop a).take k).toArray⟩ := by
 apply ByteArray.ext;apply Array.toList_inj.1;simp [List.extract]
theorem Qix {s : ByteArray} {a : Nat} {l : Bs} (h : s.data.toList.drop a = l) : s.extract a s.size = ⟨l.toArray⟩ := by
 have hl : s.data.toList.length = s.size := Qag s;apply ByteArray.ext;apply Array.toList_inj.1;simp [← h,List.extract];rw [List.take_of_length_le (by rw [List.length_drop,hl]; omega)]
theorem QmG {s : ByteArray} {k : Nat} (h : k < s.size) : s.data.toList.take (k + 1) = s.data.toList.take k ++ [s[k]] := by
 rw [List.take_succ_eq_append_getElem (by simpa using h)]; rfl
theorem QiL {s : ByteArray} {c : UInt8} {r : Bs} (h : s.data.toList = c :: r) : ∃ hs : 0 < s.size,s[0] = c := by
 obtain ⟨hs,hc,-⟩ := QaS (s := s) (a := 0) (by rw [List.drop_zero,h]);exact ⟨hs,hc⟩
theorem Qdn {s : ByteArray} : (∀ k (h : k < s.size),digB s[k] = true) ↔ s.data.toList.all digB = true := by
 rw [List.all_eq_true];constructor
 ·intro h x hx;obtain ⟨k,hk,e⟩ := List.getElem_of_mem hx;rw [← e];exact h k (by rw [Qag] at hk; exact hk)
 ·intro h k hk;exact h _ (List.getElem_mem (by rw [Qag]; exact hk))
theorem Qep (c : UInt8) : (48 ≤ c.toNat ∧ c.toNat ≤ 57) ↔ ¬ ((c.toNat : Int) < 48) ∧ ¬ ((57 : Int) < (c.toNat : Int)) := by omega
theorem Qeq {c : UInt8} {n : Int} {k : UInt8} (h : c ≠ k) (hn : n = c.toNat) : (n == (k.toNat : Int)) = false := by
 rw [beq_eq_false_iff_ne];intro e;exact h (UInt8.toNat_inj.1 (by omega))
end Go.Proofs.YtodcnbejnchmhaaGreatDoor.S6
namespace Go.Proofs.YtodcnbejnchmhaaGreatDoor.S6
open _root_.Go.Proofs.Tryz
open Go.RowKit Go.Mem Go.Dfm

abbrev namesA : Array Value := #[strV [83,117,110],strV [77,111,110],strV [84,117,101],strV [87,101,100],strV [84,104,117],strV [70,114,105],strV [83,97,116]]
/-- the slice at b holds the names of days -/
def Qqv (w : World) (b : Nat) : Prop := Blk w b 9 namesA
theorem Qnm (w : World) : Calls Tryz.prog 147 #[] w fun e w' => ∃ b,e = .returned (.slice (some ⟨b,0,none⟩) 7 7) ∧ Fr w w' (fun _ => False) ∧ Qqv w' b := by
 go_enter func147,ntmps147;go_wp2_with fail;go_ret;exact ⟨w.heap.size,rfl,Fr.new _ _ _,Blk.made _ _ _⟩
theorem Qk5 {w : World} {b : Nat} (h : Qqv w b) : w.cell? ⟨b,0,none⟩ = some (strV [83,117,110]) ∧ w.cell? ⟨b,1,none⟩ = some (strV [77,111,110]) ∧ w.cell? ⟨b,2,none⟩ = some (strV [84,117,101]) ∧ w.cell? ⟨b,3,none⟩ = some (strV [87,101,100]) ∧ w.cell? ⟨b,4,none⟩ = some (strV [84,104,117]) ∧ w.cell? ⟨b,5,none⟩ = some (strV [70,114,105]) ∧ w.cell? ⟨b,6,none⟩ = some (strV [83,97,116]) :=
 ⟨Qaa h 0,Qaa h 1,Qaa h 2,Qaa h 3,Qaa h 4,Qaa h 5,Qaa h 6⟩
theorem QoX (l : Bs) (w : World) : Calls Tryz.prog 115 #[strV l] w fun e w' => e = .returned (.int .i64 (QaT l)) ∧ Fr w w' (fun _ => False) := by
 have HR := Xi (Qnm w);obtain ⟨z,hz⟩ : ∃ z,QaT l = z := ⟨_,rfl⟩;have HZ := Xi hz;rw [hz];clear hz;go_enter func115,ntmps115;go_wp2_with fail;refine HR.out.mono ?_;rintro e w2 ⟨b,rfl,hf2,hb⟩;have HF2 := Xi hf2;obtain ⟨c0,c1,c2,c3,c4,c5,c6⟩ := Qk5 hb;clear hf2 hb HR;go_wp2_with fail
 go_loop [4] (fun v4 => ∃ k : Int,0 ≤ k ∧ k ≤ 7 ∧ v4 = .int .i64 k ∧ ∀ j : Nat,(j : Int) < k → Qee.getD j [] ≠ l) (fun v4 => 7 - (intOf v4).toNat)
 case atStart => exact ⟨0,by omega,by omega,rfl,fun j h => absurd h (by omega)⟩
 case round =>
  obtain ⟨k,hk0,hk,rfl,hall⟩ := hrel;have HA := Xi hall;clear hall;have hk7 : k = 0 ∨ k = 1 ∨ k = 2 ∨ k = 3 ∨ k = 4 ∨ k = 5 ∨ k = 6 ∨ k = 7 := by omega
  clear hk hk0;rcases hk7 with rfl | rfl | rfl | rfl | rfl | rfl | rfl | rfl
  ·by_cases h : [83,117,110] = l
   ·have hz : z = 0 := by rw [← HZ.out,← h]; rfl
    subst hz h;go_wp2_with fail;go_ret;exact ⟨rfl,HF2.out⟩
   ·have h1 : (([83,117,110] : Bs) == l) = false := beq_eq_false_iff_ne.2 h;have HN := Xi h;clear h;go_wp2_with fail
    go_round
    case rel => exact ⟨1,by omega,by omega,by rfl,fun j hj => by
     by_cases e : j = 0
     ·subst e; exact HN.out
     ·exact HA.out j (by omega)⟩
    case measure => simp [intOf]
  ·by_cases h : [77,111,110] = l
   ·have hz : z = 1 := by rw [← HZ.out,← h]; rfl
    subst hz h;go_wp2_with fail;go_ret;exact ⟨rfl,HF2.out⟩
   ·have h1 : (([77,111,110] : Bs) == l) = false := beq_eq_false_iff_ne.2 h;have HN := Xi h;clear h;go_wp2_with fail
    go_round
    case rel => exact ⟨2,by omega,by omega,by rfl,fun j hj => by
     by_cases e : j = 1
     ·subst e; exact HN.out
     ·exact HA.out j (by omega)⟩
    case measure => simp [intOf]
  ·by_cases h : [84,117,101] = l
   ·have hz : z = 2 := by rw [← HZ.out,← h]; rfl
    subst hz h;go_wp2_with fail;go_ret;exact ⟨rfl,HF2.out⟩
   ·have h1 : (([84,117,101] : Bs) == l) = false := beq_eq_false_iff_ne.2 h;have HN := Xi h;clear h;go_wp2_with fail
    go_round
    case rel => exact ⟨3,by omega,by omega,by rfl,fun j hj => by
     by_cases e : j = 2
     ·subst e; exact HN.out
     ·exact HA.out j (by omega)⟩
    case measure => simp [intOf]
  ·by_cases h : [87,101,100] = l
   ·have hz : z = 3 := by rw [← HZ.out,← h]; rfl
    subst hz h;go_wp2_with fail;go_ret;exact ⟨rfl,HF2.out⟩
   ·have h1 : (([87,101,100] : Bs) == l) = false := beq_eq_false_iff_ne.2 h;have HN := Xi h;clear h;go_wp2_with fail
    go_round
    case rel => exact ⟨4,by omega,by omega,by rfl,fun j hj => by
     by_cases e : j = 3
     ·subst e; exact HN.out
     ·exact HA.out j (by omega)⟩
    case measure => simp [intOf]
  ·by_cases h : [84,104,117] = l
   ·have hz : z = 4 := by rw [← HZ.out,← h]; rfl
    subst hz h;go_wp2_with fail;go_ret;exact ⟨rfl,HF2.out⟩
   ·have h1 : (([84,104,117] : Bs) == l) = false := beq_eq_false_iff_ne.2 h;have HN := Xi h;clear h;go_wp2_with fail
    go_round
    case rel => exact ⟨5,by omega,by omega,by rfl,fun j hj => by
     by_cases e : j = 4
     ·subst e; exact HN.out
     ·exact HA.out j (by omega)⟩
    case measure => simp [intOf]
  ·by_cases h : [70,114,105] = l
   ·have hz : z = 5 := by rw [← HZ.out,← h]; rfl
    subst hz h;go_wp2_with fail;go_ret;exact ⟨rfl,HF2.out⟩
   ·have h1 : (([70,114,105] : Bs) == l) = false := beq_eq_false_iff_ne.2 h;have HN := Xi h;clear h;go_wp2_with fail
    go_round
    case rel => exact ⟨6,by omega,by omega,by rfl,fun j hj => by
     by_cases e : j = 5
     ·subst e; exact HN.out
     ·exact HA.out j (by omega)⟩
    case measure => simp [intOf]
  ·by_cases h : [83,97,116] = l
   ·have hz : z = 6 := by rw [← HZ.out,← h]; rfl
    subst hz h;go_wp2_with fail;go_ret;exact ⟨rfl,HF2.out⟩
   ·have h1 : (([83,97,116] : Bs) == l) = false := beq_eq_false_iff_ne.2 h;have HN := Xi h;clear h;go_wp2_with fail
    go_round
    case rel => exact ⟨7,by omega,by omega,by rfl,fun j hj => by
     by_cases e : j = 6
     ·subst e; exact HN.out
     ·exact HA.out j (by omega)⟩
    case measure => simp [intOf]
  ·have hz : z = -1 := Qi7 HZ.out (fun j hj => HA.out j (by omega));subst hz;go_wp2_with fail;go_ret;exact ⟨rfl,HF2.out⟩
end Go.Proofs.YtodcnbejnchmhaaGreatDoor.S6
namespace Go.Proofs.YtodcnbejnchmhaaGreatDoor.S6
open _root_.Go.Proofs.Tryz
open Go.RowKit Go.Mem Go.Civil

theorem Qjv (y : Int) (w : World) : Calls Tryz.prog 148 #[.int .i64 y] w fun e w' => e = .returned (.bool (Qgb y)) ∧ w = w' := by
 go_enter func148,ntmps148;go_wp2_with fail
 all_goals
  go_ret;refine Qmo ?_
  simp_all [Qgb,QgB,tests]
  try (rw [Bool.eq_iff_iff]; simp; omega)
theorem QcM (y m : Int) (w : World) : Calls Tryz.prog 117 #[.int .i64 y,.int .i64 m] w fun e w' => e = .returned (.int .i64 (QaX y m)) ∧ w = w' := by
 obtain ⟨x,hx⟩ : ∃ x,QaX y m = x := ⟨_,rfl⟩;rw [hx];have HL := Xi (Qjv y);by_cases h2 : m = 2
 ·subst h2;by_cases hl : Qgb y = true
  ·have e : x = 29 := by rw [← hx]; unfold QaX Qe2; rw [if_pos rfl,if_pos hl]; rfl
   subst e;rw [hl] at HL;clear hx;go_enter func117,ntmps117;go_wp2_with fail;refine (HL.out _).mono ?_;rintro e w' ⟨rfl,rfl⟩;go_wp2_with fail;go_ret;exact ⟨rfl,rfl⟩
  ·simp only [Bool.not_eq_true] at hl;have e : x = 28 := by rw [← hx]; unfold QaX Qe2; rw [if_pos rfl,hl]; rfl
   subst e;rw [hl] at HL;clear hx;go_enter func117,ntmps117;go_wp2_with fail;refine (HL.out _).mono ?_;rintro e w' ⟨rfl,rfl⟩;go_wp2_with fail;go_ret;exact ⟨rfl,rfl⟩
 ·have HX := Xi hx;clear HL hx;go_enter func117,ntmps117;go_wp2_with fail
  all_goals
   go_ret;refine QkI ?_;have hx := HX.out;unfold QaX at hx;simp only [beq_iff_eq,beq_eq_false_iff_ne,ne_eq] at *;omega
theorem QcD (y m d : Int) (w : World) : Calls Tryz.prog 118 #[.int .i64 y,.int .i64 m,.int .i64 d] w fun e w' => e = .returned (.bool (QaL y m d)) ∧ w = w' := by
 have HL := Xi (QcM y m w);have HB := Xi (QaO (y := y) (m := m) (d := d));generalize QaL y m d = b at HB ⊢;generalize QaX y m = L at HB HL;go_enter func118,ntmps118;go_wp2_with fail
 all_goals first
  | (refine HL.out.mono ?_;rintro e w' ⟨rfl,rfl⟩;go_wp2_with fail
     all_goals
      go_ret;refine Qgh ?_;have hb := HB.out;rw [Bool.eq_iff_iff,hb];simp;omega)
  | (go_ret;refine Qgh ?_;have hb := HB.out;rw [Bool.eq_iff_iff,hb];simp
     try omega)
end Go.Proofs.YtodcnbejnchmhaaGreatDoor.S6
