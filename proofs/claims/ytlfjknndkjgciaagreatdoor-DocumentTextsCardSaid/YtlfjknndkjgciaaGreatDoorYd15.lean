import Derived.Test.YtlfjknndkjgciaaGreatDoorYd11
import Derived.Deep.LoopGhost
import Derived.Test.YtlfjknndkjgciaaGreatDoorYd03
import Derived.BigQuiet
import Derived.Deep.QuietTactic
import Derived.WalkLawsBesides
import Derived.IntWalk
import Derived.Lib.Hide
import Derived.Tactics2
import Derived.Test.YtlfjknndkjgciaaGreatDoorYd10
import Derived.Lib.AppendIntMem
import Derived.Lib.ConvBytes
import Derived.LoopN
set_option maxRecDepth 100000
set_option maxHeartbeats 1600000
namespace Go.Proofs.YtlfjknndkjgciaaGreatDoor.S6
open _root_.Go.Proofs.Tryz
open Go.RowKit Go.Mem Go.Civil

theorem QjR {n c : Int} (h : n < 0) (hc : 0 < c) : (n.tmod c = 0 ∧ n % c = 0 ∧ n.tdiv c = n / c) ∨ (n.tmod c < 0 ∧ n % c = n.tmod c + c ∧ n / c = n.tdiv c - 1) := by
 have e1 : n.tmod c = -((-n) % c) := by
  have := Int.neg_tmod (-n) c;rw [Int.neg_neg,Int.tmod_eq_emod_of_nonneg (a := -n) (by omega)] at this;exact this
 have e2 : n.tdiv c = -((-n) / c) := by
  have := Int.neg_tdiv (a := -n) (b := c);rw [Int.neg_neg,Int.tdiv_eq_ediv_of_nonneg (a := -n) (by omega)] at this;exact this
 have a1 := Int.emod_nonneg n (show c ≠ 0 by omega);have a2 := Int.emod_lt_of_pos n hc;have b1 := Int.emod_nonneg (-n) (show c ≠ 0 by omega);have b2 := Int.emod_lt_of_pos (-n) hc;have a3 := Int.mul_ediv_add_emod n c;have b3 := Int.mul_ediv_add_emod (-n) c;rw [e1,e2];generalize n % c = r at *;generalize (-n) % c = s at *;generalize n / c = q at *;generalize (-n) / c = p at *;have key : c * (q + p) + (r + s) = 0 := by rw [Int.mul_add]; omega
 have hq : q + p = 0 ∨ q + p = -1 := by
  rcases Int.lt_trichotomy (q + p) (-1) with h1 | h1 | h1
  ·have := Int.mul_le_mul_of_nonneg_left (show q + p ≤ -2 by omega) (show 0 ≤ c by omega);omega
  ·exact Or.inr h1
  ·rcases Int.lt_trichotomy (q + p) 0 with h2 | h2 | h2
   ·omega
   ·exact Or.inl h2
   ·have := Int.mul_le_mul_of_nonneg_left (show 1 ≤ q + p by omega) (show 0 ≤ c by omega);omega
 rcases hq with hq | hq
 ·rw [hq] at key;left;omega
 ·rw [hq] at key;right;omega

theorem neg_half {n c : Int} (h : n < 0) (hn : QaD n) (hc : 2 ≤ c) : -4611686018427387904 ≤ n.tdiv c ∧ n.tdiv c ≤ 0 := by
 have e2 : n.tdiv c = -((-n) / c) := by
  have := Int.neg_tdiv (a := -n) (b := c);rw [Int.neg_neg,Int.tdiv_eq_ediv_of_nonneg (a := -n) (by omega)] at this;exact this
 have b1 := Int.emod_nonneg (-n) (show c ≠ 0 by omega);have b3 := Int.mul_ediv_add_emod (-n) c;have b4 := Int.ediv_nonneg (show 0 ≤ -n by omega) (show 0 ≤ c by omega);rw [e2];generalize (-n) % c = s at *;generalize (-n) / c = p at *;have := Int.mul_le_mul_of_nonneg_right hc b4;unfold QaD at hn;omega
theorem QoB {a b a' b' : Int} {P : World → Prop} {w : World} (h : a = a') (h' : b = b') (hp : P w) : Ending.returned (.tuple #[.int .i64 a,.int .i64 b]) = .returned (.tuple #[.int .i64 a',.int .i64 b']) ∧ P w := ⟨by rw [h,h'],hp⟩

theorem Ql4 (n c : Int) (w : World) (hc : 2 ≤ c ∧ c ≤ 1000000) (hn : QaD n) : Calls Tryz.prog 193 #[.int .i64 n,.int .i64 c] w fun e w' => e = .returned (.tuple #[.int .i64 (n / c),.int .i64 (n % c)]) ∧ w' = w.drew := by
 by_cases h : n < 0
 ·have hp := QjR h (show 0 < c by omega);have c0 : (c == 0) = false := by simp; omega
  have c1 : (c == -1) = false := by simp; omega
  have a1 := Int.emod_nonneg n (show c ≠ 0 by omega);have a2 := Int.emod_lt_of_pos n (show 0 < c by omega);have a3 := neg_half h hn hc.1;unfold QaD at hn;rcases hp with ⟨h1,h2,h3⟩ | ⟨h1,h2,h3⟩
  ·rw [h2];go_enter func193,ntmps193;go_wp2_with fail
   go_region
   go_wp2_with fail
   go_ret2
   exact ⟨rfl,rfl⟩
  ·rw [h3,h2];go_enter func193,ntmps193;go_wp2_with fail
   go_region
   go_wp2_with fail
   go_ret2
   exact ⟨rfl,rfl⟩
 ·have a1 := Int.emod_nonneg n (show c ≠ 0 by omega);unfold QaD at hn;go_enter func193,ntmps193;go_wp2_with fail
  go_region
  go_wp2_with fail
  go_ret2
  exact ⟨rfl,rfl⟩

theorem QnK (r : Int) (w : World) (hr : -1000 ≤ r ∧ r ≤ 1000) (h0 : 0 ≤ r) : Calls Tryz.prog 208 #[.int .i64 r] w fun e w' => e = .returned (.int .i64 (toY r)) ∧ w = w' := by
 unfold toY;have b1 : 0 ≤ (r + 3) / 4 ∧ (r + 3) / 4 ≤ 1000 := by omega
 have b2 : 0 ≤ (r + 99) / 100 ∧ (r + 99) / 100 ≤ 1000 := by omega
 have b3 : 0 ≤ (r + 399) / 400 ∧ (r + 399) / 400 ≤ 1000 := by omega
 go_enter func208,ntmps208;go_wp2_with fail;go_ret;exact ⟨rfl,rfl⟩
theorem toY_le {r : Int} (h : 0 ≤ r ∧ r ≤ 400) : 0 ≤ toY r ∧ toY r ≤ 146097 := by unfold toY; omega
theorem QdE (y : Int) (w : World) (hy : -9999 ≤ y ∧ y ≤ 10000) : Calls Tryz.prog 191 #[.int .i64 y] w fun e w' => e = .returned (.int .i64 (begD y)) ∧ w' = w.drew := by
 have HP := Xi (Ql4 y 400 w (by omega) (by unfold QaD; omega));have HD := Xi (QnK (y % 400) w.drew (by omega) (by omega));have ht := toY_le (r := y % 400) (by omega);have hq : -25 ≤ y / 400 ∧ y / 400 ≤ 25 := by omega
 unfold begD;generalize toY (y % 400) = T at *;generalize y / 400 = q at *;generalize y % 400 = r at *;go_enter func191,ntmps191;go_wp2_with fail;refine HP.out.mono ?_;rintro e w' ⟨rfl,rfl⟩;go_wp2_with fail;refine HD.out.mono ?_;rintro e w' ⟨rfl,rfl⟩;go_wp2_with fail;go_ret;exact ⟨rfl,rfl⟩
theorem Week_any (n : Int) (w : World) (hn : QaD n) : Calls Tryz.prog 173 #[.int .i64 n] w fun e w' => e = .returned (.int .i64 ((n + 4) % 7)) ∧ w' = w.drew := by
 have HP := Xi (Ql4 n 7 w (by omega) hn);have hr : 0 ≤ n % 7 ∧ n % 7 < 7 := by omega
 have e : (n + 4) % 7 = (n % 7 + 4) % 7 := by omega
 rw [e];clear hn e;generalize n % 7 = r at *;generalize n / 7 = q at *;go_enter func173,ntmps173;go_wp2_with fail;refine HP.out.mono ?_;rintro e w' ⟨rfl,rfl⟩;go_wp2_with fail;go_ret;exact ⟨rfl,rfl⟩
def QbY (y m d : Int) : Int := if QaS y m d then numD y m d else 0
def QcN (y m d : Int) : Int := if QaS y m d then 0 else 6
theorem Qjv (y : Int) (k : Nat) : sumM y (k + 1) = sumM y k + Qba y ((k : Int) + 1) := rfl
theorem Qod (y : Int) (k : Nat) (h : k ≤ 12) : 0 ≤ sumM y k ∧ sumM y k ≤ 366 := by
 have h1 := QlQ (y := y) k;have h2 := Qg6 (y := y) h;rw [QlR] at h2;have := QgU y;omega
theorem Qf8 (y m d : Int) (w : World) (hg : LOk w) :
  Calls Tryz.prog 170 #[.int .i64 y,.int .i64 m,.int .i64 d] w fun e w' => e = .returned (.tuple #[.int .i64 (QbY y m d),.int .i64 (QcN y m d)]) ∧ Fr w w' (fun _ => False) := by
 have HR := Xi (Qp9 y m d w hg);unfold QbY QcN;by_cases h : QaS y m d = true
 ·rw [h] at HR;rw [if_pos h,if_pos h];have hb := QaY.1 h;have hnum : numD y m d = begD y + sumM y (m - 1).toNat + (d - 1) := rfl;have HB := Xi (QdE y w (by omega));have hbr := Qeb (y := y) (by omega);have hle := Qfb y m;obtain ⟨j,rfl⟩ : ∃ j : Nat,m = (j : Int) + 1 := ⟨(m - 1).toNat,by omega⟩;rw [show ((j : Int) + 1 - 1).toNat = j by omega] at hnum;have hb1 : 1 ≤ d ∧ d ≤ 31 ∧ (j : Int) ≤ 11 := by omega
  rw [hnum];have HL := Xi (fun i => Qji y i w.drew (hg.fr (Fr.drew _ _)));have HN : Hid (∀ k : Nat,k ≤ 12 → 0 ≤ sumM y k ∧ sumM y k ≤ 366) := Xi (Qod y);generalize begD y = B at *;clear h hb hnum hle hg;go_enter func170,ntmps170;go_wp2_with fail;refine HR.out.mono ?_;rintro e w' ⟨rfl,rfl⟩;go_wp2_with fail;refine HB.out.mono ?_;rintro e w' ⟨rfl,rfl⟩;go_wp2_with fail
  go_loop [8,9] (fun v8 v9 => ∃ k : Nat,k ≤ j ∧ v8 = .int .i64 (B + (d - 1) + sumM y k) ∧ v9 = .int .i64 ((k : Int) + 1)) (fun _ v9 => j + 1 - (intOf v9).toNat)
  case atStart => exact ⟨0,Nat.zero_le _,by simp [sumM],rfl⟩
  case round =>
   obtain ⟨k,hk,rfl,rfl⟩ := hrel;by_cases hlt : k < j
   ·have hs := HN.out k (by omega);have hs2 := HN.out (k + 1) (by omega);have hst := Qjv y k;have HS := Xi hst;have HC := Xi (HL.out ((k : Int) + 1));have h1 : (k : Int) < (j : Int) := by omega
    have h2 : (k : Int) + 1 < (j : Int) + 1 := by omega
    have hle := Qfb y ((k : Int) + 1);generalize Qba y ((k : Int) + 1) = L at *;generalize sumM y k = S at *;clear hst;go_wp2_with fail;refine HC.out.mono ?_;rintro e w' ⟨rfl,rfl⟩;go_wp2_with fail
    go_round
    case rel => exact ⟨k + 1,by omega,by rw [HS.out]; congr 1; omega,by go_num⟩
    case measure => simp [intOf]; omega
   ·obtain rfl : k = j := by omega
    have hs := HN.out k (by omega);go_wp2_with fail
    go_ret2
    exact QoB (P := fun w' => Fr w w' (fun _ => False)) (by omega) rfl (Fr.drew _ _)
 ·rw [if_neg h,if_neg h];simp only [Bool.not_eq_true] at h;rw [h] at HR;clear h hg;go_enter func170,ntmps170;go_wp2_with fail;refine HR.out.mono ?_;rintro e w' ⟨rfl,rfl⟩;go_wp2_with fail
  go_ret2
  exact ⟨rfl,Fr.refl _ _⟩
end Go.Proofs.YtlfjknndkjgciaaGreatDoor.S6
namespace Go.Proofs.YtlfjknndkjgciaaGreatDoor.S6
open _root_.Go.Proofs.Tryz
open Go.RowKit Go.Mem Go.Dfm

abbrev Bs := List UInt8
abbrev strV (l : Bs) : Value := .string ⟨l.toArray⟩
theorem Qpv : (Tryz.prog.info? 5).map (fun i => (i.zero,i.size,i.bytes)) = some (some (.int .u8 0),1,1) := by kernel_rfl
theorem infoS : (Tryz.prog.info? 9).map (fun i => (i.zero,i.size,i.bytes)) = some (some (.string ⟨#[]⟩),1,16) := by kernel_rfl
theorem Qaw (l : Bs) : (⟨l.toArray⟩ : ByteArray).size = l.length := by show l.toArray.size = _; simp
theorem Qag (s : ByteArray) : s.data.toList.length = s.size := by rw [Array.length_toList]; rfl
theorem Qfo (s : ByteArray) : Value.string s = strV s.data.toList := by
 show Value.string s = .string ⟨s.data.toList.toArray⟩;congr
theorem Qcj {P : Program} (w : World) (a b : Bs) (h : a.length + b.length ≤ 1000000) : (Op.stringOp .add ⟨a.toArray⟩ ⟨b.toArray⟩).run P w = .ok (strV (a ++ b)) w := by
 rw [run_string_add_sum w _ _ (by show a.toArray.size + b.toArray.size ≤ _; simp; omega)];show Result.ok (Value.string ((⟨a.toArray⟩ : ByteArray) ++ ⟨b.toArray⟩)) w = .ok (.string ⟨(a ++ b).toArray⟩) w;congr 2
theorem ff {a c d : World} (h : Fr a c (fun _ => False)) (h2 : Fr c d (fun _ => False)) : Fr a d (fun _ => False) := h.trans h2 (fun _ _ h => h) (fun _ _ h => h)
theorem fd {a b : World} (h : Fr a b (fun _ => False)) (n : Nat) : Fr a (b.drewN n) (fun _ => False) := ff h (Fr.drewN _ _ _)
/-- a day -/
abbrev dayV (k d w : Int) : Value := .agg #[.int .i64 k,.int .i64 d,.int .i64 w]
abbrev dayC (k d w : Int) : Obj := .cells #[.int .i64 k,.int .i64 d,.int .i64 w] 47
theorem ret_bf {a b : Bool} {x y : World} (h : a = b) (hf : Fr x y (fun _ => False)) : Ending.returned (.bool a) = .returned (.bool b) ∧ Fr x y (fun _ => False) := ⟨by rw [h],hf⟩
theorem Qdx (k d q : Int) (w : World) : Calls Tryz.prog 169 #[dayV k d q] w fun e w' => e = .returned (.bool (QaS k d q)) ∧ Fr w w' (fun _ => False) := by
 obtain ⟨b,hb⟩ : ∃ b,QaS k d q = b := ⟨_,rfl⟩;have HB := Xi (show b = true ↔ Qcv k d q by rw [← hb]; exact QaY);rw [hb];clear hb;go_enter func169,ntmps169;go_wp2_with fail
 all_goals
  go_ret;refine ret_bf ?_ (Fr.new _ _ _);have hb := HB.out;rw [Bool.eq_iff_iff,hb];simp [Qcv]
  try (simp only [beq_iff_eq,beq_eq_false_iff_ne,ne_eq] at *; omega)
end Go.Proofs.YtlfjknndkjgciaaGreatDoor.S6
namespace Go.Proofs.YtlfjknndkjgciaaGreatDoor.S6
open _root_.Go.Proofs.Tryz
open Go.RowKit Go.Mem Go.Dfm Go.Sort

def marksT : List Bs := [[],[108,97,115,116],[62,61],[60,61]]
/-- the variables that the code reads hold what the program's text lays -/
structure WOk (w : World) : Prop where
 lok : LOk w
 pow : ∃ B, B ≤ w.heap.size ∧ Lib.TabBelow Tryz.prog B w "internal/strconv.uint64pow10" .u64 Lib.pow10Tab
 max : ∃ m,w.cell? ⟨0,0,none⟩ = some (.int .i64 m)
 syn : ∃ t p,w.cell? ⟨8,0,none⟩ = some (.iface t p)
 ran : ∃ t p,w.cell? ⟨9,0,none⟩ = some (.iface t p)
 marks : ∀ i,i < 4 → w.cell? ⟨5,i,none⟩ = some (strV (marksT.getD i []))
 names : ∀ i,i < 7 → w.cell? ⟨6,i,none⟩ = some (strV (QeO.getD i []))
theorem WOk.fr {w w' : World} (h : WOk w) (f : Fr w w' (fun _ => False)) : WOk w' := by
 refine ⟨h.lok.fr f,?_,?_,?_,?_,fun i hi => f.cell0 (h.marks i hi),fun i hi => f.cell0 (h.names i hi)⟩
 ·obtain ⟨B,hB,ht⟩ := h.pow;exact ⟨B,Nat.le_trans hB f.size,ht.on (f.below hB (fun _ h => h.elim))⟩
 ·obtain ⟨m,hm⟩ := h.max;exact ⟨m,f.cell0 hm⟩
 ·obtain ⟨t,p,hm⟩ := h.syn;exact ⟨t,p,f.cell0 hm⟩
 ·obtain ⟨t,p,hm⟩ := h.ran;exact ⟨t,p,f.cell0 hm⟩
theorem QpI (w : World) (k : Nat) (os : Array Obj) : Fr w (grow (w.drewN k) os) (fun _ => False) :=
 ⟨rfl,rfl,rfl,by simp [grow],fun i hi _ => by
  show (w.heap ++ os)[i]? = _;rw [Array.getElem?_append_left hi]⟩
theorem Qf1 {w w' : World} (h : Below w.heap.size w w') : Fr w w' (fun _ => False) := (Fr.ofBelow h).mono (fun i hi hs => absurd hs (by omega))
theorem Itoa_any (n : Int) (h0 : -9223372036854775808 ≤ n) (h1 : n ≤ 9223372036854775807) (w : World) (hw : WOk w) : Calls Tryz.prog 207 #[.int .i64 n] w fun e w' => e = .returned (strV (Lib.itoa n)) ∧ Fr w w' (fun _ => False) := by
 obtain ⟨B,hB,hg⟩ := hw.pow;refine (Tryz.strconv_Itoa n h0 h1 w (hg w (Below.refl _ _))).mono ?_;rintro e w2 ⟨rfl,k,os,rfl⟩;exact ⟨rfl,QpI w k os⟩
theorem Atoi_ok (l : Bs) (v : Int) (h : Lib.atoiAll l = .ok v) (hl : l.length ≤ 1000000) (w : World) : Calls Tryz.prog 206 #[strV l] w fun e w' => e = .returned (.tuple #[.int .i64 v,.nilIface]) ∧ Fr w w' (fun _ => False) := by
 refine (Tryz.strconv_Atoi_ok ⟨l.toArray⟩ (by rw [Qaw]; omega) v h w).mono ?_;rintro e w2 ⟨rfl,hw⟩;refine ⟨rfl,Qf1 ?_⟩;rcases hw with rfl | ⟨t,rfl⟩
 ·exact Below.refl _ _
 ·exact Lib.bytesWorld_below _ _ _
theorem Atoi_no (l : Bs) (h : ∀ v,Lib.atoiAll l ≠ .ok v) (hl : l.length ≤ 1000000) (w : World) (hw : WOk w) : Calls Tryz.prog 206 #[strV l] w fun e w' => ∃ x t p,e = .returned (.tuple #[.int .i64 x,.iface t p]) ∧ Fr w w' (fun _ => False) := by
 have hsz : (⟨l.toArray⟩ : ByteArray).size ≤ 281474976710656 := by rw [Qaw]; omega
 cases hx : Lib.atoiAll l with
 | ok v => exact absurd hx (h v)
 | range =>
  obtain ⟨t,p,hv⟩ := hw.ran;refine (Any.strconv_Atoi_range Tryz.laysC172 ⟨l.toArray⟩ hsz hx _ w hv (.inr ⟨t,p,rfl⟩)).mono ?_;rintro e w2 ⟨N,rfl,h1,h2,h3⟩;exact ⟨_,_,_,rfl,Qf1 h3⟩
 | _ =>
  obtain ⟨t,p,hv⟩ := hw.syn;refine (Any.strconv_Atoi_syntax Tryz.laysC172 ⟨l.toArray⟩ hsz hx _ w hv (.inr ⟨t,p,rfl⟩)).mono ?_;rintro e w2 ⟨N,rfl,h1,h2,h3⟩;exact ⟨_,_,_,rfl,Qf1 h3⟩
theorem QfG (l p : Bs) (hl : l.length ≤ 1000000) (w : World) (hw : WOk w) : Calls Tryz.prog 180 #[strV l,strV p] w fun e w' => e = .returned (.tuple #[strV (Lib.cut l p).1,strV (Lib.cut l p).2.1,.bool (Lib.cut l p).2.2]) ∧ Fr w w' (fun _ => False) := by
 obtain ⟨m,hm⟩ := hw.max;refine (Tryz.strings_Cut ⟨l.toArray⟩ ⟨p.toArray⟩ m w (by rw [Qaw]; omega) hm).mono ?_;rintro e w2 ⟨rfl,n,rfl⟩;exact ⟨rfl,Fr.drewN _ _ _⟩
theorem Qdk (l p : Bs) (w : World) : Calls Tryz.prog 187 #[strV l,strV p] w fun e w' => e = .returned (.tuple #[strV (Lib.trimPrefix l p),.bool (Lib.hasPrefix l p)]) ∧ w = w' := by
 refine (Tryz.strings_CutPrefix ⟨l.toArray⟩ ⟨p.toArray⟩ w).mono ?_;rintro e w2 ⟨rfl,rfl⟩;exact ⟨rfl,rfl⟩
theorem Qdo (l : Bs) (hl : l.length ≤ 1000000) (w : World) (hw : WOk w) : Calls Tryz.prog 189 #[strV l] w fun e w' => e = .returned (.int .i64 (numD l)) ∧ Fr w w' (fun _ => False) := by
 by_cases h : ∃ v,Lib.atoiAll l = .ok v
 ·obtain ⟨v,hv⟩ := h;obtain ⟨b0,b1⟩ := Lib.atoiAll_bounds hv;have HA := Xi (Atoi_ok l v hv hl w);have HI := Xi (fun (W : World) (f : Fr w W (fun _ => False)) => Itoa_any v b0 b1 W (hw.fr f));obtain ⟨z,hz⟩ : ∃ z,numD l = z := ⟨_,rfl⟩;have hzz : z = if Lib.itoa v = l then v else 0 := by rw [← hz,numD,hv]
  rw [hz];clear hz hw;generalize Lib.itoa v = t at *;by_cases ht : t = l
  ·rw [if_pos ht] at hzz;subst hzz ht;clear hv;go_enter func189,ntmps189;go_wp2_with fail;refine HA.out.mono ?_;rintro e w2 ⟨rfl,hf2⟩;have HF2 := Xi hf2;have HB2 := Xi (HI.out _ hf2);clear hf2;go_wp2_with fail;refine HB2.out.mono ?_;rintro e w3 ⟨rfl,hf3⟩;have HF3 := Xi hf3;clear hf3;go_wp2_with fail
   all_goals
    go_ret;exact ⟨rfl,ff HF2.out HF3.out⟩
  ·rw [if_neg ht] at hzz;subst hzz;have hne : (t == l) = false := beq_eq_false_iff_ne.2 ht;have hne2 : (t != l) = true := by simp [bne,hne]
   clear hv;go_enter func189,ntmps189;go_wp2_with fail;refine HA.out.mono ?_;rintro e w2 ⟨rfl,hf2⟩;have HF2 := Xi hf2;have HB2 := Xi (HI.out _ hf2);clear hf2;go_wp2_with fail;refine HB2.out.mono ?_;rintro e w3 ⟨rfl,hf3⟩;have HF3 := Xi hf3;clear hf3;go_wp2_with fail
   all_goals
    go_ret;exact ⟨rfl,ff HF2.out HF3.out⟩
 ·have HA := Xi (Atoi_no l (fun v hv => h ⟨v,hv⟩) hl w hw);obtain ⟨z,hz⟩ : ∃ z,numD l = z := ⟨_,rfl⟩;have hzz : z = 0 := by
   rw [← hz,numD];split
   ·rename_i v hv;exact absurd ⟨v,hv⟩ h
   ·rfl
  rw [hz];subst hzz;clear hz hw h;go_enter func189,ntmps189;go_wp2_with fail;refine HA.out.mono ?_;rintro e w2 ⟨x,t,p,rfl,hf2⟩;have HF2 := Xi hf2;clear hf2;go_wp2_with fail
  all_goals
   go_ret;exact ⟨rfl,HF2.out⟩
end Go.Proofs.YtlfjknndkjgciaaGreatDoor.S6
namespace Go.Proofs.YtlfjknndkjgciaaGreatDoor.S6
open _root_.Go.Proofs.Tryz
open Go.RowKit Go.Mem Go.Dfm

theorem names_of {w : World} (hw : WOk w) : w.cell? ⟨6,0,none⟩ = some (strV [83,117,110]) ∧ w.cell? ⟨6,1,none⟩ = some (strV [77,111,110]) ∧ w.cell? ⟨6,2,none⟩ = some (strV [84,117,101]) ∧ w.cell? ⟨6,3,none⟩ = some (strV [87,101,100]) ∧ w.cell? ⟨6,4,none⟩ = some (strV [84,104,117]) ∧ w.cell? ⟨6,5,none⟩ = some (strV [70,114,105]) ∧ w.cell? ⟨6,6,none⟩ = some (strV [83,97,116]) :=
 ⟨hw.names 0 (by decide),hw.names 1 (by decide),hw.names 2 (by decide),hw.names 3 (by decide),hw.names 4 (by decide),hw.names 5 (by decide),hw.names 6 (by decide)⟩
theorem Qjo {l : Bs} {z : Int} (h : Qa8 l = z) (ha : ∀ j,j < 7 → QeO.getD j [] ≠ l) : z = -1 := by
 have h0 : ∀ j,j < 7 → ¬ l = QeO.getD j [] := fun j hj e => ha j hj e.symm;have a0 : ¬ l = [83,117,110] := h0 0 (by decide);have a1 : ¬ l = [77,111,110] := h0 1 (by decide);have a2 : ¬ l = [84,117,101] := h0 2 (by decide);have a3 : ¬ l = [87,101,100] := h0 3 (by decide);have a4 : ¬ l = [84,104,117] := h0 4 (by decide);have a5 : ¬ l = [70,114,105] := h0 5 (by decide);have a6 : ¬ l = [83,97,116] := h0 6 (by decide);rw [← h,Qa8,if_neg a0,if_neg a1,if_neg a2,if_neg a3,if_neg a4,if_neg a5,if_neg a6]
theorem QgL (l : Bs) (w : World) (hw : WOk w) : Calls Tryz.prog 188 #[strV l] w fun e w' => e = .returned (.int .i64 (Qa8 l)) ∧ w = w' := by
 obtain ⟨c0,c1,c2,c3,c4,c5,c6⟩ := names_of hw;have i0 : ∀ w,(Instr.index 224 (.agg #[strV [83,117,110],strV [77,111,110],strV [84,117,101],strV [87,101,100],strV [84,104,117],strV [70,114,105],strV [83,97,116]]) (.int .i64 0)).run Tryz.prog w = .ok (strV [83,117,110]) w := fun _ => by kernel_rfl
 have i1 : ∀ w,(Instr.index 224 (.agg #[strV [83,117,110],strV [77,111,110],strV [84,117,101],strV [87,101,100],strV [84,104,117],strV [70,114,105],strV [83,97,116]]) (.int .i64 1)).run Tryz.prog w = .ok (strV [77,111,110]) w := fun _ => by kernel_rfl
 have i2 : ∀ w,(Instr.index 224 (.agg #[strV [83,117,110],strV [77,111,110],strV [84,117,101],strV [87,101,100],strV [84,104,117],strV [70,114,105],strV [83,97,116]]) (.int .i64 2)).run Tryz.prog w = .ok (strV [84,117,101]) w := fun _ => by kernel_rfl
 have i3 : ∀ w,(Instr.index 224 (.agg #[strV [83,117,110],strV [77,111,110],strV [84,117,101],strV [87,101,100],strV [84,104,117],strV [70,114,105],strV [83,97,116]]) (.int .i64 3)).run Tryz.prog w = .ok (strV [87,101,100]) w := fun _ => by kernel_rfl
 have i4 : ∀ w,(Instr.index 224 (.agg #[strV [83,117,110],strV [77,111,110],strV [84,117,101],strV [87,101,100],strV [84,104,117],strV [70,114,105],strV [83,97,116]]) (.int .i64 4)).run Tryz.prog w = .ok (strV [84,104,117]) w := fun _ => by kernel_rfl
 have i5 : ∀ w,(Instr.index 224 (.agg #[strV [83,117,110],strV [77,111,110],strV [84,117,101],strV [87,101,100],strV [84,104,117],strV [70,114,105],strV [83,97,116]]) (.int .i64 5)).run Tryz.prog w = .ok (strV [70,114,105]) w := fun _ => by kernel_rfl
 have i6 : ∀ w,(Instr.index 224 (.agg #[strV [83,117,110],strV [77,111,110],strV [84,117,101],strV [87,101,100],strV [84,104,117],strV [70,114,105],strV [83,97,116]]) (.int .i64 6)).run Tryz.prog w = .ok (strV [83,97,116]) w := fun _ => by kernel_rfl
 obtain ⟨z,hz⟩ : ∃ z,Qa8 l = z := ⟨_,rfl⟩;have HZ := Xi hz;rw [hz];clear hz hw;go_enter func188,ntmps188;go_wp2_with fail
 go_loop [6] (fun v6 => ∃ k : Int,0 ≤ k ∧ k ≤ 7 ∧ v6 = .int .i64 k ∧ ∀ j : Nat,(j : Int) < k → QeO.getD j [] ≠ l) (fun v6 => 7 - (intOf v6).toNat)
 case atStart => exact ⟨0,by omega,by omega,rfl,fun j h => absurd h (by omega)⟩
 case round =>
  obtain ⟨k,hk0,hk,rfl,hall⟩ := hrel;have HA := Xi hall;clear hall;have hk7 : k = 0 ∨ k = 1 ∨ k = 2 ∨ k = 3 ∨ k = 4 ∨ k = 5 ∨ k = 6 ∨ k = 7 := by omega
  clear hk hk0;rcases hk7 with rfl | rfl | rfl | rfl | rfl | rfl | rfl | rfl
  ·by_cases h : [83,117,110] = l
   ·have hz : z = 0 := by rw [← HZ.out,← h]; rfl
    subst hz h;go_wp2_with fail;go_ret;exact ⟨rfl,rfl⟩
   ·have h1 : (([83,117,110] : Bs) == l) = false := beq_eq_false_iff_ne.2 h;have HN := Xi h;clear h;go_wp2_with fail
    go_round
    case rel => exact ⟨1,by omega,by omega,by rfl,fun j hj => by
     by_cases e : j = 0
     ·subst e; exact HN.out
     ·exact HA.out j (by omega)⟩
    case measure => simp [intOf]
  ·by_cases h : [77,111,110] = l
   ·have hz : z = 1 := by rw [← HZ.out,← h]; rfl
    subst hz h;go_wp2_with fail;go_ret;exact ⟨rfl,rfl⟩
   ·have h1 : (([77,111,110] : Bs) == l) = false := beq_eq_false_iff_ne.2 h;have HN := Xi h;clear h;go_wp2_with fail
    go_round
    case rel => exact ⟨2,by omega,by omega,by rfl,fun j hj => by
     by_cases e : j = 1
     ·subst e; exact HN.out
     ·exact HA.out j (by omega)⟩
    case measure => simp [intOf]
  ·by_cases h : [84,117,101] = l
   ·have hz : z = 2 := by rw [← HZ.out,← h]; rfl
    subst hz h;go_wp2_with fail;go_ret;exact ⟨rfl,rfl⟩
   ·have h1 : (([84,117,101] : Bs) == l) = false := beq_eq_false_iff_ne.2 h;have HN := Xi h;clear h;go_wp2_with fail
    go_round
    case rel => exact ⟨3,by omega,by omega,by rfl,fun j hj => by
     by_cases e : j = 2
     ·subst e; exact HN.out
     ·exact HA.out j (by omega)⟩
    case measure => simp [intOf]
  ·by_cases h : [87,101,100] = l
   ·have hz : z = 3 := by rw [← HZ.out,← h]; rfl
    subst hz h;go_wp2_with fail;go_ret;exact ⟨rfl,rfl⟩
   ·have h1 : (([87,101,100] : Bs) == l) = false := beq_eq_false_iff_ne.2 h;have HN := Xi h;clear h;go_wp2_with fail
    go_round
    case rel => exact ⟨4,by omega,by omega,by rfl,fun j hj => by
     by_cases e : j = 3
     ·subst e; exact HN.out
     ·exact HA.out j (by omega)⟩
    case measure => simp [intOf]
  ·by_cases h : [84,104,117] = l
   ·have hz : z = 4 := by rw [← HZ.out,← h]; rfl
    subst hz h;go_wp2_with fail;go_ret;exact ⟨rfl,rfl⟩
   ·have h1 : (([84,104,117] : Bs) == l) = false := beq_eq_false_iff_ne.2 h;have HN := Xi h;clear h;go_wp2_with fail
    go_round
    case rel => exact ⟨5,by omega,by omega,by rfl,fun j hj => by
     by_cases e : j = 4
     ·subst e; exact HN.out
     ·exact HA.out j (by omega)⟩
    case measure => simp [intOf]
  ·by_cases h : [70,114,105] = l
   ·have hz : z = 5 := by rw [← HZ.out,← h]; rfl
    subst hz h;go_wp2_with fail;go_ret;exact ⟨rfl,rfl⟩
   ·have h1 : (([70,114,105] : Bs) == l) = false := beq_eq_false_iff_ne.2 h;have HN := Xi h;clear h;go_wp2_with fail
    go_round
    case rel => exact ⟨6,by omega,by omega,by rfl,fun j hj => by
     by_cases e : j = 5
     ·subst e; exact HN.out
     ·exact HA.out j (by omega)⟩
    case measure => simp [intOf]
  ·by_cases h : [83,97,116] = l
   ·have hz : z = 6 := by rw [← HZ.out,← h]; rfl
    subst hz h;go_wp2_with fail;go_ret;exact ⟨rfl,rfl⟩
   ·have h1 : (([83,97,116] : Bs) == l) = false := beq_eq_false_iff_ne.2 h;have HN := Xi h;clear h;go_wp2_with fail
    go_round
    case rel => exact ⟨7,by omega,by omega,by rfl,fun j hj => by
     by_cases e : j = 6
     ·subst e; exact HN.out
     ·exact HA.out j (by omega)⟩
    case measure => simp [intOf]
  ·have hz : z = -1 := Qjo HZ.out (fun j hj => HA.out j (by omega));subst hz;go_wp2_with fail;go_ret;exact ⟨rfl,rfl⟩
theorem Qlw (a b : Int) (w : World) (ha : 0 ≤ a ∧ a < 7) (hb : 0 ≤ b ∧ b < 7) : Calls Tryz.prog 172 #[.int .i64 a,.int .i64 b] w fun e w' => e = .returned (.int .i64 ((b - a + 7) % 7)) ∧ w = w' := by
 obtain ⟨ha0,ha1⟩ := ha;obtain ⟨hb0,hb1⟩ := hb;have h1 : 0 ≤ b - a + 7 := by omega
 go_enter func172,ntmps172;go_wp2_with fail;go_ret;exact ⟨rfl,rfl⟩
theorem QeX (k d q y m : Int) (w : World) (hw : WOk w) : Calls Tryz.prog 171 #[dayV k d q,.int .i64 y,.int .i64 m] w fun e w' => e = .returned (.int .i64 (if k = 1 then Go.Civil.Qba y m else d)) ∧ Fr w w' (fun _ => False) := by
 have HL := Xi (fun (W : World) (f : Fr w W (fun _ => False)) => Qji y m W (hw.fr f).lok);clear hw;by_cases h : k = 1
 ·rw [if_pos h];subst h;go_enter func171,ntmps171;go_wp2_with fail;refine (HL.out _ (Fr.new _ _ _)).mono ?_;rintro e w2 ⟨rfl,rfl⟩;go_wp2_with fail;go_ret;exact ⟨rfl,Fr.new _ _ _⟩
 ·rw [if_neg h];have h1 : (k == 1) = false := beq_eq_false_iff_ne.2 h;clear h HL;go_enter func171,ntmps171;go_wp2_with fail;go_ret;exact ⟨rfl,Fr.new _ _ _⟩
theorem Qmi : (Tryz.prog.info? 47).map (·.size) = some 3 := by kernel_rfl
theorem Ql9 {w : World} {g : Nat} {x y z : Value} (h : Blk w g 47 #[x,y,z]) : (loadVar 47 ⟨g,0,none⟩).run Tryz.prog w = .ok (.agg #[x,y,z]) w := run_loadVar_row w g 47 47 #[x,y,z] (0,0) _ h underlying47 rfl Qmi
/-- a day that is stored where one stood -/
theorem Qb0 {w0 w2 : World} {b : Nat} {x y z : Value} (k d q : Value) (h : Fr w0 w2 (fun _ => False)) (hb : Blk w2 b 47 #[x,y,z]) (hge : w0.heap.size ≤ b) :
  Fr w0 (((w2.setCell ⟨b,0,none⟩ k).setCell ⟨b,1,none⟩ d).setCell ⟨b,2,none⟩ q) (fun _ => False) ∧ Blk (((w2.setCell ⟨b,0,none⟩ k).setCell ⟨b,1,none⟩ d).setCell ⟨b,2,none⟩ q) b 47 #[k,d,q] := by
 have f1 := h.fresh (Fr.set (S := (· = b)) (a := ⟨b,0,none⟩) (v := k) rfl) (fun i e => by omega);have f2 := f1.fresh (Fr.set (S := (· = b)) (a := ⟨b,1,none⟩) (v := d) rfl) (fun i e => by omega);have f3 := f2.fresh (Fr.set (S := (· = b)) (a := ⟨b,2,none⟩) (v := q) rfl) (fun i e => by omega);exact ⟨f3,((hb.put' (cs' := #[k,y,z]) 0 k (by simp)).put' (cs' := #[k,d,z]) 1 d (by simp)).put' (cs' := #[k,d,q]) 2 q (by simp)⟩
theorem Qem {w : World} (hw : WOk w) : w.cell? ⟨5,1,none⟩ = some (strV [108,97,115,116]) ∧ w.cell? ⟨5,2,none⟩ = some (strV [62,61]) ∧ w.cell? ⟨5,3,none⟩ = some (strV [60,61]) :=
 ⟨hw.marks 1 (by decide),hw.marks 2 (by decide),hw.marks 3 (by decide)⟩
theorem QdD (l p : Bs) : (Lib.cut l p).2.1.length ≤ l.length := by
 unfold Lib.cut;split
 ·simp
 ·simp
/-- what a call answers that answers a day -/
def DayR (x : Int × Int × Int) (w : World) (e : Ending) (w' : World) : Prop := e = .returned (dayV x.1 x.2.1 x.2.2) ∧ Fr w w' (fun _ => False)
abbrev day0 : Obj := dayC 0 0 0
theorem Qei {w : World} {b : Nat} {x y z : Value} (hb : Blk w b 47 #[x,y,z]) (tmps : Array Value) (hp : tmps.getD 2 undef = .pointer (some ⟨b,0,none⟩)) : (results f168 tmps).run Tryz.prog w = .ok (.agg #[x,y,z]) w :=
 results_cell_row (P := Tryz.prog) (fn := f168) (p := 2) (ty := 47) rfl tmps _ b 47 #[x,y,z] (0,0) _ hp hb underlying47 rfl Qmi
theorem QoI (l : Bs) (_hl : l.length ≤ 100000) (w : World) (hw : WOk w) (h : Lib.hasPrefix l Qbk = true) : Calls Tryz.prog 168 #[strV l] w (DayR (1,0,Qa8 (Lib.trimPrefix l Qbk)) w) := by
 have hf0 := Fr.new w day0 (fun _ => False);have hw0 := hw.fr hf0;obtain ⟨m1,m2,m3⟩ := Qem hw0;have HP := Xi (Qdk l Qbk (w.alloc day0));rw [h] at HP;have HK := Xi (QgL (Lib.trimPrefix l Qbk) (w.alloc day0) hw0);have hb := Blk.made w 47 #[.int .i64 0,.int .i64 0,.int .i64 0];have c0 := Qaa hb 0;have c1 := Qaa hb 1;have c2 := Qaa hb 2;have f0 := Qac hb 0;have f1 := Qac hb 1;have f2 := Qac hb 2;simp at c0 c1 c2;have HB := Xi hb;have HF := Xi hf0;generalize Qa8 (Lib.trimPrefix l Qbk) = z at *;generalize Lib.trimPrefix l Qbk = t at *;clear hw hw0 hb hf0 h;go_enter func168,ntmps168;go_wp2_with fail;refine HP.out.mono ?_;rintro e w2 ⟨rfl,rfl⟩;go_wp2_with fail;refine HK.out.mono ?_;rintro e w2 ⟨rfl,rfl⟩;go_wp2_with fail;(try simp only [Exit.inBlock,Exit.then]);exact bodyPost_ret (Qei (Blk.made _ _ _) _ rfl) rfl ⟨rfl,Fr.new _ _ _⟩
theorem read_ge (l : Bs) (hl : l.length ≤ 100000) (w : World) (hw : WOk w) (h : Lib.hasPrefix l Qbk = false) (h1 : (Lib.cut l geL).2.2 = true) : Calls Tryz.prog 168 #[strV l] w (DayR (2,numD (Lib.cut l geL).2.1,Qa8 (Lib.cut l geL).1) w) := by
 have hf0 := Fr.new w day0 (fun _ => False);have hw0 := hw.fr hf0;obtain ⟨m1,m2,m3⟩ := Qem hw0;have HP := Xi (Qdk l Qbk (w.alloc day0));rw [h] at HP;have HW := Xi hw;have HC1 := Xi (QfG l geL (by omega) (w.alloc day0) hw0);have HC2 := Xi (fun W (f : Fr w W (fun _ => False)) => QfG l leL (by omega) W (hw.fr f));have HK := Xi (fun t W (f : Fr w W (fun _ => False)) => QgL t W (hw.fr f));have HN := Xi (fun t (ht : t.length ≤ 1000000) W (f : Fr w W (fun _ => False)) => Qdo t ht W (hw.fr f));have hb := Blk.made w 47 #[.int .i64 0,.int .i64 0,.int .i64 0];have f0 := Qac hb 0;have f1 := Qac hb 1;have f2 := Qac hb 2;have HB := Xi hb;have HF := Xi hf0;have hq1 := QdD l geL;have hq2 := QdD l leL;have j0 : ∀ w,(Instr.index 213 (.agg #[.int .i64 2,.int .i64 3]) (.int .i64 0)).run Tryz.prog w = .ok (.int .i64 2) w := fun _ => by kernel_rfl
 have j1 : ∀ w,(Instr.index 213 (.agg #[.int .i64 2,.int .i64 3]) (.int .i64 1)).run Tryz.prog w = .ok (.int .i64 3) w := fun _ => by kernel_rfl
 generalize Lib.cut l geL = P1 at *;obtain ⟨p1,q1,b1⟩ := P1;obtain rfl : b1 = true := h1;simp only at HC1 hq1;simp only;have HN1 := Xi (HN.out q1 (by omega));have HK1 := Xi (HK.out p1);generalize numD q1 = n1 at *;generalize Qa8 p1 = z1 at *;clear hw hw0 hb hf0 h;go_enter func168,ntmps168;go_wp2_with fail;refine HP.out.mono ?_;rintro e w2 ⟨rfl,rfl⟩;go_wp2_with fail;refine wp_loop_rounds 3 ?_;rw [rounds_succ];go_wp2_with fail;refine HC1.out.mono ?_;rintro e w2 ⟨rfl,hf2⟩;have hfr2 := ff HF.out hf2;have HF2 := Xi hfr2;have hb2 := hf2.blk HB.out (fun h => h);clear HB HF;have c0 := Qaa hb2 0;have c1 := Qaa hb2 1;have c2 := Qaa hb2 2;have f0 := Qac hb2 0;have f1 := Qac hb2 1;have f2 := Qac hb2 2;simp at c0 c1 c2;have HB2 := Xi hb2;obtain ⟨m1,m2,m3⟩ := Qem (HW.out.fr hfr2);clear hf2 hfr2 hb2;go_wp2_with fail;refine (HN1.out _ HF2.out).mono ?_;rintro e w5 ⟨rfl,hf5⟩;have hfr5 := ff HF2.out hf5;have HF5 := Xi hfr5;have hb5 := hf5.blk HB2.out (fun h => h);have c0 := Qaa hb5 0;have c1 := Qaa hb5 1;have c2 := Qaa hb5 2;have f0 := Qac hb5 0;have f1 := Qac hb5 1;have f2 := Qac hb5 2;simp at c0 c1 c2;have HB5 := Xi hb5;clear hf5 hfr5 hb5;go_wp2_with fail;refine (HK1.out _ HF5.out).mono ?_;rintro e w6 ⟨rfl,rfl⟩;go_wp2_with fail;(try simp only [Exit.inBlock,Exit.then]);obtain ⟨hf9,hb9⟩ := Qb0 (.int .i64 2) (.int .i64 n1) (.int .i64 z1) HF5.out HB5.out (Nat.le_refl _);exact bodyPost_ret (Qei hb9 _ rfl) rfl ⟨rfl,hf9⟩
theorem read_le (l : Bs) (hl : l.length ≤ 100000) (w : World) (hw : WOk w) (h : Lib.hasPrefix l Qbk = false) (h1 : (Lib.cut l geL).2.2 = false) (h2 : (Lib.cut l leL).2.2 = true) : Calls Tryz.prog 168 #[strV l] w (DayR (3,numD (Lib.cut l leL).2.1,Qa8 (Lib.cut l leL).1) w) := by
 have hf0 := Fr.new w day0 (fun _ => False);have hw0 := hw.fr hf0;obtain ⟨m1,m2,m3⟩ := Qem hw0;have HP := Xi (Qdk l Qbk (w.alloc day0));rw [h] at HP;have HW := Xi hw;have HC1 := Xi (QfG l geL (by omega) (w.alloc day0) hw0);have HC2 := Xi (fun W (f : Fr w W (fun _ => False)) => QfG l leL (by omega) W (hw.fr f));have HK := Xi (fun t W (f : Fr w W (fun _ => False)) => QgL t W (hw.fr f));have HN := Xi (fun t (ht : t.length ≤ 1000000) W (f : Fr w W (fun _ => False)) => Qdo t ht W (hw.fr f));have hb := Blk.made w 47 #[.int .i64 0,.int .i64 0,.int .i64 0];have f0 := Qac hb 0;have f1 := Qac hb 1;have f2 := Qac hb 2;have HB := Xi hb;have HF := Xi hf0;have hq1 := QdD l geL;have hq2 := QdD l leL;have j0 : ∀ w,(Instr.index 213 (.agg #[.int .i64 2,.int .i64 3]) (.int .i64 0)).run Tryz.prog w = .ok (.int .i64 2) w := fun _ => by kernel_rfl
 have j1 : ∀ w,(Instr.index 213 (.agg #[.int .i64 2,.int .i64 3]) (.int .i64 1)).run Tryz.prog w = .ok (.int .i64 3) w := fun _ => by kernel_rfl
 generalize Lib.cut l geL = P1 at *;obtain ⟨p1,q1,b1⟩ := P1;obtain rfl : b1 = false := h1;simp only at HC1 hq1;generalize Lib.cut l leL = P2 at *;obtain ⟨p2,q2,b2⟩ := P2;obtain rfl : b2 = true := h2;simp only at HC2 hq2;simp only;have HN1 := Xi (HN.out q2 (by omega));have HK1 := Xi (HK.out p2);generalize numD q2 = n2 at *;generalize Qa8 p2 = z2 at *;clear hw hw0 hb hf0 h;go_enter func168,ntmps168;go_wp2_with fail;refine HP.out.mono ?_;rintro e w2 ⟨rfl,rfl⟩;go_wp2_with fail;refine wp_loop_rounds 3 ?_;rw [rounds_succ];go_wp2_with fail;refine HC1.out.mono ?_;rintro e w2 ⟨rfl,hf2⟩;have hfr2 := ff HF.out hf2;have HF2 := Xi hfr2;have hb2 := hf2.blk HB.out (fun h => h);clear HB HF;have c0 := Qaa hb2 0;have c1 := Qaa hb2 1;have c2 := Qaa hb2 2;have f0 := Qac hb2 0;have f1 := Qac hb2 1;have f2 := Qac hb2 2;simp at c0 c1 c2;have HB2 := Xi hb2;obtain ⟨m1,m2,m3⟩ := Qem (HW.out.fr hfr2);clear hf2 hfr2 hb2;go_wp2_with fail;rw [rounds_succ];go_wp2_with fail;refine (HC2.out _ HF2.out).mono ?_;rintro e w3 ⟨rfl,hf3⟩;have hfr3 := ff HF2.out hf3;have HF3 := Xi hfr3;have hb3 := hf3.blk HB2.out (fun h => h);have c0 := Qaa hb3 0;have c1 := Qaa hb3 1;have c2 := Qaa hb3 2;have f0 := Qac hb3 0;have f1 := Qac hb3 1;have f2 := Qac hb3 2;simp at c0 c1 c2;have HB3 := Xi hb3;clear hf3 hfr3 hb3;go_wp2_with fail;refine (HN1.out _ HF3.out).mono ?_;rintro e w5 ⟨rfl,hf5⟩;have hfr5 := ff HF3.out hf5;have HF5 := Xi hfr5;have hb5 := hf5.blk HB3.out (fun h => h);have c0 := Qaa hb5 0;have c1 := Qaa hb5 1;have c2 := Qaa hb5 2;have f0 := Qac hb5 0;have f1 := Qac hb5 1;have f2 := Qac hb5 2;simp at c0 c1 c2;have HB5 := Xi hb5;clear hf5 hfr5 hb5;go_wp2_with fail;refine (HK1.out _ HF5.out).mono ?_;rintro e w6 ⟨rfl,rfl⟩;go_wp2_with fail;(try simp only [Exit.inBlock,Exit.then]);obtain ⟨hf9,hb9⟩ := Qb0 (.int .i64 3) (.int .i64 n2) (.int .i64 z2) HF5.out HB5.out (Nat.le_refl _);exact bodyPost_ret (Qei hb9 _ rfl) rfl ⟨rfl,hf9⟩
theorem read_no (l : Bs) (hl : l.length ≤ 100000) (w : World) (hw : WOk w) (h : Lib.hasPrefix l Qbk = false) (h1 : (Lib.cut l geL).2.2 = false) (h2 : (Lib.cut l leL).2.2 = false) : Calls Tryz.prog 168 #[strV l] w (DayR (0,numD l,0) w) := by
 have hf0 := Fr.new w day0 (fun _ => False);have hw0 := hw.fr hf0;obtain ⟨m1,m2,m3⟩ := Qem hw0;have HP := Xi (Qdk l Qbk (w.alloc day0));rw [h] at HP;have HW := Xi hw;have HC1 := Xi (QfG l geL (by omega) (w.alloc day0) hw0);have HC2 := Xi (fun W (f : Fr w W (fun _ => False)) => QfG l leL (by omega) W (hw.fr f));have HK := Xi (fun t W (f : Fr w W (fun _ => False)) => QgL t W (hw.fr f));have HN := Xi (fun t (ht : t.length ≤ 1000000) W (f : Fr w W (fun _ => False)) => Qdo t ht W (hw.fr f));have hb := Blk.made w 47 #[.int .i64 0,.int .i64 0,.int .i64 0];have f0 := Qac hb 0;have f1 := Qac hb 1;have f2 := Qac hb 2;have HB := Xi hb;have HF := Xi hf0;have hq1 := QdD l geL;have hq2 := QdD l leL;have j0 : ∀ w,(Instr.index 213 (.agg #[.int .i64 2,.int .i64 3]) (.int .i64 0)).run Tryz.prog w = .ok (.int .i64 2) w := fun _ => by kernel_rfl
 have j1 : ∀ w,(Instr.index 213 (.agg #[.int .i64 2,.int .i64 3]) (.int .i64 1)).run Tryz.prog w = .ok (.int .i64 3) w := fun _ => by kernel_rfl
 generalize Lib.cut l geL = P1 at *;obtain ⟨p1,q1,b1⟩ := P1;obtain rfl : b1 = false := h1;simp only at HC1 hq1;generalize Lib.cut l leL = P2 at *;obtain ⟨p2,q2,b2⟩ := P2;obtain rfl : b2 = false := h2;simp only at HC2 hq2;have HN1 := Xi (HN.out l (by omega));generalize numD l = n3 at *;clear hw hw0 hb hf0 h;go_enter func168,ntmps168;go_wp2_with fail;refine HP.out.mono ?_;rintro e w2 ⟨rfl,rfl⟩;go_wp2_with fail;refine wp_loop_rounds 3 ?_;rw [rounds_succ];go_wp2_with fail;refine HC1.out.mono ?_;rintro e w2 ⟨rfl,hf2⟩;have hfr2 := ff HF.out hf2;have HF2 := Xi hfr2;have hb2 := hf2.blk HB.out (fun h => h);clear HB HF;have c0 := Qaa hb2 0;have c1 := Qaa hb2 1;have c2 := Qaa hb2 2;have f0 := Qac hb2 0;have f1 := Qac hb2 1;have f2 := Qac hb2 2;simp at c0 c1 c2;have HB2 := Xi hb2;obtain ⟨m1,m2,m3⟩ := Qem (HW.out.fr hfr2);clear hf2 hfr2 hb2;go_wp2_with fail;rw [rounds_succ];go_wp2_with fail;refine (HC2.out _ HF2.out).mono ?_;rintro e w3 ⟨rfl,hf3⟩;have hfr3 := ff HF2.out hf3;have HF3 := Xi hfr3;have hb3 := hf3.blk HB2.out (fun h => h);have c0 := Qaa hb3 0;have c1 := Qaa hb3 1;have c2 := Qaa hb3 2;have f0 := Qac hb3 0;have f1 := Qac hb3 1;have f2 := Qac hb3 2;simp at c0 c1 c2;have HB3 := Xi hb3;clear hf3 hfr3 hb3;go_wp2_with fail;rw [rounds_succ];go_wp2_with fail;refine (HN1.out _ HF3.out).mono ?_;rintro e w5 ⟨rfl,hf5⟩;have hfr5 := ff HF3.out hf5;have HF5 := Xi hfr5;have hb5 := hf5.blk HB3.out (fun h => h);have c0 := Qaa hb5 0;have c1 := Qaa hb5 1;have c2 := Qaa hb5 2;have f0 := Qac hb5 0;have f1 := Qac hb5 1;have f2 := Qac hb5 2;simp at c0 c1 c2;have HB5 := Xi hb5;clear hf5 hfr5 hb5;go_wp2_with fail;(try simp only [Exit.inBlock,Exit.then]);obtain ⟨hf9,hb9⟩ := Qb0 (.int .i64 0) (.int .i64 n3) (.int .i64 0) HF5.out HB5.out (Nat.le_refl _);exact bodyPost_ret (Qei hb9 _ rfl) rfl ⟨rfl,hf9⟩
theorem QiS (l : Bs) (hl : l.length ≤ 100000) (w : World) (hw : WOk w) : Calls Tryz.prog 168 #[strV l] w (DayR (Qdf l) w) := by
 unfold Qdf;by_cases h : Lib.hasPrefix l Qbk = true
 ·rw [if_pos h];exact QoI l hl w hw h
 ·rw [if_neg h];simp only [Bool.not_eq_true] at h;by_cases h1 : (Lib.cut l geL).2.2 = true
  ·rw [if_pos h1];exact read_ge l hl w hw h h1
  ·rw [if_neg h1];simp only [Bool.not_eq_true] at h1;by_cases h2 : (Lib.cut l leL).2.2 = true
   ·rw [if_pos h2];exact read_le l hl w hw h h1 h2
   ·rw [if_neg h2];simp only [Bool.not_eq_true] at h2;exact read_no l hl w hw h h1 h2
end Go.Proofs.YtlfjknndkjgciaaGreatDoor.S6
