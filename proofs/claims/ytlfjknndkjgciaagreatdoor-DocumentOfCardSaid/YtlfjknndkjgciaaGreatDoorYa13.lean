import Derived.Test.YtlfjknndkjgciaaGreatDoorYa12
import Derived.Deep.LoopGhost
import Derived.Test.YtlfjknndkjgciaaGreatDoorYa03
import Derived.BigQuiet
import Derived.Deep.QuietTactic
import Derived.WalkLawsBesides
import Derived.IntWalk
import Derived.Lib.Hide
import Derived.Tactics2
import Derived.Test.YtlfjknndkjgciaaGreatDoorYa10
import Derived.Lib.AppendIntMem
import Derived.Lib.ConvBytes
import Derived.LoopN
namespace Go.Proofs.YtlfjknndkjgciaaGreatDoor.S6
open Go.RowKit Go.Mem Go.Civil

def daysK (y m d : Int) : Int := if rightB y m d then numD y m d else 0
def daysE (y m d : Int) : Int := if rightB y m d then 0 else 6
theorem sumM_step (y : Int) (k : Nat) : sumM y (k + 1) = sumM y k + longI y ((k : Int) + 1) := rfl
theorem sumM_le (y : Int) (k : Nat) (h : k ≤ 12) : 0 ≤ sumM y k ∧ sumM y k ≤ 366 := by
  have h1 := sumM_pos (y := y) k
  have h2 := sumM_mono (y := y) h
  rw [sumM_all] at h2
  have := leapI_le y
  omega
theorem Days_any (y m d : Int) (w : World) (hg : LOk w) :
    Calls Tryz.prog 170 #[.int .i64 y, .int .i64 m, .int .i64 d] w fun e w' => e = .returned (.tuple #[.int .i64 (daysK y m d), .int .i64 (daysE y m d)]) ∧ Fr w w' (fun _ => False) := by
  have HR := Lib.hid (Right_any y m d w hg)
  unfold daysK daysE
  by_cases h : rightB y m d = true
  · rw [h] at HR
    rw [if_pos h, if_pos h]
    have hb := rightB_iff.1 h
    have hnum : numD y m d = begD y + sumM y (m - 1).toNat + (d - 1) := rfl
    have HB := Lib.hid (begin_any y w (by omega))
    have hbr := begD_range (y := y) (by omega)
    have hle := longI_le y m
    obtain ⟨j, rfl⟩ : ∃ j : Nat, m = (j : Int) + 1 := ⟨(m - 1).toNat, by omega⟩
    rw [show ((j : Int) + 1 - 1).toNat = j by omega] at hnum
    have hb1 : 1 ≤ d ∧ d ≤ 31 ∧ (j : Int) ≤ 11 := by omega
    rw [hnum]
    have HL := Lib.hid (fun i => Long_any y i w.drew (hg.fr (Fr.drew _ _)))
    have HN : Hid (∀ k : Nat, k ≤ 12 → 0 ≤ sumM y k ∧ sumM y k ≤ 366) := Lib.hid (sumM_le y)
    generalize begD y = B at *
    clear h hb hnum hle hg
    go_enter Tryz.func170, Tryz.ntmps170
    go_wp2_with fail
    refine HR.out.mono ?_
    rintro e w' ⟨rfl, rfl⟩
    go_wp2_with fail
    refine HB.out.mono ?_
    rintro e w' ⟨rfl, rfl⟩
    go_wp2_with fail
    go_loop [8, 9] (fun v8 v9 => ∃ k : Nat, k ≤ j ∧ v8 = .int .i64 (B + (d - 1) + sumM y k) ∧ v9 = .int .i64 ((k : Int) + 1)) (fun _ v9 => j + 1 - (intOf v9).toNat)
    case atStart => exact ⟨0, Nat.zero_le _, by simp [sumM], rfl⟩
    case round =>
      obtain ⟨k, hk, rfl, rfl⟩ := hrel
      by_cases hlt : k < j
      · have hs := HN.out k (by omega)
        have hs2 := HN.out (k + 1) (by omega)
        have hst := sumM_step y k
        have HS := Lib.hid hst
        have HC := Lib.hid (HL.out ((k : Int) + 1))
        have h1 : (k : Int) < (j : Int) := by omega
        have h2 : (k : Int) + 1 < (j : Int) + 1 := by omega
        have hle := longI_le y ((k : Int) + 1)
        generalize longI y ((k : Int) + 1) = L at *
        generalize sumM y k = S at *
        clear hst
        go_wp2_with fail
        refine HC.out.mono ?_
        rintro e w' ⟨rfl, rfl⟩
        go_wp2_with fail
        go_round
        case rel => exact ⟨k + 1, by omega, by rw [HS.out]; congr 1; omega, by go_num⟩
        case measure => simp [intOf]; omega
      · obtain rfl : k = j := by omega
        have hs := HN.out k (by omega)
        go_wp2_with fail
        go_ret2
        exact ret_two (P := fun w' => Fr w w' (fun _ => False)) (by omega) rfl (Fr.drew _ _)
  · rw [if_neg h, if_neg h]
    simp only [Bool.not_eq_true] at h
    rw [h] at HR
    clear h hg
    go_enter Tryz.func170, Tryz.ntmps170
    go_wp2_with fail
    refine HR.out.mono ?_
    rintro e w' ⟨rfl, rfl⟩
    go_wp2_with fail
    go_ret2
    exact ⟨rfl, Fr.refl _ _⟩
end Go.Proofs.YtlfjknndkjgciaaGreatDoor.S6
namespace Go.Proofs.YtlfjknndkjgciaaGreatDoor.S6
open Go.RowKit Go.Mem Go.Dfm

abbrev Bs := List UInt8
abbrev strV (l : Bs) : Value := .string ⟨l.toArray⟩
theorem infoB : (Tryz.prog.info? 5).map (fun i => (i.zero, i.size, i.bytes)) = some (some (.int .u8 0), 1, 1) := by kernel_rfl
theorem str_size (l : Bs) : (⟨l.toArray⟩ : ByteArray).size = l.length := by show l.toArray.size = _; simp
theorem bytes_len (s : ByteArray) : s.data.toList.length = s.size := by rw [Array.length_toList]; rfl
theorem strV_of (s : ByteArray) : Value.string s = strV s.data.toList := by
  show Value.string s = .string ⟨s.data.toList.toArray⟩
  congr
theorem run_add_str {P : Program} (w : World) (a b : Bs) (h : a.length + b.length ≤ 1000000) : (Op.stringOp .add ⟨a.toArray⟩ ⟨b.toArray⟩).run P w = .ok (strV (a ++ b)) w := by
  rw [run_string_add_sum w _ _ (by show a.toArray.size + b.toArray.size ≤ _; simp; omega)]
  show Result.ok (Value.string ((⟨a.toArray⟩ : ByteArray) ++ ⟨b.toArray⟩)) w = .ok (.string ⟨(a ++ b).toArray⟩) w
  congr 2
theorem ff {a c d : World} (h : Fr a c (fun _ => False)) (h2 : Fr c d (fun _ => False)) : Fr a d (fun _ => False) := h.trans h2 (fun _ _ h => h) (fun _ _ h => h)
theorem fd {a b : World} (h : Fr a b (fun _ => False)) (n : Nat) : Fr a (b.drewN n) (fun _ => False) := ff h (Fr.drewN _ _ _)
/-- a day -/
abbrev dayV (k d w : Int) : Value := .agg #[.int .i64 k, .int .i64 d, .int .i64 w]
abbrev dayC (k d w : Int) : Obj := .cells #[.int .i64 k, .int .i64 d, .int .i64 w] 47
theorem ret_bf {a b : Bool} {x y : World} (h : a = b) (hf : Fr x y (fun _ => False)) : Ending.returned (.bool a) = .returned (.bool b) ∧ Fr x y (fun _ => False) := ⟨by rw [h], hf⟩
theorem right_any (k d q : Int) (w : World) : Calls Tryz.prog 169 #[dayV k d q] w fun e w' => e = .returned (.bool (rightB k d q)) ∧ Fr w w' (fun _ => False) := by
  obtain ⟨b, hb⟩ : ∃ b, rightB k d q = b := ⟨_, rfl⟩
  have HB := Lib.hid (show b = true ↔ rightP k d q by rw [← hb]; exact rightB_iff)
  rw [hb]
  clear hb
  go_enter Tryz.func169, Tryz.ntmps169
  go_wp2_with fail
  all_goals
    go_ret
    refine ret_bf ?_ (Fr.new _ _ _)
    have hb := HB.out
    rw [Bool.eq_iff_iff, hb]
    simp [rightP]
    try (simp only [beq_iff_eq, beq_eq_false_iff_ne, ne_eq] at *; omega)
end Go.Proofs.YtlfjknndkjgciaaGreatDoor.S6
namespace Go.Proofs.YtlfjknndkjgciaaGreatDoor.S6
open Go.RowKit Go.Mem Go.Dfm Go.Sort

def marksT : List Bs := [[], [108, 97, 115, 116], [62, 61], [60, 61]]
/-- the variables that the code reads hold what the program's text lays -/
structure WOk (w : World) : Prop where
  lok : LOk w
  pow : ∃ B, B ≤ w.heap.size ∧ Lib.TabBelow Tryz.prog B w "internal/strconv.uint64pow10" .u64 Lib.pow10Tab
  max : ∃ m, w.cell? ⟨0, 0, none⟩ = some (.int .i64 m)
  syn : ∃ t p, w.cell? ⟨8, 0, none⟩ = some (.iface t p)
  ran : ∃ t p, w.cell? ⟨9, 0, none⟩ = some (.iface t p)
  marks : ∀ i, i < 4 → w.cell? ⟨5, i, none⟩ = some (strV (marksT.getD i []))
  names : ∀ i, i < 7 → w.cell? ⟨6, i, none⟩ = some (strV (namesT.getD i []))
theorem WOk.fr {w w' : World} (h : WOk w) (f : Fr w w' (fun _ => False)) : WOk w' := by
  refine ⟨h.lok.fr f, ?_, ?_, ?_, ?_, fun i hi => f.cell0 (h.marks i hi), fun i hi => f.cell0 (h.names i hi)⟩
  · obtain ⟨B, hB, ht⟩ := h.pow
    exact ⟨B, Nat.le_trans hB f.size, ht.on (f.below hB (fun _ h => h.elim))⟩
  · obtain ⟨m, hm⟩ := h.max
    exact ⟨m, f.cell0 hm⟩
  · obtain ⟨t, p, hm⟩ := h.syn
    exact ⟨t, p, f.cell0 hm⟩
  · obtain ⟨t, p, hm⟩ := h.ran
    exact ⟨t, p, f.cell0 hm⟩
theorem fr_grow (w : World) (k : Nat) (os : Array Obj) : Fr w (grow (w.drewN k) os) (fun _ => False) :=
  ⟨rfl, rfl, rfl, by simp [grow], fun i hi _ => by
    show (w.heap ++ os)[i]? = _
    rw [Array.getElem?_append_left hi]⟩
theorem fr_below {w w' : World} (h : Below w.heap.size w w') : Fr w w' (fun _ => False) := (Fr.ofBelow h).mono (fun i hi hs => absurd hs (by omega))
theorem Itoa_any (n : Int) (h0 : -9223372036854775808 ≤ n) (h1 : n ≤ 9223372036854775807) (w : World) (hw : WOk w) : Calls Tryz.prog 207 #[.int .i64 n] w fun e w' => e = .returned (strV (Lib.itoa n)) ∧ Fr w w' (fun _ => False) := by
  obtain ⟨B, hB, hg⟩ := hw.pow
  refine (Tryz.strconv_Itoa n h0 h1 w (hg w (Below.refl _ _))).mono ?_
  rintro e w2 ⟨rfl, k, os, rfl⟩
  exact ⟨rfl, fr_grow w k os⟩
theorem Atoi_ok (l : Bs) (v : Int) (h : Lib.atoiAll l = .ok v) (hl : l.length ≤ 1000000) (w : World) : Calls Tryz.prog 206 #[strV l] w fun e w' => e = .returned (.tuple #[.int .i64 v, .nilIface]) ∧ Fr w w' (fun _ => False) := by
  refine (Tryz.strconv_Atoi_ok ⟨l.toArray⟩ (by rw [str_size]; omega) v h w).mono ?_
  rintro e w2 ⟨rfl, hw⟩
  refine ⟨rfl, fr_below ?_⟩
  rcases hw with rfl | ⟨t, rfl⟩
  · exact Below.refl _ _
  · exact Lib.bytesWorld_below _ _ _
theorem Atoi_no (l : Bs) (h : ∀ v, Lib.atoiAll l ≠ .ok v) (hl : l.length ≤ 1000000) (w : World) (hw : WOk w) : Calls Tryz.prog 206 #[strV l] w fun e w' => ∃ x t p, e = .returned (.tuple #[.int .i64 x, .iface t p]) ∧ Fr w w' (fun _ => False) := by
  have hsz : (⟨l.toArray⟩ : ByteArray).size ≤ 281474976710656 := by rw [str_size]; omega
  cases hx : Lib.atoiAll l with
  | ok v => exact absurd hx (h v)
  | range =>
    obtain ⟨t, p, hv⟩ := hw.ran
    refine (Any.strconv_Atoi_range Tryz.laysC172 ⟨l.toArray⟩ hsz hx _ w hv (.inr ⟨t, p, rfl⟩)).mono ?_
    rintro e w2 ⟨N, rfl, h1, h2, h3⟩
    exact ⟨_, _, _, rfl, fr_below h3⟩
  | _ =>
    obtain ⟨t, p, hv⟩ := hw.syn
    refine (Any.strconv_Atoi_syntax Tryz.laysC172 ⟨l.toArray⟩ hsz hx _ w hv (.inr ⟨t, p, rfl⟩)).mono ?_
    rintro e w2 ⟨N, rfl, h1, h2, h3⟩
    exact ⟨_, _, _, rfl, fr_below h3⟩
theorem Cut_any (l p : Bs) (hl : l.length ≤ 1000000) (w : World) (hw : WOk w) : Calls Tryz.prog 180 #[strV l, strV p] w fun e w' => e = .returned (.tuple #[strV (Lib.cut l p).1, strV (Lib.cut l p).2.1, .bool (Lib.cut l p).2.2]) ∧ Fr w w' (fun _ => False) := by
  obtain ⟨m, hm⟩ := hw.max
  refine (Tryz.strings_Cut ⟨l.toArray⟩ ⟨p.toArray⟩ m w (by rw [str_size]; omega) hm).mono ?_
  rintro e w2 ⟨rfl, n, rfl⟩
  exact ⟨rfl, Fr.drewN _ _ _⟩
theorem CutPrefix_any (l p : Bs) (w : World) : Calls Tryz.prog 187 #[strV l, strV p] w fun e w' => e = .returned (.tuple #[strV (Lib.trimPrefix l p), .bool (Lib.hasPrefix l p)]) ∧ w = w' := by
  refine (Tryz.strings_CutPrefix ⟨l.toArray⟩ ⟨p.toArray⟩ w).mono ?_
  rintro e w2 ⟨rfl, rfl⟩
  exact ⟨rfl, rfl⟩
theorem number_any (l : Bs) (hl : l.length ≤ 1000000) (w : World) (hw : WOk w) : Calls Tryz.prog 189 #[strV l] w fun e w' => e = .returned (.int .i64 (numD l)) ∧ Fr w w' (fun _ => False) := by
  by_cases h : ∃ v, Lib.atoiAll l = .ok v
  · obtain ⟨v, hv⟩ := h
    obtain ⟨b0, b1⟩ := Lib.atoiAll_bounds hv
    have HA := Lib.hid (Atoi_ok l v hv hl w)
    have HI := Lib.hid (fun (W : World) (f : Fr w W (fun _ => False)) => Itoa_any v b0 b1 W (hw.fr f))
    obtain ⟨z, hz⟩ : ∃ z, numD l = z := ⟨_, rfl⟩
    have hzz : z = if Lib.itoa v = l then v else 0 := by rw [← hz, numD, hv]
    rw [hz]
    clear hz hw
    generalize Lib.itoa v = t at *
    by_cases ht : t = l
    · rw [if_pos ht] at hzz
      subst hzz ht
      clear hv
      go_enter Tryz.func189, Tryz.ntmps189
      go_wp2_with fail
      refine HA.out.mono ?_
      rintro e w2 ⟨rfl, hf2⟩
      have HF2 := Lib.hid hf2
      have HB2 := Lib.hid (HI.out _ hf2)
      clear hf2
      go_wp2_with fail
      refine HB2.out.mono ?_
      rintro e w3 ⟨rfl, hf3⟩
      have HF3 := Lib.hid hf3
      clear hf3
      go_wp2_with fail
      all_goals
        go_ret
        exact ⟨rfl, ff HF2.out HF3.out⟩
    · rw [if_neg ht] at hzz
      subst hzz
      have hne : (t == l) = false := beq_eq_false_iff_ne.2 ht
      have hne2 : (t != l) = true := by simp [bne, hne]
      clear hv
      go_enter Tryz.func189, Tryz.ntmps189
      go_wp2_with fail
      refine HA.out.mono ?_
      rintro e w2 ⟨rfl, hf2⟩
      have HF2 := Lib.hid hf2
      have HB2 := Lib.hid (HI.out _ hf2)
      clear hf2
      go_wp2_with fail
      refine HB2.out.mono ?_
      rintro e w3 ⟨rfl, hf3⟩
      have HF3 := Lib.hid hf3
      clear hf3
      go_wp2_with fail
      all_goals
        go_ret
        exact ⟨rfl, ff HF2.out HF3.out⟩
  · have HA := Lib.hid (Atoi_no l (fun v hv => h ⟨v, hv⟩) hl w hw)
    obtain ⟨z, hz⟩ : ∃ z, numD l = z := ⟨_, rfl⟩
    have hzz : z = 0 := by
      rw [← hz, numD]
      split
      · rename_i v hv
        exact absurd ⟨v, hv⟩ h
      · rfl
    rw [hz]
    subst hzz
    clear hz hw h
    go_enter Tryz.func189, Tryz.ntmps189
    go_wp2_with fail
    refine HA.out.mono ?_
    rintro e w2 ⟨x, t, p, rfl, hf2⟩
    have HF2 := Lib.hid hf2
    clear hf2
    go_wp2_with fail
    all_goals
      go_ret
      exact ⟨rfl, HF2.out⟩
end Go.Proofs.YtlfjknndkjgciaaGreatDoor.S6
namespace Go.Proofs.YtlfjknndkjgciaaGreatDoor.S6
open Go.RowKit Go.Mem Go.Dfm

theorem names_of {w : World} (hw : WOk w) : w.cell? ⟨6, 0, none⟩ = some (strV [83, 117, 110]) ∧ w.cell? ⟨6, 1, none⟩ = some (strV [77, 111, 110]) ∧ w.cell? ⟨6, 2, none⟩ = some (strV [84, 117, 101]) ∧ w.cell? ⟨6, 3, none⟩ = some (strV [87, 101, 100]) ∧ w.cell? ⟨6, 4, none⟩ = some (strV [84, 104, 117]) ∧ w.cell? ⟨6, 5, none⟩ = some (strV [70, 114, 105]) ∧ w.cell? ⟨6, 6, none⟩ = some (strV [83, 97, 116]) :=
  ⟨hw.names 0 (by decide), hw.names 1 (by decide), hw.names 2 (by decide), hw.names 3 (by decide), hw.names 4 (by decide), hw.names 5 (by decide), hw.names 6 (by decide)⟩
theorem week_none {l : Bs} {z : Int} (h : weekI l = z) (ha : ∀ j, j < 7 → namesT.getD j [] ≠ l) : z = -1 := by
  have h0 : ∀ j, j < 7 → ¬ l = namesT.getD j [] := fun j hj e => ha j hj e.symm
  have a0 : ¬ l = [83, 117, 110] := h0 0 (by decide)
  have a1 : ¬ l = [77, 111, 110] := h0 1 (by decide)
  have a2 : ¬ l = [84, 117, 101] := h0 2 (by decide)
  have a3 : ¬ l = [87, 101, 100] := h0 3 (by decide)
  have a4 : ¬ l = [84, 104, 117] := h0 4 (by decide)
  have a5 : ¬ l = [70, 114, 105] := h0 5 (by decide)
  have a6 : ¬ l = [83, 97, 116] := h0 6 (by decide)
  rw [← h, weekI, if_neg a0, if_neg a1, if_neg a2, if_neg a3, if_neg a4, if_neg a5, if_neg a6]
set_option maxRecDepth 100000 in
theorem week_any (l : Bs) (w : World) (hw : WOk w) : Calls Tryz.prog 188 #[strV l] w fun e w' => e = .returned (.int .i64 (weekI l)) ∧ w = w' := by
  obtain ⟨c0, c1, c2, c3, c4, c5, c6⟩ := names_of hw
  have i0 : ∀ w, (Instr.index 224 (.agg #[strV [83, 117, 110], strV [77, 111, 110], strV [84, 117, 101], strV [87, 101, 100], strV [84, 104, 117], strV [70, 114, 105], strV [83, 97, 116]]) (.int .i64 0)).run Tryz.prog w = .ok (strV [83, 117, 110]) w := fun _ => by kernel_rfl
  have i1 : ∀ w, (Instr.index 224 (.agg #[strV [83, 117, 110], strV [77, 111, 110], strV [84, 117, 101], strV [87, 101, 100], strV [84, 104, 117], strV [70, 114, 105], strV [83, 97, 116]]) (.int .i64 1)).run Tryz.prog w = .ok (strV [77, 111, 110]) w := fun _ => by kernel_rfl
  have i2 : ∀ w, (Instr.index 224 (.agg #[strV [83, 117, 110], strV [77, 111, 110], strV [84, 117, 101], strV [87, 101, 100], strV [84, 104, 117], strV [70, 114, 105], strV [83, 97, 116]]) (.int .i64 2)).run Tryz.prog w = .ok (strV [84, 117, 101]) w := fun _ => by kernel_rfl
  have i3 : ∀ w, (Instr.index 224 (.agg #[strV [83, 117, 110], strV [77, 111, 110], strV [84, 117, 101], strV [87, 101, 100], strV [84, 104, 117], strV [70, 114, 105], strV [83, 97, 116]]) (.int .i64 3)).run Tryz.prog w = .ok (strV [87, 101, 100]) w := fun _ => by kernel_rfl
  have i4 : ∀ w, (Instr.index 224 (.agg #[strV [83, 117, 110], strV [77, 111, 110], strV [84, 117, 101], strV [87, 101, 100], strV [84, 104, 117], strV [70, 114, 105], strV [83, 97, 116]]) (.int .i64 4)).run Tryz.prog w = .ok (strV [84, 104, 117]) w := fun _ => by kernel_rfl
  have i5 : ∀ w, (Instr.index 224 (.agg #[strV [83, 117, 110], strV [77, 111, 110], strV [84, 117, 101], strV [87, 101, 100], strV [84, 104, 117], strV [70, 114, 105], strV [83, 97, 116]]) (.int .i64 5)).run Tryz.prog w = .ok (strV [70, 114, 105]) w := fun _ => by kernel_rfl
  have i6 : ∀ w, (Instr.index 224 (.agg #[strV [83, 117, 110], strV [77, 111, 110], strV [84, 117, 101], strV [87, 101, 100], strV [84, 104, 117], strV [70, 114, 105], strV [83, 97, 116]]) (.int .i64 6)).run Tryz.prog w = .ok (strV [83, 97, 116]) w := fun _ => by kernel_rfl
  obtain ⟨z, hz⟩ : ∃ z, weekI l = z := ⟨_, rfl⟩
  have HZ := Lib.hid hz
  rw [hz]
  clear hz hw
  go_enter Tryz.func188, Tryz.ntmps188
  go_wp2_with fail
  go_loop [6] (fun v6 => ∃ k : Int, 0 ≤ k ∧ k ≤ 7 ∧ v6 = .int .i64 k ∧ ∀ j : Nat, (j : Int) < k → namesT.getD j [] ≠ l) (fun v6 => 7 - (intOf v6).toNat)
  case atStart => exact ⟨0, by omega, by omega, rfl, fun j h => absurd h (by omega)⟩
  case round =>
    obtain ⟨k, hk0, hk, rfl, hall⟩ := hrel
    have HA := Lib.hid hall
    clear hall
    have hk7 : k = 0 ∨ k = 1 ∨ k = 2 ∨ k = 3 ∨ k = 4 ∨ k = 5 ∨ k = 6 ∨ k = 7 := by omega
    clear hk hk0
    rcases hk7 with rfl | rfl | rfl | rfl | rfl | rfl | rfl | rfl
    · by_cases h : [83, 117, 110] = l
      · have hz : z = 0 := by rw [← HZ.out, ← h]; rfl
        subst hz h
        go_wp2_with fail
        go_ret
        exact ⟨rfl, rfl⟩
      · have h1 : (([83, 117, 110] : Bs) == l) = false := beq_eq_false_iff_ne.2 h
        have HN := Lib.hid h
        clear h
        go_wp2_with fail
        go_round
        case rel => exact ⟨1, by omega, by omega, by rfl, fun j hj => by
          by_cases e : j = 0
          · subst e; exact HN.out
          · exact HA.out j (by omega)⟩
        case measure => simp [intOf]
    · by_cases h : [77, 111, 110] = l
      · have hz : z = 1 := by rw [← HZ.out, ← h]; rfl
        subst hz h
        go_wp2_with fail
        go_ret
        exact ⟨rfl, rfl⟩
      · have h1 : (([77, 111, 110] : Bs) == l) = false := beq_eq_false_iff_ne.2 h
        have HN := Lib.hid h
        clear h
        go_wp2_with fail
        go_round
        case rel => exact ⟨2, by omega, by omega, by rfl, fun j hj => by
          by_cases e : j = 1
          · subst e; exact HN.out
          · exact HA.out j (by omega)⟩
        case measure => simp [intOf]
    · by_cases h : [84, 117, 101] = l
      · have hz : z = 2 := by rw [← HZ.out, ← h]; rfl
        subst hz h
        go_wp2_with fail
        go_ret
        exact ⟨rfl, rfl⟩
      · have h1 : (([84, 117, 101] : Bs) == l) = false := beq_eq_false_iff_ne.2 h
        have HN := Lib.hid h
        clear h
        go_wp2_with fail
        go_round
        case rel => exact ⟨3, by omega, by omega, by rfl, fun j hj => by
          by_cases e : j = 2
          · subst e; exact HN.out
          · exact HA.out j (by omega)⟩
        case measure => simp [intOf]
    · by_cases h : [87, 101, 100] = l
      · have hz : z = 3 := by rw [← HZ.out, ← h]; rfl
        subst hz h
        go_wp2_with fail
        go_ret
        exact ⟨rfl, rfl⟩
      · have h1 : (([87, 101, 100] : Bs) == l) = false := beq_eq_false_iff_ne.2 h
        have HN := Lib.hid h
        clear h
        go_wp2_with fail
        go_round
        case rel => exact ⟨4, by omega, by omega, by rfl, fun j hj => by
          by_cases e : j = 3
          · subst e; exact HN.out
          · exact HA.out j (by omega)⟩
        case measure => simp [intOf]
    · by_cases h : [84, 104, 117] = l
      · have hz : z = 4 := by rw [← HZ.out, ← h]; rfl
        subst hz h
        go_wp2_with fail
        go_ret
        exact ⟨rfl, rfl⟩
      · have h1 : (([84, 104, 117] : Bs) == l) = false := beq_eq_false_iff_ne.2 h
        have HN := Lib.hid h
        clear h
        go_wp2_with fail
        go_round
        case rel => exact ⟨5, by omega, by omega, by rfl, fun j hj => by
          by_cases e : j = 4
          · subst e; exact HN.out
          · exact HA.out j (by omega)⟩
        case measure => simp [intOf]
    · by_cases h : [70, 114, 105] = l
      · have hz : z = 5 := by rw [← HZ.out, ← h]; rfl
        subst hz h
        go_wp2_with fail
        go_ret
        exact ⟨rfl, rfl⟩
      · have h1 : (([70, 114, 105] : Bs) == l) = false := beq_eq_false_iff_ne.2 h
        have HN := Lib.hid h
        clear h
        go_wp2_with fail
        go_round
        case rel => exact ⟨6, by omega, by omega, by rfl, fun j hj => by
          by_cases e : j = 5
          · subst e; exact HN.out
          · exact HA.out j (by omega)⟩
        case measure => simp [intOf]
    · by_cases h : [83, 97, 116] = l
      · have hz : z = 6 := by rw [← HZ.out, ← h]; rfl
        subst hz h
        go_wp2_with fail
        go_ret
        exact ⟨rfl, rfl⟩
      · have h1 : (([83, 97, 116] : Bs) == l) = false := beq_eq_false_iff_ne.2 h
        have HN := Lib.hid h
        clear h
        go_wp2_with fail
        go_round
        case rel => exact ⟨7, by omega, by omega, by rfl, fun j hj => by
          by_cases e : j = 6
          · subst e; exact HN.out
          · exact HA.out j (by omega)⟩
        case measure => simp [intOf]
    · have hz : z = -1 := week_none HZ.out (fun j hj => HA.out j (by omega))
      subst hz
      go_wp2_with fail
      go_ret
      exact ⟨rfl, rfl⟩
end Go.Proofs.YtlfjknndkjgciaaGreatDoor.S6
namespace Go.Proofs.YtlfjknndkjgciaaGreatDoor.S6
open Go.RowKit Go.Mem Go.Dfm

theorem between_any (a b : Int) (w : World) (ha : 0 ≤ a ∧ a < 7) (hb : 0 ≤ b ∧ b < 7) : Calls Tryz.prog 172 #[.int .i64 a, .int .i64 b] w fun e w' => e = .returned (.int .i64 ((b - a + 7) % 7)) ∧ w = w' := by
  obtain ⟨ha0, ha1⟩ := ha
  obtain ⟨hb0, hb1⟩ := hb
  have h1 : 0 ≤ b - a + 7 := by omega
  go_enter Tryz.func172, Tryz.ntmps172
  go_wp2_with fail
  go_ret
  exact ⟨rfl, rfl⟩
theorem begin_day (k d q y m : Int) (w : World) (hw : WOk w) : Calls Tryz.prog 171 #[dayV k d q, .int .i64 y, .int .i64 m] w fun e w' => e = .returned (.int .i64 (if k = 1 then Go.Civil.longI y m else d)) ∧ Fr w w' (fun _ => False) := by
  have HL := Lib.hid (fun (W : World) (f : Fr w W (fun _ => False)) => Long_any y m W (hw.fr f).lok)
  clear hw
  by_cases h : k = 1
  · rw [if_pos h]
    subst h
    go_enter Tryz.func171, Tryz.ntmps171
    go_wp2_with fail
    refine (HL.out _ (Fr.new _ _ _)).mono ?_
    rintro e w2 ⟨rfl, rfl⟩
    go_wp2_with fail
    go_ret
    exact ⟨rfl, Fr.new _ _ _⟩
  · rw [if_neg h]
    have h1 : (k == 1) = false := beq_eq_false_iff_ne.2 h
    clear h HL
    go_enter Tryz.func171, Tryz.ntmps171
    go_wp2_with fail
    go_ret
    exact ⟨rfl, Fr.new _ _ _⟩
end Go.Proofs.YtlfjknndkjgciaaGreatDoor.S6
namespace Go.Proofs.YtlfjknndkjgciaaGreatDoor.S6
open Go.RowKit Go.Mem Go.Dfm

theorem infoDay2 : (Tryz.prog.info? 47).map (·.size) = some 3 := by kernel_rfl
theorem load_day {w : World} {g : Nat} {x y z : Value} (h : Blk w g 47 #[x, y, z]) : (loadVar 47 ⟨g, 0, none⟩).run Tryz.prog w = .ok (.agg #[x, y, z]) w := run_loadVar_row w g 47 47 #[x, y, z] (0, 0) _ h Tryz.underlying47 rfl infoDay2
/-- a day that is stored where one stood -/
theorem day_put {w0 w2 : World} {b : Nat} {x y z : Value} (k d q : Value) (h : Fr w0 w2 (fun _ => False)) (hb : Blk w2 b 47 #[x, y, z]) (hge : w0.heap.size ≤ b) :
    Fr w0 (((w2.setCell ⟨b, 0, none⟩ k).setCell ⟨b, 1, none⟩ d).setCell ⟨b, 2, none⟩ q) (fun _ => False) ∧ Blk (((w2.setCell ⟨b, 0, none⟩ k).setCell ⟨b, 1, none⟩ d).setCell ⟨b, 2, none⟩ q) b 47 #[k, d, q] := by
  have f1 := h.fresh (Fr.set (S := (· = b)) (a := ⟨b, 0, none⟩) (v := k) rfl) (fun i e => by omega)
  have f2 := f1.fresh (Fr.set (S := (· = b)) (a := ⟨b, 1, none⟩) (v := d) rfl) (fun i e => by omega)
  have f3 := f2.fresh (Fr.set (S := (· = b)) (a := ⟨b, 2, none⟩) (v := q) rfl) (fun i e => by omega)
  exact ⟨f3, ((hb.put' (cs' := #[k, y, z]) 0 k (by simp)).put' (cs' := #[k, d, z]) 1 d (by simp)).put' (cs' := #[k, d, q]) 2 q (by simp)⟩
theorem marks_of {w : World} (hw : WOk w) : w.cell? ⟨5, 1, none⟩ = some (strV [108, 97, 115, 116]) ∧ w.cell? ⟨5, 2, none⟩ = some (strV [62, 61]) ∧ w.cell? ⟨5, 3, none⟩ = some (strV [60, 61]) :=
  ⟨hw.marks 1 (by decide), hw.marks 2 (by decide), hw.marks 3 (by decide)⟩
theorem cut_len (l p : Bs) : (Lib.cut l p).2.1.length ≤ l.length := by
  unfold Lib.cut
  split
  · simp
  · simp
/-- what a call answers that answers a day -/
def DayR (x : Int × Int × Int) (w : World) (e : Ending) (w' : World) : Prop := e = .returned (dayV x.1 x.2.1 x.2.2) ∧ Fr w w' (fun _ => False)
abbrev day0 : Obj := dayC 0 0 0
theorem res_read {w : World} {b : Nat} {x y z : Value} (hb : Blk w b 47 #[x, y, z]) (tmps : Array Value) (hp : tmps.getD 2 undef = .pointer (some ⟨b, 0, none⟩)) : (results Tryz.f168 tmps).run Tryz.prog w = .ok (.agg #[x, y, z]) w :=
  results_cell_row (P := Tryz.prog) (fn := Tryz.f168) (p := 2) (ty := 47) rfl tmps _ b 47 #[x, y, z] (0, 0) _ hp hb Tryz.underlying47 rfl infoDay2
set_option maxHeartbeats 800000 in
theorem read_last (l : Bs) (_hl : l.length ≤ 100000) (w : World) (hw : WOk w) (h : Lib.hasPrefix l lastL = true) : Calls Tryz.prog 168 #[strV l] w (DayR (1, 0, weekI (Lib.trimPrefix l lastL)) w) := by
  have hf0 := Fr.new w day0 (fun _ => False)
  have hw0 := hw.fr hf0
  obtain ⟨m1, m2, m3⟩ := marks_of hw0
  have HP := Lib.hid (CutPrefix_any l lastL (w.alloc day0))
  rw [h] at HP
  have HK := Lib.hid (week_any (Lib.trimPrefix l lastL) (w.alloc day0) hw0)
  have hb := Blk.made w 47 #[.int .i64 0, .int .i64 0, .int .i64 0]
  have c0 := cell_at hb 0
  have c1 := cell_at hb 1
  have c2 := cell_at hb 2
  have f0 := free_at hb 0
  have f1 := free_at hb 1
  have f2 := free_at hb 2
  simp at c0 c1 c2
  have HB := Lib.hid hb
  have HF := Lib.hid hf0
  generalize weekI (Lib.trimPrefix l lastL) = z at *
  generalize Lib.trimPrefix l lastL = t at *
  clear hw hw0 hb hf0 h
  go_enter Tryz.func168, Tryz.ntmps168
  go_wp2_with fail
  refine HP.out.mono ?_
  rintro e w2 ⟨rfl, rfl⟩
  go_wp2_with fail
  refine HK.out.mono ?_
  rintro e w2 ⟨rfl, rfl⟩
  go_wp2_with fail
  (try simp only [Exit.inBlock, Exit.then])
  exact bodyPost_ret (res_read (Blk.made _ _ _) _ rfl) rfl ⟨rfl, Fr.new _ _ _⟩
set_option maxRecDepth 100000 in
set_option maxHeartbeats 1600000 in
theorem read_ge (l : Bs) (hl : l.length ≤ 100000) (w : World) (hw : WOk w) (h : Lib.hasPrefix l lastL = false) (h1 : (Lib.cut l geL).2.2 = true) : Calls Tryz.prog 168 #[strV l] w (DayR (2, numD (Lib.cut l geL).2.1, weekI (Lib.cut l geL).1) w) := by
  have hf0 := Fr.new w day0 (fun _ => False)
  have hw0 := hw.fr hf0
  obtain ⟨m1, m2, m3⟩ := marks_of hw0
  have HP := Lib.hid (CutPrefix_any l lastL (w.alloc day0))
  rw [h] at HP
  have HW := Lib.hid hw
  have HC1 := Lib.hid (Cut_any l geL (by omega) (w.alloc day0) hw0)
  have HC2 := Lib.hid (fun W (f : Fr w W (fun _ => False)) => Cut_any l leL (by omega) W (hw.fr f))
  have HK := Lib.hid (fun t W (f : Fr w W (fun _ => False)) => week_any t W (hw.fr f))
  have HN := Lib.hid (fun t (ht : t.length ≤ 1000000) W (f : Fr w W (fun _ => False)) => number_any t ht W (hw.fr f))
  have hb := Blk.made w 47 #[.int .i64 0, .int .i64 0, .int .i64 0]
  have f0 := free_at hb 0
  have f1 := free_at hb 1
  have f2 := free_at hb 2
  have HB := Lib.hid hb
  have HF := Lib.hid hf0
  have hq1 := cut_len l geL
  have hq2 := cut_len l leL
  have j0 : ∀ w, (Instr.index 213 (.agg #[.int .i64 2, .int .i64 3]) (.int .i64 0)).run Tryz.prog w = .ok (.int .i64 2) w := fun _ => by kernel_rfl
  have j1 : ∀ w, (Instr.index 213 (.agg #[.int .i64 2, .int .i64 3]) (.int .i64 1)).run Tryz.prog w = .ok (.int .i64 3) w := fun _ => by kernel_rfl
  generalize Lib.cut l geL = P1 at *
  obtain ⟨p1, q1, b1⟩ := P1
  obtain rfl : b1 = true := h1
  simp only at HC1 hq1
  simp only
  have HN1 := Lib.hid (HN.out q1 (by omega))
  have HK1 := Lib.hid (HK.out p1)
  generalize numD q1 = n1 at *
  generalize weekI p1 = z1 at *
  clear hw hw0 hb hf0 h
  go_enter Tryz.func168, Tryz.ntmps168
  go_wp2_with fail
  refine HP.out.mono ?_
  rintro e w2 ⟨rfl, rfl⟩
  go_wp2_with fail
  refine wp_loop_rounds 3 ?_
  rw [rounds_succ]
  go_wp2_with fail
  refine HC1.out.mono ?_
  rintro e w2 ⟨rfl, hf2⟩
  have hfr2 := ff HF.out hf2
  have HF2 := Lib.hid hfr2
  have hb2 := hf2.blk HB.out (fun h => h)
  clear HB HF
  have c0 := cell_at hb2 0
  have c1 := cell_at hb2 1
  have c2 := cell_at hb2 2
  have f0 := free_at hb2 0
  have f1 := free_at hb2 1
  have f2 := free_at hb2 2
  simp at c0 c1 c2
  have HB2 := Lib.hid hb2
  obtain ⟨m1, m2, m3⟩ := marks_of (HW.out.fr hfr2)
  clear hf2 hfr2 hb2
  go_wp2_with fail
  refine (HN1.out _ HF2.out).mono ?_
  rintro e w5 ⟨rfl, hf5⟩
  have hfr5 := ff HF2.out hf5
  have HF5 := Lib.hid hfr5
  have hb5 := hf5.blk HB2.out (fun h => h)
  have c0 := cell_at hb5 0
  have c1 := cell_at hb5 1
  have c2 := cell_at hb5 2
  have f0 := free_at hb5 0
  have f1 := free_at hb5 1
  have f2 := free_at hb5 2
  simp at c0 c1 c2
  have HB5 := Lib.hid hb5
  clear hf5 hfr5 hb5
  go_wp2_with fail
  refine (HK1.out _ HF5.out).mono ?_
  rintro e w6 ⟨rfl, rfl⟩
  go_wp2_with fail
  (try simp only [Exit.inBlock, Exit.then])
  obtain ⟨hf9, hb9⟩ := day_put (.int .i64 2) (.int .i64 n1) (.int .i64 z1) HF5.out HB5.out (Nat.le_refl _)
  exact bodyPost_ret (res_read hb9 _ rfl) rfl ⟨rfl, hf9⟩
set_option maxRecDepth 100000 in
set_option maxHeartbeats 1600000 in
theorem read_le (l : Bs) (hl : l.length ≤ 100000) (w : World) (hw : WOk w) (h : Lib.hasPrefix l lastL = false) (h1 : (Lib.cut l geL).2.2 = false) (h2 : (Lib.cut l leL).2.2 = true) : Calls Tryz.prog 168 #[strV l] w (DayR (3, numD (Lib.cut l leL).2.1, weekI (Lib.cut l leL).1) w) := by
  have hf0 := Fr.new w day0 (fun _ => False)
  have hw0 := hw.fr hf0
  obtain ⟨m1, m2, m3⟩ := marks_of hw0
  have HP := Lib.hid (CutPrefix_any l lastL (w.alloc day0))
  rw [h] at HP
  have HW := Lib.hid hw
  have HC1 := Lib.hid (Cut_any l geL (by omega) (w.alloc day0) hw0)
  have HC2 := Lib.hid (fun W (f : Fr w W (fun _ => False)) => Cut_any l leL (by omega) W (hw.fr f))
  have HK := Lib.hid (fun t W (f : Fr w W (fun _ => False)) => week_any t W (hw.fr f))
  have HN := Lib.hid (fun t (ht : t.length ≤ 1000000) W (f : Fr w W (fun _ => False)) => number_any t ht W (hw.fr f))
  have hb := Blk.made w 47 #[.int .i64 0, .int .i64 0, .int .i64 0]
  have f0 := free_at hb 0
  have f1 := free_at hb 1
  have f2 := free_at hb 2
  have HB := Lib.hid hb
  have HF := Lib.hid hf0
  have hq1 := cut_len l geL
  have hq2 := cut_len l leL
  have j0 : ∀ w, (Instr.index 213 (.agg #[.int .i64 2, .int .i64 3]) (.int .i64 0)).run Tryz.prog w = .ok (.int .i64 2) w := fun _ => by kernel_rfl
  have j1 : ∀ w, (Instr.index 213 (.agg #[.int .i64 2, .int .i64 3]) (.int .i64 1)).run Tryz.prog w = .ok (.int .i64 3) w := fun _ => by kernel_rfl
  generalize Lib.cut l geL = P1 at *
  obtain ⟨p1, q1, b1⟩ := P1
  obtain rfl : b1 = false := h1
  simp only at HC1 hq1
  generalize Lib.cut l leL = P2 at *
  obtain ⟨p2, q2, b2⟩ := P2
  obtain rfl : b2 = true := h2
  simp only at HC2 hq2
  simp only
  have HN1 := Lib.hid (HN.out q2 (by omega))
  have HK1 := Lib.hid (HK.out p2)
  generalize numD q2 = n2 at *
  generalize weekI p2 = z2 at *
  clear hw hw0 hb hf0 h
  go_enter Tryz.func168, Tryz.ntmps168
  go_wp2_with fail
  refine HP.out.mono ?_
  rintro e w2 ⟨rfl, rfl⟩
  go_wp2_with fail
  refine wp_loop_rounds 3 ?_
  rw [rounds_succ]
  go_wp2_with fail
  refine HC1.out.mono ?_
  rintro e w2 ⟨rfl, hf2⟩
  have hfr2 := ff HF.out hf2
  have HF2 := Lib.hid hfr2
  have hb2 := hf2.blk HB.out (fun h => h)
  clear HB HF
  have c0 := cell_at hb2 0
  have c1 := cell_at hb2 1
  have c2 := cell_at hb2 2
  have f0 := free_at hb2 0
  have f1 := free_at hb2 1
  have f2 := free_at hb2 2
  simp at c0 c1 c2
  have HB2 := Lib.hid hb2
  obtain ⟨m1, m2, m3⟩ := marks_of (HW.out.fr hfr2)
  clear hf2 hfr2 hb2
  go_wp2_with fail
  rw [rounds_succ]
  go_wp2_with fail
  refine (HC2.out _ HF2.out).mono ?_
  rintro e w3 ⟨rfl, hf3⟩
  have hfr3 := ff HF2.out hf3
  have HF3 := Lib.hid hfr3
  have hb3 := hf3.blk HB2.out (fun h => h)
  have c0 := cell_at hb3 0
  have c1 := cell_at hb3 1
  have c2 := cell_at hb3 2
  have f0 := free_at hb3 0
  have f1 := free_at hb3 1
  have f2 := free_at hb3 2
  simp at c0 c1 c2
  have HB3 := Lib.hid hb3
  clear hf3 hfr3 hb3
  go_wp2_with fail
  refine (HN1.out _ HF3.out).mono ?_
  rintro e w5 ⟨rfl, hf5⟩
  have hfr5 := ff HF3.out hf5
  have HF5 := Lib.hid hfr5
  have hb5 := hf5.blk HB3.out (fun h => h)
  have c0 := cell_at hb5 0
  have c1 := cell_at hb5 1
  have c2 := cell_at hb5 2
  have f0 := free_at hb5 0
  have f1 := free_at hb5 1
  have f2 := free_at hb5 2
  simp at c0 c1 c2
  have HB5 := Lib.hid hb5
  clear hf5 hfr5 hb5
  go_wp2_with fail
  refine (HK1.out _ HF5.out).mono ?_
  rintro e w6 ⟨rfl, rfl⟩
  go_wp2_with fail
  (try simp only [Exit.inBlock, Exit.then])
  obtain ⟨hf9, hb9⟩ := day_put (.int .i64 3) (.int .i64 n2) (.int .i64 z2) HF5.out HB5.out (Nat.le_refl _)
  exact bodyPost_ret (res_read hb9 _ rfl) rfl ⟨rfl, hf9⟩
set_option maxRecDepth 100000 in
set_option maxHeartbeats 1600000 in
theorem read_no (l : Bs) (hl : l.length ≤ 100000) (w : World) (hw : WOk w) (h : Lib.hasPrefix l lastL = false) (h1 : (Lib.cut l geL).2.2 = false) (h2 : (Lib.cut l leL).2.2 = false) : Calls Tryz.prog 168 #[strV l] w (DayR (0, numD l, 0) w) := by
  have hf0 := Fr.new w day0 (fun _ => False)
  have hw0 := hw.fr hf0
  obtain ⟨m1, m2, m3⟩ := marks_of hw0
  have HP := Lib.hid (CutPrefix_any l lastL (w.alloc day0))
  rw [h] at HP
  have HW := Lib.hid hw
  have HC1 := Lib.hid (Cut_any l geL (by omega) (w.alloc day0) hw0)
  have HC2 := Lib.hid (fun W (f : Fr w W (fun _ => False)) => Cut_any l leL (by omega) W (hw.fr f))
  have HK := Lib.hid (fun t W (f : Fr w W (fun _ => False)) => week_any t W (hw.fr f))
  have HN := Lib.hid (fun t (ht : t.length ≤ 1000000) W (f : Fr w W (fun _ => False)) => number_any t ht W (hw.fr f))
  have hb := Blk.made w 47 #[.int .i64 0, .int .i64 0, .int .i64 0]
  have f0 := free_at hb 0
  have f1 := free_at hb 1
  have f2 := free_at hb 2
  have HB := Lib.hid hb
  have HF := Lib.hid hf0
  have hq1 := cut_len l geL
  have hq2 := cut_len l leL
  have j0 : ∀ w, (Instr.index 213 (.agg #[.int .i64 2, .int .i64 3]) (.int .i64 0)).run Tryz.prog w = .ok (.int .i64 2) w := fun _ => by kernel_rfl
  have j1 : ∀ w, (Instr.index 213 (.agg #[.int .i64 2, .int .i64 3]) (.int .i64 1)).run Tryz.prog w = .ok (.int .i64 3) w := fun _ => by kernel_rfl
  generalize Lib.cut l geL = P1 at *
  obtain ⟨p1, q1, b1⟩ := P1
  obtain rfl : b1 = false := h1
  simp only at HC1 hq1
  generalize Lib.cut l leL = P2 at *
  obtain ⟨p2, q2, b2⟩ := P2
  obtain rfl : b2 = false := h2
  simp only at HC2 hq2
  have HN1 := Lib.hid (HN.out l (by omega))
  generalize numD l = n3 at *
  clear hw hw0 hb hf0 h
  go_enter Tryz.func168, Tryz.ntmps168
  go_wp2_with fail
  refine HP.out.mono ?_
  rintro e w2 ⟨rfl, rfl⟩
  go_wp2_with fail
  refine wp_loop_rounds 3 ?_
  rw [rounds_succ]
  go_wp2_with fail
  refine HC1.out.mono ?_
  rintro e w2 ⟨rfl, hf2⟩
  have hfr2 := ff HF.out hf2
  have HF2 := Lib.hid hfr2
  have hb2 := hf2.blk HB.out (fun h => h)
  clear HB HF
  have c0 := cell_at hb2 0
  have c1 := cell_at hb2 1
  have c2 := cell_at hb2 2
  have f0 := free_at hb2 0
  have f1 := free_at hb2 1
  have f2 := free_at hb2 2
  simp at c0 c1 c2
  have HB2 := Lib.hid hb2
  obtain ⟨m1, m2, m3⟩ := marks_of (HW.out.fr hfr2)
  clear hf2 hfr2 hb2
  go_wp2_with fail
  rw [rounds_succ]
  go_wp2_with fail
  refine (HC2.out _ HF2.out).mono ?_
  rintro e w3 ⟨rfl, hf3⟩
  have hfr3 := ff HF2.out hf3
  have HF3 := Lib.hid hfr3
  have hb3 := hf3.blk HB2.out (fun h => h)
  have c0 := cell_at hb3 0
  have c1 := cell_at hb3 1
  have c2 := cell_at hb3 2
  have f0 := free_at hb3 0
  have f1 := free_at hb3 1
  have f2 := free_at hb3 2
  simp at c0 c1 c2
  have HB3 := Lib.hid hb3
  clear hf3 hfr3 hb3
  go_wp2_with fail
  rw [rounds_succ]
  go_wp2_with fail
  refine (HN1.out _ HF3.out).mono ?_
  rintro e w5 ⟨rfl, hf5⟩
  have hfr5 := ff HF3.out hf5
  have HF5 := Lib.hid hfr5
  have hb5 := hf5.blk HB3.out (fun h => h)
  have c0 := cell_at hb5 0
  have c1 := cell_at hb5 1
  have c2 := cell_at hb5 2
  have f0 := free_at hb5 0
  have f1 := free_at hb5 1
  have f2 := free_at hb5 2
  simp at c0 c1 c2
  have HB5 := Lib.hid hb5
  clear hf5 hfr5 hb5
  go_wp2_with fail
  (try simp only [Exit.inBlock, Exit.then])
  obtain ⟨hf9, hb9⟩ := day_put (.int .i64 0) (.int .i64 n3) (.int .i64 0) HF5.out HB5.out (Nat.le_refl _)
  exact bodyPost_ret (res_read hb9 _ rfl) rfl ⟨rfl, hf9⟩
theorem read_any (l : Bs) (hl : l.length ≤ 100000) (w : World) (hw : WOk w) : Calls Tryz.prog 168 #[strV l] w (DayR (readD l) w) := by
  unfold readD
  by_cases h : Lib.hasPrefix l lastL = true
  · rw [if_pos h]
    exact read_last l hl w hw h
  · rw [if_neg h]
    simp only [Bool.not_eq_true] at h
    by_cases h1 : (Lib.cut l geL).2.2 = true
    · rw [if_pos h1]
      exact read_ge l hl w hw h h1
    · rw [if_neg h1]
      simp only [Bool.not_eq_true] at h1
      by_cases h2 : (Lib.cut l leL).2.2 = true
      · rw [if_pos h2]
        exact read_le l hl w hw h h1 h2
      · rw [if_neg h2]
        simp only [Bool.not_eq_true] at h2
        exact read_no l hl w hw h h1 h2
end Go.Proofs.YtlfjknndkjgciaaGreatDoor.S6
namespace Go.Proofs.YtlfjknndkjgciaaGreatDoor.S6
open Go.RowKit Go.Mem Go.Dfm

/-- what a call answers that answers a day and a kind -/
def ParseR (k d q j : Int) (w : World) (e : Ending) (w' : World) : Prop := e = .returned (.tuple #[dayV k d q, .int .i64 j]) ∧ Fr w w' (fun _ => False)
theorem res_Parse {w : World} {b : Nat} {x y z : Value} {k : Int} (hb : Blk w b 47 #[x, y, z]) (tmps : Array Value) (h2 : tmps.getD 2 undef = .pointer (some ⟨b, 0, none⟩)) (h3 : tmps.getD 3 undef = .int .i64 k) : (results Tryz.f143 tmps).run Tryz.prog w = .ok (.tuple #[.agg #[x, y, z], .int .i64 k]) w := by
  have h2' : tmps[2]?.getD undef = .pointer (some ⟨b, 0, none⟩) := by simpa using h2
  have h3' : tmps[3]?.getD undef = .int .i64 k := by simpa using h3
  have hL := load_day hb
  simp [results, Tryz.results143, h2', h3', asAddr, hL]
set_option maxRecDepth 100000 in
set_option maxHeartbeats 1600000 in
theorem Parse_any (l : Bs) (hl : l.length ≤ 100000) (w : World) (hw : WOk w) (k d q j : Int) (h : parseD l = (k, d, q, j)) : Calls Tryz.prog 143 #[strV l] w (ParseR k d q j w) := by
  have hf0 := Fr.new w day0 (fun _ => False)
  have HR := Lib.hid (read_any l hl (w.alloc day0) (hw.fr hf0))
  have hb := Blk.made w 47 #[.int .i64 0, .int .i64 0, .int .i64 0]
  have HB := Lib.hid hb
  have HF := Lib.hid hf0
  unfold parseD at h
  obtain ⟨⟨k1, d1, q1⟩, hx⟩ : ∃ x, readD l = x := ⟨_, rfl⟩
  rw [hx] at h HR
  simp only at h
  have HT := Lib.hid (fun W => right_any k1 d1 q1 W)
  clear hb hf0 hw hx
  by_cases hr : rightB k1 d1 q1 = true
  · rw [hr] at h HT
    rw [if_pos rfl] at h
    injection h with e1 h
    injection h with e2 h
    injection h with e3 e4
    subst e1 e2 e3 e4
    clear hr
    go_enter Tryz.func143, Tryz.ntmps143
    go_wp2_with fail
    refine HR.out.mono ?_
    rintro e w2 ⟨rfl, hf2⟩
    have HF2 := Lib.hid (ff HF.out hf2)
    have hb2 := hf2.blk HB.out (fun h => h)
    have HF3 := Lib.hid (ff HF2.out (Fr.new w2 (dayC k1 d1 q1) (fun _ => False)))
    have HB3 := Lib.hid ((Fr.new w2 (dayC k1 d1 q1) (fun _ => False)).blk hb2 (fun h => h))
    have HL3 := Lib.hid (Blk.made w2 47 #[.int .i64 k1, .int .i64 d1, .int .i64 q1])
    clear hf2 hb2
    go_wp2_with fail
    refine (HT.out _).mono ?_
    rintro e w4 ⟨rfl, hf4⟩
    have HF4 := Lib.hid (ff HF3.out hf4)
    have hb4 := hf4.blk HB3.out (fun h => h)
    have hl4 := hf4.blk HL3.out (fun h => h)
    have c0 := cell_at hb4 0
    have c1 := cell_at hb4 1
    have c2 := cell_at hb4 2
    have f0 := free_at hb4 0
    have f1 := free_at hb4 1
    have f2 := free_at hb4 2
    have g0 := cell_at hl4 0
    have g1 := cell_at hl4 1
    have g2 := cell_at hl4 2
    simp at c0 c1 c2 g0 g1 g2
    have HB4 := Lib.hid hb4
    clear hb4 hl4 hf4
    go_wp2_with fail
    (try simp only [Exit.inBlock, Exit.then])
    obtain ⟨hf9, hb9⟩ := day_put (.int .i64 k1) (.int .i64 d1) (.int .i64 q1) HF4.out HB4.out (Nat.le_refl _)
    exact bodyPost_ret (res_Parse hb9 _ rfl rfl) rfl ⟨rfl, hf9⟩
  · simp only [Bool.not_eq_true] at hr
    rw [hr] at h HT
    rw [if_neg (by decide)] at h
    injection h with e1 h
    injection h with e2 h
    injection h with e3 e4
    subst e1 e2 e3 e4
    clear hr
    go_enter Tryz.func143, Tryz.ntmps143
    go_wp2_with fail
    refine HR.out.mono ?_
    rintro e w2 ⟨rfl, hf2⟩
    have HF2 := Lib.hid (ff HF.out hf2)
    have hb2 := hf2.blk HB.out (fun h => h)
    have HF3 := Lib.hid (ff HF2.out (Fr.new w2 (dayC k1 d1 q1) (fun _ => False)))
    have HB3 := Lib.hid ((Fr.new w2 (dayC k1 d1 q1) (fun _ => False)).blk hb2 (fun h => h))
    clear hf2 hb2
    go_wp2_with fail
    refine (HT.out _).mono ?_
    rintro e w4 ⟨rfl, hf4⟩
    have HF4 := Lib.hid (ff HF3.out hf4)
    have hb4 := hf4.blk HB3.out (fun h => h)
    have c0 := cell_at hb4 0
    have c1 := cell_at hb4 1
    have c2 := cell_at hb4 2
    have f0 := free_at hb4 0
    have f1 := free_at hb4 1
    have f2 := free_at hb4 2
    simp at c0 c1 c2
    have HB4 := Lib.hid hb4
    clear hb4 hf4
    go_wp2_with fail
    (try simp only [Exit.inBlock, Exit.then])
    obtain ⟨hf9, hb9⟩ := day_put (.int .i64 0) (.int .i64 0) (.int .i64 0) HF4.out HB4.out (Nat.le_refl _)
    exact bodyPost_ret (res_Parse hb9 _ rfl rfl) rfl ⟨rfl, hf9⟩
end Go.Proofs.YtlfjknndkjgciaaGreatDoor.S6
namespace Go.Proofs.YtlfjknndkjgciaaGreatDoor.S6
open Go.RowKit Go.Mem Go.Dfm

def dayOf (k d y m : Int) : Int := if k = 1 then Go.Civil.longI y m else d
/-- what Of answers -/
def ofD (k d q y m : Int) : Int × Int :=
  if rightB k d q = true then
    if daysE y m (dayOf k d y m) = 0 then
      (if k = 2 then daysK y m (dayOf k d y m) + (q - (daysK y m (dayOf k d y m) + 4) % 7 + 7) % 7
       else if k = 0 then daysK y m (dayOf k d y m)
       else daysK y m (dayOf k d y m) - ((daysK y m (dayOf k d y m) + 4) % 7 - q + 7) % 7, 0)
    else (0, 6)
  else (0, 1)
def OfR (n j : Int) (w : World) (e : Ending) (w' : World) : Prop := e = .returned (.tuple #[.int .i64 n, .int .i64 j]) ∧ Fr w w' (fun _ => False)
theorem daysE_is (y m d : Int) : daysE y m d = 0 ∨ daysE y m d = 6 := by unfold daysE; split <;> simp
theorem daysK_range (y m d : Int) : -4371587 ≤ daysK y m d ∧ daysK y m d ≤ 2932897 := by
  unfold daysK
  split
  · rename_i h
    have := Go.Civil.numD_range h
    omega
  · omega
theorem daysK_no {y m d : Int} (h : daysE y m d ≠ 0) : daysK y m d = 0 := by
  unfold daysE at h
  unfold daysK
  split at h
  · exact absurd rfl h
  · rename_i h'
    rw [if_neg h']
theorem of_bad (k d q y m : Int) (w : World) (h : rightB k d q = false) : Calls Tryz.prog 144 #[dayV k d q, .int .i64 y, .int .i64 m] w (OfR 0 1 w) := by
  have HT := Lib.hid (fun W => right_any k d q W)
  rw [h] at HT
  clear h
  go_enter Tryz.func144, Tryz.ntmps144
  go_wp2_with fail
  refine (HT.out _).mono ?_
  rintro e w2 ⟨rfl, hf2⟩
  have HF2 := Lib.hid (ff (Fr.new w _ _) hf2)
  clear hf2
  go_wp2_with fail
  go_ret2
  exact ⟨rfl, HF2.out⟩
theorem quiet_week (n : Int) (hn : inRange n) (W : World) (i : Nat) : Calls Tryz.prog 173 #[.int .i64 n] (W.drewN i) fun e w' => e = .returned (.int .i64 ((n + 4) % 7)) ∧ ∃ j, w' = W.drewN j :=
  Calls.quiet_of ((Week_any n (W.drewN i) hn).mono fun _ _ h => ⟨h.1, 1, h.2⟩)
theorem quiet_between (a b : Int) (ha : 0 ≤ a ∧ a < 7) (hb : 0 ≤ b ∧ b < 7) (W : World) (i : Nat) : Calls Tryz.prog 172 #[.int .i64 a, .int .i64 b] (W.drewN i) fun e w' => e = .returned (.int .i64 ((b - a + 7) % 7)) ∧ ∃ j, w' = W.drewN j :=
  (between_any a b (W.drewN i) ha hb).mono fun _ _ h => ⟨h.1, i, h.2.symm⟩
-- walks
set_option maxHeartbeats 1600000 in
theorem of_none (k d q y m : Int) (w : World) (hw : WOk w) (h : rightB k d q = true) (he : daysE y m (dayOf k d y m) = 6) : Calls Tryz.prog 144 #[dayV k d q, .int .i64 y, .int .i64 m] w (OfR 0 6 w) := by
  have HT := Lib.hid (fun W => right_any k d q W)
  rw [h] at HT
  have HB := Lib.hid (Blk.made w 47 #[.int .i64 k, .int .i64 d, .int .i64 q])
  have HG := Lib.hid (fun (W : World) (f : Fr w W (fun _ => False)) => begin_day k d q y m W (hw.fr f))
  rw [show (if k = 1 then Go.Civil.longI y m else d) = dayOf k d y m from rfl] at HG
  have HD := Lib.hid (fun (W : World) (f : Fr w W (fun _ => False)) => Days_any y m (dayOf k d y m) W (hw.fr f).lok)
  rw [he] at HD
  rw [daysK_no (by rw [he]; decide)] at HD
  clear he
  generalize dayOf k d y m = D at *
  clear h hw
  go_enter Tryz.func144, Tryz.ntmps144
  go_wp2_with fail
  refine (HT.out _).mono ?_
  rintro e w2 ⟨rfl, hf2⟩
  have hfr2 := ff (Fr.new w _ _) hf2
  have HF2 := Lib.hid hfr2
  have hb2 := hf2.blk HB.out (fun h => h)
  have c0 := cell_at hb2 0
  have c1 := cell_at hb2 1
  have c2 := cell_at hb2 2
  simp at c0 c1 c2
  have HB2 := Lib.hid hb2
  clear hf2 hb2 hfr2
  go_wp2_with fail
  refine (HG.out _ HF2.out).mono ?_
  rintro e w3 ⟨rfl, hf3⟩
  have HF3 := Lib.hid (ff HF2.out hf3)
  have HB3 := Lib.hid (hf3.blk HB2.out (fun h => h))
  clear hf3
  go_wp2_with fail
  refine (HD.out _ HF3.out).mono ?_
  rintro e w4 ⟨rfl, hf4⟩
  have HF4 := Lib.hid (ff HF3.out hf4)
  have hb4 := hf4.blk HB3.out (fun h => h)
  have c0 := cell_at hb4 0
  have c1 := cell_at hb4 1
  have c2 := cell_at hb4 2
  simp at c0 c1 c2
  clear hf4 hb4
  go_wp2_with fail
  go_ret2
  exact ⟨rfl, HF4.out⟩
set_option maxHeartbeats 1600000 in
theorem of_0 (d y m : Int) (w : World) (hw : WOk w) (h : rightB 0 d 0 = true) (he : daysE y m d = 0) : Calls Tryz.prog 144 #[dayV 0 d 0, .int .i64 y, .int .i64 m] w (OfR (daysK y m d) 0 w) := by
  have HT := Lib.hid (fun W => right_any 0 d 0 W)
  rw [h] at HT
  have HB := Lib.hid (Blk.made w 47 #[.int .i64 0, .int .i64 d, .int .i64 0])
  have HG := Lib.hid (fun (W : World) (f : Fr w W (fun _ => False)) => begin_day 0 d 0 y m W (hw.fr f))
  rw [if_neg (by decide)] at HG
  have HD := Lib.hid (fun (W : World) (f : Fr w W (fun _ => False)) => Days_any y m d W (hw.fr f).lok)
  rw [he] at HD
  clear he
  generalize daysK y m d = K at *
  clear h hw
  go_enter Tryz.func144, Tryz.ntmps144
  go_wp2_with fail
  refine (HT.out _).mono ?_
  rintro e w2 ⟨rfl, hf2⟩
  have hfr2 := ff (Fr.new w _ _) hf2
  have HF2 := Lib.hid hfr2
  have hb2 := hf2.blk HB.out (fun h => h)
  have c0 := cell_at hb2 0
  have c1 := cell_at hb2 1
  have c2 := cell_at hb2 2
  simp at c0 c1 c2
  have HB2 := Lib.hid hb2
  clear hf2 hb2 hfr2
  go_wp2_with fail
  refine (HG.out _ HF2.out).mono ?_
  rintro e w3 ⟨rfl, hf3⟩
  have HF3 := Lib.hid (ff HF2.out hf3)
  have HB3 := Lib.hid (hf3.blk HB2.out (fun h => h))
  clear hf3
  go_wp2_with fail
  refine (HD.out _ HF3.out).mono ?_
  rintro e w4 ⟨rfl, hf4⟩
  have HF4 := Lib.hid (ff HF3.out hf4)
  have hb4 := hf4.blk HB3.out (fun h => h)
  have c0 := cell_at hb4 0
  have c1 := cell_at hb4 1
  have c2 := cell_at hb4 2
  simp at c0 c1 c2
  clear hf4 hb4
  go_wp2_with fail
  go_ret2
  exact ⟨rfl, HF4.out⟩
set_option maxHeartbeats 1600000 in
theorem of_2 (d q y m : Int) (w : World) (hw : WOk w) (h : rightB 2 d q = true) (he : daysE y m d = 0) (hq : 0 ≤ q ∧ q < 7) : Calls Tryz.prog 144 #[dayV 2 d q, .int .i64 y, .int .i64 m] w (OfR (daysK y m d + (q - (daysK y m d + 4) % 7 + 7) % 7) 0 w) := by
  have HT := Lib.hid (fun W => right_any 2 d q W)
  rw [h] at HT
  have HB := Lib.hid (Blk.made w 47 #[.int .i64 2, .int .i64 d, .int .i64 q])
  have HG := Lib.hid (fun (W : World) (f : Fr w W (fun _ => False)) => begin_day 2 d q y m W (hw.fr f))
  rw [if_neg (by decide)] at HG
  have HD := Lib.hid (fun (W : World) (f : Fr w W (fun _ => False)) => Days_any y m d W (hw.fr f).lok)
  have hK := daysK_range y m d
  have HWK := Lib.hid (fun W i => quiet_week (daysK y m d) (by unfold inRange; omega) W i)
  have HBE := Lib.hid (fun W i => quiet_between ((daysK y m d + 4) % 7) q (by omega) (by omega) W i)
  rw [he] at HD
  clear he
  have hwk : 0 ≤ (daysK y m d + 4) % 7 ∧ (daysK y m d + 4) % 7 < 7 := by omega
  generalize (daysK y m d + 4) % 7 = W0 at *
  generalize daysK y m d = K at *
  have hbt : 0 ≤ (q - W0 + 7) % 7 ∧ (q - W0 + 7) % 7 < 7 := by omega
  generalize (q - W0 + 7) % 7 = V at *
  clear h hw
  go_enter Tryz.func144, Tryz.ntmps144
  go_wp2_with fail
  refine (HT.out _).mono ?_
  rintro e w2 ⟨rfl, hf2⟩
  have hfr2 := ff (Fr.new w _ _) hf2
  have HF2 := Lib.hid hfr2
  have hb2 := hf2.blk HB.out (fun h => h)
  have c0 := cell_at hb2 0
  have c1 := cell_at hb2 1
  have c2 := cell_at hb2 2
  simp at c0 c1 c2
  have HB2 := Lib.hid hb2
  clear hf2 hb2 hfr2
  go_wp2_with fail
  refine (HG.out _ HF2.out).mono ?_
  rintro e w3 ⟨rfl, hf3⟩
  have HF3 := Lib.hid (ff HF2.out hf3)
  have HB3 := Lib.hid (hf3.blk HB2.out (fun h => h))
  clear hf3
  go_wp2_with fail
  refine (HD.out _ HF3.out).mono ?_
  rintro e w4 ⟨rfl, hf4⟩
  have HF4 := Lib.hid (ff HF3.out hf4)
  have hb4 := hf4.blk HB3.out (fun h => h)
  have c0 := cell_at hb4 0
  have c1 := cell_at hb4 1
  have c2 := cell_at hb4 2
  simp at c0 c1 c2
  clear hf4 hb4
  go_wp2_with fail
  go_quiet ((first | with_reducible exact HWK.out _ _ | with_reducible exact HBE.out _ _))
  go_wp2_with fail
  go_ret2
  exact ⟨rfl, ff HF4.out (Fr.drewN _ _ _)⟩
set_option maxHeartbeats 1600000 in
theorem of_1 (q y m : Int) (w : World) (hw : WOk w) (h : rightB 1 0 q = true) (he : daysE y m (Go.Civil.longI y m) = 0) (hq : 0 ≤ q ∧ q < 7) : Calls Tryz.prog 144 #[dayV 1 0 q, .int .i64 y, .int .i64 m] w (OfR (daysK y m (Go.Civil.longI y m) - ((daysK y m (Go.Civil.longI y m) + 4) % 7 - q + 7) % 7) 0 w) := by
  have HT := Lib.hid (fun W => right_any 1 0 q W)
  rw [h] at HT
  have HB := Lib.hid (Blk.made w 47 #[.int .i64 1, .int .i64 0, .int .i64 q])
  have HG := Lib.hid (fun (W : World) (f : Fr w W (fun _ => False)) => begin_day 1 0 q y m W (hw.fr f))
  rw [if_pos rfl] at HG
  have HD := Lib.hid (fun (W : World) (f : Fr w W (fun _ => False)) => Days_any y m (Go.Civil.longI y m) W (hw.fr f).lok)
  have hK := daysK_range y m (Go.Civil.longI y m)
  have HWK := Lib.hid (fun W i => quiet_week (daysK y m (Go.Civil.longI y m)) (by unfold inRange; omega) W i)
  have HBE := Lib.hid (fun W i => quiet_between q ((daysK y m (Go.Civil.longI y m) + 4) % 7) (by omega) (by omega) W i)
  rw [he] at HD
  clear he
  have hwk : 0 ≤ (daysK y m (Go.Civil.longI y m) + 4) % 7 ∧ (daysK y m (Go.Civil.longI y m) + 4) % 7 < 7 := by omega
  generalize (daysK y m (Go.Civil.longI y m) + 4) % 7 = W0 at *
  generalize daysK y m (Go.Civil.longI y m) = K at *
  have hbt : 0 ≤ (W0 - q + 7) % 7 ∧ (W0 - q + 7) % 7 < 7 := by omega
  generalize (W0 - q + 7) % 7 = V at *
  generalize Go.Civil.longI y m = L at *
  clear h hw
  go_enter Tryz.func144, Tryz.ntmps144
  go_wp2_with fail
  refine (HT.out _).mono ?_
  rintro e w2 ⟨rfl, hf2⟩
  have hfr2 := ff (Fr.new w _ _) hf2
  have HF2 := Lib.hid hfr2
  have hb2 := hf2.blk HB.out (fun h => h)
  have c0 := cell_at hb2 0
  have c1 := cell_at hb2 1
  have c2 := cell_at hb2 2
  simp at c0 c1 c2
  have HB2 := Lib.hid hb2
  clear hf2 hb2 hfr2
  go_wp2_with fail
  refine (HG.out _ HF2.out).mono ?_
  rintro e w3 ⟨rfl, hf3⟩
  have HF3 := Lib.hid (ff HF2.out hf3)
  have HB3 := Lib.hid (hf3.blk HB2.out (fun h => h))
  clear hf3
  go_wp2_with fail
  refine (HD.out _ HF3.out).mono ?_
  rintro e w4 ⟨rfl, hf4⟩
  have HF4 := Lib.hid (ff HF3.out hf4)
  have hb4 := hf4.blk HB3.out (fun h => h)
  have c0 := cell_at hb4 0
  have c1 := cell_at hb4 1
  have c2 := cell_at hb4 2
  simp at c0 c1 c2
  clear hf4 hb4
  go_wp2_with fail
  go_quiet ((first | with_reducible exact HWK.out _ _ | with_reducible exact HBE.out _ _))
  go_wp2_with fail
  go_ret2
  exact ⟨rfl, ff HF4.out (Fr.drewN _ _ _)⟩
set_option maxHeartbeats 1600000 in
theorem of_3 (d q y m : Int) (w : World) (hw : WOk w) (h : rightB 3 d q = true) (he : daysE y m d = 0) (hq : 0 ≤ q ∧ q < 7) : Calls Tryz.prog 144 #[dayV 3 d q, .int .i64 y, .int .i64 m] w (OfR (daysK y m d - ((daysK y m d + 4) % 7 - q + 7) % 7) 0 w) := by
  have HT := Lib.hid (fun W => right_any 3 d q W)
  rw [h] at HT
  have HB := Lib.hid (Blk.made w 47 #[.int .i64 3, .int .i64 d, .int .i64 q])
  have HG := Lib.hid (fun (W : World) (f : Fr w W (fun _ => False)) => begin_day 3 d q y m W (hw.fr f))
  rw [if_neg (by decide)] at HG
  have HD := Lib.hid (fun (W : World) (f : Fr w W (fun _ => False)) => Days_any y m d W (hw.fr f).lok)
  have hK := daysK_range y m d
  have HWK := Lib.hid (fun W i => quiet_week (daysK y m d) (by unfold inRange; omega) W i)
  have HBE := Lib.hid (fun W i => quiet_between q ((daysK y m d + 4) % 7) (by omega) (by omega) W i)
  rw [he] at HD
  clear he
  have hwk : 0 ≤ (daysK y m d + 4) % 7 ∧ (daysK y m d + 4) % 7 < 7 := by omega
  generalize (daysK y m d + 4) % 7 = W0 at *
  generalize daysK y m d = K at *
  have hbt : 0 ≤ (W0 - q + 7) % 7 ∧ (W0 - q + 7) % 7 < 7 := by omega
  generalize (W0 - q + 7) % 7 = V at *
  clear h hw
  go_enter Tryz.func144, Tryz.ntmps144
  go_wp2_with fail
  refine (HT.out _).mono ?_
  rintro e w2 ⟨rfl, hf2⟩
  have hfr2 := ff (Fr.new w _ _) hf2
  have HF2 := Lib.hid hfr2
  have hb2 := hf2.blk HB.out (fun h => h)
  have c0 := cell_at hb2 0
  have c1 := cell_at hb2 1
  have c2 := cell_at hb2 2
  simp at c0 c1 c2
  have HB2 := Lib.hid hb2
  clear hf2 hb2 hfr2
  go_wp2_with fail
  refine (HG.out _ HF2.out).mono ?_
  rintro e w3 ⟨rfl, hf3⟩
  have HF3 := Lib.hid (ff HF2.out hf3)
  have HB3 := Lib.hid (hf3.blk HB2.out (fun h => h))
  clear hf3
  go_wp2_with fail
  refine (HD.out _ HF3.out).mono ?_
  rintro e w4 ⟨rfl, hf4⟩
  have HF4 := Lib.hid (ff HF3.out hf4)
  have hb4 := hf4.blk HB3.out (fun h => h)
  have c0 := cell_at hb4 0
  have c1 := cell_at hb4 1
  have c2 := cell_at hb4 2
  simp at c0 c1 c2
  clear hf4 hb4
  go_wp2_with fail
  go_quiet ((first | with_reducible exact HWK.out _ _ | with_reducible exact HBE.out _ _))
  go_wp2_with fail
  go_ret2
  exact ⟨rfl, ff HF4.out (Fr.drewN _ _ _)⟩
theorem Of_any (k d q y m : Int) (w : World) (hw : WOk w) (n j : Int) (h : ofD k d q y m = (n, j)) : Calls Tryz.prog 144 #[dayV k d q, .int .i64 y, .int .i64 m] w (OfR n j w) := by
  unfold ofD at h
  by_cases hr : rightB k d q = true
  · rw [if_pos hr] at h
    by_cases he : daysE y m (dayOf k d y m) = 0
    · rw [if_pos he] at h
      injection h with h1 h2
      subst h2
      rcases rightB_iff.1 hr with ⟨rfl, a1, a2, rfl⟩ | ⟨rfl, rfl, a1, a2⟩ | ⟨hk, a1, a2, a3, a4⟩
      · rw [if_neg (by decide), if_pos rfl] at h1
        subst h1
        exact of_0 d y m w hw hr he
      · rw [if_neg (by decide), if_neg (by decide)] at h1
        subst h1
        exact of_1 q y m w hw hr he ⟨a1, a2⟩
      · rcases hk with rfl | rfl
        · rw [if_pos rfl] at h1
          subst h1
          exact of_2 d q y m w hw hr he ⟨a3, a4⟩
        · rw [if_neg (by decide), if_neg (by decide)] at h1
          subst h1
          exact of_3 d q y m w hw hr he ⟨a3, a4⟩
    · rw [if_neg he] at h
      injection h with h1 h2
      subst h1 h2
      exact of_none k d q y m w hw hr ((daysE_is _ _ _).resolve_left he)
  · rw [if_neg hr] at h
    injection h with h1 h2
    subst h1 h2
    exact of_bad k d q y m w (by simpa using hr)
end Go.Proofs.YtlfjknndkjgciaaGreatDoor.S6
