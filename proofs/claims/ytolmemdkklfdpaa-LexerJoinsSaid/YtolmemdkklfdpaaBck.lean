import Derived.Test.YtolmemdkklfdpaaRff
import Derived.Deep.AppendLies
import Derived.Laws.StructEq
namespace Go.Proofs.Ytolmemdkklfdpaa
open Go.RowKit Go.Mem Go.Lxr

theorem take_snoc' {α : Type} {ls : List α} {k : Nat} {x : α} (h : ls[k]? = some x) : ls.take (k + 1) = ls.take k ++ [x] := by
  obtain ⟨h1, h2⟩ := List.getElem?_eq_some_iff.1 h
  rw [List.take_succ_eq_append_getElem h1, h2]
/-- the fields in the reference's type -/
theorem Back_any (A : Option Addr) (c : Nat) (fs : List FPair) (w : World) (h : FdAt w A fs) (hn : fs.length ≤ 1000000) :
    Calls Try.prog 13 #[.slice A fs.length c] w fun e w' => ∃ v, e = .returned v ∧ Flds 49 w' w.heap.size v fs ∧ Fr w w' (fun _ => False) := by
  obtain ⟨n, hnn⟩ : ∃ n, fs.length = n := ⟨_, rfl⟩
  have HR := Lib.hid h
  have HN := Lib.hid hnn
  rw [hnn] at hn ⊢
  clear h hnn
  obtain ⟨i0, hi0, hz0, hz1, hz2⟩ := info_parts infoR
  go_enter Try.func13, Try.ntmps13
  go_wp2
  go_loopw [3, 4] (fun v3 v4 wr => ∃ k : Nat, k ≤ n ∧ v4 = .int .i64 k ∧ Fr w wr (fun _ => False) ∧ wr.ownsRow w.heap.size 49 2 v3 k ((fs.take k).flatMap cellsF)) (fun _ v4 _ => n - (intOf v4).toNat)
  case atStart => exact ⟨0, Nat.zero_le _, rfl, Fr.refl _ _, World.ownsRow_nil _ _ _ _⟩
  case round =>
    obtain ⟨k, hk, rfl, hf, hown⟩ := hrel
    by_cases hlt : k < n
    · obtain ⟨b, off, x, rfl, hx, c1, c2⟩ := HR.out.at_ (k := k) (by rw [HN.out]; exact hlt)
      have hbw : b < w.heap.size := World.block_lt_of_cell? w _ c1
      have d1 := hf.cell0 c1
      have d2 := hf.cell0 c2
      have HX := Lib.hid hx
      have HF := Lib.hid hf
      have HO := Lib.hid hown
      obtain ⟨A', c', hsl⟩ := own_slice hown
      have HSL := Lib.hid hsl
      clear c1 c2 hx hf hown hsl
      have hi0' : (0 : Int) ≤ (k : Int) := Int.natCast_nonneg _
      have hi1 : (k : Int) < (n : Int) := by omega
      have hnb : u3.ownBlock ≠ some b := fun e => by
        have := (HO.out.lt b e).1
        omega
      have hq1 : k + 1 ≤ maxLen := by simp only [maxLen]; omega
      have hq2 : (k + 1) * 24 ≤ 140737488355328 := by omega
      have hbs := HF.out.size
      have hbr := Nat.lt_of_lt_of_le hbw hbs
      go_wp2_with fail
      go_region_held3 (fun w' => w'.cell? ⟨b, off + k * 2, none⟩ = some (strV x.1) ∧ w'.cell? ⟨b, off + k * 2 + 1, none⟩ = some (.int .i64 (x.2 : Int)))
        (first
          | go_keep
          | (go_split_ands
             refine ⟨?_, ?_⟩
             · (rw [hgrow.cell_far _ (by simp; omega) (Ne.symm hnb)]; assumption)
             · (rw [hgrow.cell_far _ (by simp; omega) (Ne.symm hnb)]; assumption)))
        ((refine step_append_lies _ (by rfl) _ _ _ (by rfl) w.heap.size 49 i0 _ 2 24 Try.underlying27 hi0 hz0 hz1 hz2 rfl (by omega) u3 k _ (by rfl) ((HO.out.alloc _).drew)
            ⟨wr.heap.size, 0, none⟩ 1 1 [strV x.1, .int .i64 (x.2 : Int)] (by rfl) (by rfl) (two_new _ _ _ _) (one_two _ _ rfl rfl)
            (by omega) hq1 hq2 (by simp; omega) (wr.heap.size + 1) (by simp) ?_; intro gg cap' w1 hown1 hgrow hat hlt'))
      go_wp2
      have hfn : Fr w w1 (fun _ => False) := by
        have f1 : Fr wr w1 (fun j => some j = u3.ownBlock) := ((Fr.new wr _ (fun _ => False)).trans (Fr.drew _ (fun _ => False)) (fun _ _ h => h) (fun _ _ h => h)).trans (Fr.ofGrown hgrow) (fun _ _ h => h.elim) (fun _ _ h => h)
        exact HF.out.trans f1 (fun _ _ h => h) (fun j hj e => by have := (HO.out.lt j e.symm).1; omega)
      have hcells : (fs.take k).flatMap cellsF ++ [strV x.1, .int .i64 (x.2 : Int)] = (fs.take (k + 1)).flatMap cellsF := by
        rw [take_snoc' HX.out, List.flatMap_append]
        simp [cellsF]
      rw [hcells] at hown1
      go_roundw
      case rel => exact ⟨k + 1, by omega, by go_num, hfn, hown1⟩
      case measure => simp [intOf]; omega
    · have hkn : k = n := by omega
      have HF := Lib.hid hf
      have HO := Lib.hid hown
      clear hf hown
      subst hkn
      go_wp2_with fail
      go_ret
      have hl : fs.take k = fs := List.take_of_length_le (by rw [HN.out]; exact Nat.le_refl _)
      have ho := HO.out
      rw [hl] at ho
      exact ⟨u3, rfl, by show World.ownsRow _ _ _ _ _ _ _; rw [HN.out]; exact ho, HF.out⟩
theorem neq_same_r (x : Bs) (p : Int) (w : World) : (binOp .neq 49 (fieldV x p) (fieldV x p)).run Try.prog w = .ok (.bool false) w := by
  have u3 := Try.underlying3
  have u9 := Try.underlying9
  have hS : Try.prog.underlying 49 = some (.struct (Try.prog.fieldsOf 49)) := by kernel_rfl
  have hp : Try.prog.stoodInHeld 49 = false := by kernel_rfl
  rw [run_neq_struct, show (10000 : Nat) = 9999 + 1 from rfl, run_equalIn_agg w 9999 49 _ _ hS hp]
  simp only [Program.fieldsOf, Try.underlying49]
  go_simp
theorem neq_same_f (x : Bs) (p : Int) (w : World) : (binOp .neq 38 (fieldV x p) (fieldV x p)).run Try.prog w = .ok (.bool false) w := by
  have u3 := Try.underlying3
  have u9 := Try.underlying9
  have hS : Try.prog.underlying 38 = some (.struct (Try.prog.fieldsOf 38)) := by kernel_rfl
  have hp : Try.prog.stoodInHeld 38 = false := by kernel_rfl
  rw [run_neq_struct, show (10000 : Nat) = 9999 + 1 from rfl, run_equalIn_agg w 9999 38 _ _ hS hp]
  simp only [Program.fieldsOf, Try.underlying38]
  go_simp
theorem load_rat {w : World} {b o : Nat} {x y : Value} (h0 : w.cell? ⟨b, o, none⟩ = some x) (h1 : w.cell? ⟨b, o + 1, none⟩ = some y) : (loadVar 49 ⟨b, o, none⟩).run Try.prog w = .ok (.agg #[x, y]) w := by
  simp [go_sem, h0, h1]
theorem Same_any (A B : Option Addr) (c c' : Nat) (fs : List FPair) (w : World) (ha : FdAt w A fs) (hb : FdAt w B fs) (hn : fs.length ≤ 1000000) :
    Calls Try.prog 12 #[.slice A fs.length c, .slice B fs.length c'] w fun e w' => e = .returned (.bool true) ∧ ∃ q, w' = w.drewN q := by
  obtain ⟨n, hnn⟩ : ∃ n, fs.length = n := ⟨_, rfl⟩
  have HA := Lib.hid ha
  have HB := Lib.hid hb
  have HN := Lib.hid hnn
  rw [hnn] at hn ⊢
  have hz : ((n : Int) != (n : Int)) = false := by simp
  clear ha hb hnn
  go_enter Try.func12, Try.ntmps12
  go_wp2_with fail
  go_loopw [5] (fun v5 wr => ∃ k : Nat, k ≤ n ∧ v5 = .int .i64 k ∧ ∃ m, wr = w.drewN m) (fun v5 _ => n - (intOf v5).toNat)
  case atStart => exact ⟨0, Nat.zero_le _, rfl, 0, rfl⟩
  case round =>
    obtain ⟨k, hk, rfl, m, hwr⟩ := hrel
    have HW := Lib.hid hwr
    by_cases hlt : k < n
    · obtain ⟨b, off, x, rfl, hx, c0, c1⟩ := HA.out.at_ (k := k) (by rw [HN.out]; exact hlt)
      obtain ⟨b', off', y, rfl, hy, d0, d1⟩ := HB.out.at_ (k := k) (by rw [HN.out]; exact hlt)
      rw [hx] at hy
      injection hy with hy
      subst hy
      have c0 : wr.cell? ⟨b, off + k * 2, none⟩ = some (strV x.1) := by rw [hwr]; exact c0
      have c1 : wr.cell? ⟨b, off + k * 2 + 1, none⟩ = some (.int .i64 (x.2 : Int)) := by rw [hwr]; exact c1
      have d0 : wr.cell? ⟨b', off' + k * 2, none⟩ = some (strV x.1) := by rw [hwr]; exact d0
      have d1 : wr.cell? ⟨b', off' + k * 2 + 1, none⟩ = some (.int .i64 (x.2 : Int)) := by rw [hwr]; exact d1
      have hi0 : (0 : Int) ≤ (k : Int) := Int.natCast_nonneg _
      have hi1 : (k : Int) < (n : Int) := by omega
      have hne := fun w => neq_same_r x.1 (x.2 : Int) w
      clear hx hwr
      go_wp2_with fail
      go_quiet (fail)
      go_wp2_with fail
      go_roundw
      case rel => exact ⟨k + 1, by omega, by go_num, m + nq, by rw [HW.out, World.drewN_drewN]⟩
      case measure => simp [intOf]; omega
    · have hkn : k = n := by omega
      clear hwr
      subst hkn
      go_wp2_with fail
      go_ret
      exact ⟨rfl, m, HW.out⟩
end Go.Proofs.Ytolmemdkklfdpaa
