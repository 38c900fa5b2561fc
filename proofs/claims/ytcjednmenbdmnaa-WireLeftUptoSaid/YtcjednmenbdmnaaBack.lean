import Derived.Test.YtcjednmenbdmnaaSame
import Derived.Test.YtcjednmenbdmnaaTell
import Derived.BigQuiet
import Derived.Deep.QuietTactic
import Derived.Deep.RegionHeld3
import Derived.Deep.AppendLies
namespace Go.Proofs.Ytcjednmenbdmnaa
open Go.RowKit Go.Mem Go.Wire

theorem info43 : (Try.prog.info? 43).map (fun i => (i.zero, i.size, i.bytes)) = some (some (.agg #[.bool false, .slice none 0 0]), 2, 32) := by kernel_rfl

theorem back_any {w : World} {base : Nat} {I : Nat → Prop} {v : Value} {its : List It} (h : Items w base I v its) (hn : its.length ≤ 1099511627776) :
    Calls Try.prog 9 #[v] w fun e w' => ∃ v', e = .returned v' ∧ ItemsT 43 w' w.heap.size I v' its ∧ Fr w w' (fun _ => False) := by
  obtain ⟨l, h1, h2, h3⟩ := h
  obtain ⟨A, cap, rfl, hcap, hcm, hrd, hA, hA'⟩ := own_rd h2
  have hll : l.length = its.length := by rw [← h1, List.length_map]
  have L1 := Lib.hid h1
  have L2 := Lib.hid h2
  have L3 := Lib.hid h3
  have LL := Lib.hid hll
  have HR := Lib.hid hrd
  have HA' := Lib.hid hA'
  obtain ⟨n, hnn⟩ : ∃ n, its.length = n := ⟨_, rfl⟩
  rw [hnn] at L2 LL HR hn HA' hcap
  have HN := Lib.hid hnn
  clear h1 h2 h3 hll hrd hA hA' hnn
  obtain ⟨i0, hi0, hz0, hz1, hz2⟩ := info_parts info43
  go_enter Try.func9, Try.ntmps9
  rw [HN.out]
  go_wp2
  go_loopw [3, 4] (fun v3 v4 wr => ∃ k : Nat, k ≤ n ∧ v4 = .int .i64 k ∧ Fr w wr (fun _ => False) ∧ wr.ownsRow w.heap.size 43 2 v3 k ((l.take k).flatMap pairCells)) (fun _ v4 _ => n - (intOf v4).toNat)
  case atStart => exact ⟨0, Nat.zero_le _, rfl, Fr.refl _ _, World.ownsRow_nil _ _ _ _⟩
  case round =>
    obtain ⟨k, hk, rfl, hf, hown⟩ := hrel
    by_cases hlt : k < n
    · obtain ⟨b, off, rfl, hc⟩ := HR.out.2 (by omega)
      have hkl : k < l.length := by rw [LL.out]; exact hlt
      have c1 := hc _ _ (pair_at l k hkl).1
      have c2 := hc _ _ (pair_at l k hkl).2
      obtain ⟨x, hx⟩ : ∃ x, l[k] = x := ⟨_, rfl⟩
      rw [hx] at c1 c2
      have hbw : b < w.heap.size := World.block_lt_of_cell? w _ c1
      have d1 : wr.cell? ⟨b, off + k * 2, none⟩ = some (.bool x.1.isNone) := (World.cell?_of_block (w := w) (hf.block b hbw (fun h => h))).trans c1
      have d2 : wr.cell? ⟨b, off + k * 2 + 1, none⟩ = some x.2 := (World.cell?_of_block (w := w) (hf.block b hbw (fun h => h))).trans c2
      have HX : Hid (l[k]? = some x) := by
        show _ = _
        rw [List.getElem?_eq_getElem hkl, hx]
      have HF := Lib.hid hf
      obtain ⟨A', n', c', hsl⟩ := (L3.out x (by rw [← hx]; exact List.getElem_mem hkl)).slice
      have HSL := Lib.hid hsl
      rw [hsl] at d2
      have HO := Lib.hid hown
      clear c1 c2 hc hx hf hsl hown hkl
      have hb1 : 2 * n ≤ 2199023255552 := by omega
      have hi0' : (0 : Int) ≤ (k : Int) := Int.natCast_nonneg _
      have hi1 : (k : Int) < (n : Int) := by omega
      have hnb : u3.ownBlock ≠ some b := fun e => by
        have := (HO.out.lt b e).1
        omega
      have hq1 : k + 1 ≤ maxLen := by simp only [maxLen]; omega
      have hq2 : (k + 1) * 32 ≤ 140737488355328 := by omega
      have hbs := HF.out.size
      have hbr := Nat.lt_of_lt_of_le hbw hbs
      go_wp2_with fail
      go_region_held3 (fun w' => w'.cell? ⟨b, off + k * 2, none⟩ = some (.bool x.1.isNone) ∧ w'.cell? ⟨b, off + k * 2 + 1, none⟩ = some (.slice A' n' c'))
        (first
          | go_keep
          | (go_split_ands
             refine ⟨?_, ?_⟩
             · (rw [hgrow.cell_far _ (by simp; omega) (Ne.symm hnb)]; assumption)
             · (rw [hgrow.cell_far _ (by simp; omega) (Ne.symm hnb)]; assumption)))
        ((refine step_append_lies _ (by rfl) _ _ _ (by rfl) w.heap.size 43 i0 _ 2 32 Try.underlying26 hi0 hz0 hz1 hz2 rfl (by omega) u3 k _ (by rfl) ((HO.out.alloc _).drew)
            ⟨wr.heap.size, 0, none⟩ 1 1 [.bool x.1.isNone, .slice A' n' c'] (by rfl) (by rfl) (two_new _ _ _ _) (one_two _ _ rfl rfl)
            (by omega) hq1 hq2 (by simp; omega) (wr.heap.size + 1) (by simp) ?_; intro gg cap' w1 hown1 hgrow hat hlt'))
      go_wp2
      have hfn : Fr w w1 (fun _ => False) := by
        have f1 : Fr wr w1 (fun j => some j = u3.ownBlock) := ((Fr.new wr _ (fun _ => False)).trans (Fr.drew _ (fun _ => False)) (fun _ _ h => h) (fun _ _ h => h)).trans (Fr.ofGrown hgrow) (fun _ _ h => h.elim) (fun _ _ h => h)
        exact HF.out.trans f1 (fun _ _ h => h) (fun j hj e => by have := (HO.out.lt j e.symm).1; omega)
      have hcells : (l.take k).flatMap pairCells ++ [.bool x.1.isNone, .slice A' n' c'] = (l.take (k + 1)).flatMap pairCells := by
        have hkl : k < l.length := by rw [LL.out]; exact hlt
        have hx := HX.out
        rw [List.getElem?_eq_getElem hkl] at hx
        injection hx with hx
        rw [List.take_succ_eq_append_getElem hkl, List.flatMap_append, hx]
        simp [pairCells, HSL.out]
      rw [hcells] at hown1
      go_roundw
      case rel => exact ⟨k + 1, by omega, by go_num, hfn, hown1⟩
      case measure => simp [intOf]; omega
    · have hkn : k = n := by omega
      have HF := Lib.hid hf
      have HO := Lib.hid hown
      clear hf hown
      subst hkn
      go_wp2_with fail
      go_ret
      have hl : l.take k = l := List.take_of_length_le (by rw [LL.out]; exact Nat.le_refl _)
      have ho := HO.out
      rw [hl] at ho
      exact ⟨u3, rfl, ⟨l, L1.out, by rw [HN.out]; exact ho, fun x hx => (L3.out x hx).fr HF.out (fun _ _ h => h) (fun _ _ h => h)⟩, HF.out⟩
theorem items_true (A B : Option Addr) (n ca cb : Nat) (its : List It) (w : World) (ha : Tells w A n its) (hb : Tells w B n its) (hn : n ≤ 1099511627776) (hl : ∀ it ∈ its, (bytesOf it).length ≤ 1099511627776) :
    Calls Try.prog 8 #[.slice A n ca, .slice B n cb] w fun e w' => e = .returned (.bool true) ∧ ∃ m, w' = w.drewN m := by
  have HA := Lib.hid ha
  have HB := Lib.hid hb
  have HL := Lib.hid hl
  clear ha hb hl
  have hz : ((n : Int) != (n : Int)) = false := by simp
  go_enter Try.func8, Try.ntmps8
  go_wp2
  go_loopw [5] (fun v5 wr => ∃ k : Nat, k ≤ n ∧ v5 = .int .i64 k ∧ ∃ m, wr = w.drewN m) (fun v5 _ => n - (intOf v5).toNat)
  case atStart => exact ⟨0, Nat.zero_le _, rfl, 0, rfl⟩
  case round =>
    obtain ⟨k, hk, rfl, m, hwr⟩ := hrel
    have HW := Lib.hid hwr
    by_cases hlt : k < n
    · have HA1 : Tells wr A n its := by rw [hwr]; exact HA.out
      have HB1 : Tells wr B n its := by rw [hwr]; exact HB.out
      obtain ⟨b, off, it, A', c', rfl, hit, d1, d2, r1⟩ := HA1.at_ hlt
      obtain ⟨b', off', it', B', e', rfl, hit', d3, d4, r2⟩ := HB1.at_ hlt
      have : it' = it := by rw [hit] at hit'; injection hit' with h; exact h.symm
      subst this
      have hle := HL.out it' (List.mem_of_getElem? hit)
      have hsame := Lib.hid (fun W => fun (h : ∃ m, W = wr.drewN m) => same_true A' B' _ c' e' (bytesOf it') W (by obtain ⟨m, rfl⟩ := h; exact r1) (by obtain ⟨m, rfl⟩ := h; exact r2) hle)
      have hi0 : (0 : Int) ≤ (k : Int) := Int.natCast_nonneg _
      have hi1 : (k : Int) < (n : Int) := by omega
      have hbn : (it'.isNone != it'.isNone) = false := by simp
      clear HA1 HB1 hit hit' r1 r2 hwr
      go_wp2
      go_quiet ((go_at_call 10; exact Calls.quiet_of (hsame.out _ ⟨_, rfl⟩)))
      go_wp2
      go_roundw
      case rel => exact ⟨k + 1, by omega, by go_num, m + nq, by rw [HW.out, World.drewN_drewN]⟩
      case measure => simp [intOf]; omega
    · have hkn : k = n := by omega
      clear hwr
      subst hkn
      go_wp2
      go_ret
      exact ⟨rfl, m, HW.out⟩

end Go.Proofs.Ytcjednmenbdmnaa
