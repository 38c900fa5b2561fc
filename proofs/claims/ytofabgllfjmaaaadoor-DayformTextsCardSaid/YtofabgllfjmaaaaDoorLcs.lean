import Derived.Test.YtofabgllfjmaaaaDoorCom
import Derived.Test.YtofabgllfjmaaaaDoorShelf
import Derived.Lib.AppendIntMem
import Derived.Lib.ConvBytes
import Derived.Deep.LoopGhost
namespace Go.Proofs.YtofabgllfjmaaaaDoor
open Go.RowKit Go.Mem Go.Dfm Go.Sort

def marksT : List Bs := [[], [108, 97, 115, 116], [62, 61], [60, 61]]
/-- the variables that the code reads hold what the program's text lays -/
structure WOk (w : World) : Prop where
  lok : LOk w
  pow : ∃ B, B ≤ w.heap.size ∧ Lib.TabBelow Tryd.prog B w "internal/strconv.uint64pow10" .u64 Lib.pow10Tab
  max : ∃ m, w.cell? ⟨3, 0, none⟩ = some (.int .i64 m)
  syn : ∃ t p, w.cell? ⟨5, 0, none⟩ = some (.iface t p)
  ran : ∃ t p, w.cell? ⟨6, 0, none⟩ = some (.iface t p)
  marks : ∀ i, i < 4 → w.cell? ⟨0, i, none⟩ = some (strV (marksT.getD i []))
  names : ∀ i, i < 7 → w.cell? ⟨1, i, none⟩ = some (strV (namesT.getD i []))
theorem WOk.fr {w w' : World} (h : WOk w) (f : Fr w w' (fun _ => False)) : WOk w' := by
  refine ⟨h.lok.fr f, ?_, ?_, ?_, ?_, fun i hi => f.cell0 (h.marks i hi), fun i hi => f.cell0 (h.names i hi)⟩
  · obtain ⟨B, hB, ht⟩ := h.pow
    exact ⟨B, Nat.le_trans hB f.size, ht.on (f.below hB (fun _ h => h.elim))⟩
  · obtain ⟨m, hm⟩ := h.max
    exact ⟨m, f.cell0 hm⟩
  · obtain ⟨t, p, hm⟩ := h.syn
    exact ⟨t, p, f.cell0 hm⟩
  · obtain ⟨t, p, hm⟩ := h.ran
    exact ⟨t, p, f.cell0 hm⟩
theorem fr_grow (w : World) (k : Nat) (os : Array Obj) : Fr w (grow (w.drewN k) os) (fun _ => False) :=
  ⟨rfl, rfl, rfl, by simp [grow], fun i hi _ => by
    show (w.heap ++ os)[i]? = _
    rw [Array.getElem?_append_left hi]⟩
theorem fr_below {w w' : World} (h : Below w.heap.size w w') : Fr w w' (fun _ => False) := (Fr.ofBelow h).mono (fun i hi hs => absurd hs (by omega))
theorem Itoa_any (n : Int) (h0 : -9223372036854775808 ≤ n) (h1 : n ≤ 9223372036854775807) (w : World) (hw : WOk w) : Calls Tryd.prog 21 #[.int .i64 n] w fun e w' => e = .returned (strV (Lib.itoa n)) ∧ Fr w w' (fun _ => False) := by
  obtain ⟨B, hB, hg⟩ := hw.pow
  refine (Tryd.strconv_Itoa n h0 h1 w (hg w (Below.refl _ _))).mono ?_
  rintro e w2 ⟨rfl, k, os, rfl⟩
  exact ⟨rfl, fr_grow w k os⟩
theorem Atoi_ok (l : Bs) (v : Int) (h : Lib.atoiAll l = .ok v) (hl : l.length ≤ 1000000) (w : World) : Calls Tryd.prog 40 #[strV l] w fun e w' => e = .returned (.tuple #[.int .i64 v, .nilIface]) ∧ Fr w w' (fun _ => False) := by
  refine (Tryd.strconv_Atoi_ok ⟨l.toArray⟩ (by rw [str_size]; omega) v h w).mono ?_
  rintro e w2 ⟨rfl, hw⟩
  refine ⟨rfl, fr_below ?_⟩
  rcases hw with rfl | ⟨t, rfl⟩
  · exact Below.refl _ _
  · exact Lib.bytesWorld_below _ _ _
theorem Atoi_no (l : Bs) (h : ∀ v, Lib.atoiAll l ≠ .ok v) (hl : l.length ≤ 1000000) (w : World) (hw : WOk w) : Calls Tryd.prog 40 #[strV l] w fun e w' => ∃ x t p, e = .returned (.tuple #[.int .i64 x, .iface t p]) ∧ Fr w w' (fun _ => False) := by
  have hsz : (⟨l.toArray⟩ : ByteArray).size ≤ 281474976710656 := by rw [str_size]; omega
  cases hx : Lib.atoiAll l with
  | ok v => exact absurd hx (h v)
  | range =>
    obtain ⟨t, p, hv⟩ := hw.ran
    refine (Any.strconv_Atoi_range Tryd.laysC172 ⟨l.toArray⟩ hsz hx _ w hv (.inr ⟨t, p, rfl⟩)).mono ?_
    rintro e w2 ⟨N, rfl, h1, h2, h3⟩
    exact ⟨_, _, _, rfl, fr_below h3⟩
  | _ =>
    obtain ⟨t, p, hv⟩ := hw.syn
    refine (Any.strconv_Atoi_syntax Tryd.laysC172 ⟨l.toArray⟩ hsz hx _ w hv (.inr ⟨t, p, rfl⟩)).mono ?_
    rintro e w2 ⟨N, rfl, h1, h2, h3⟩
    exact ⟨_, _, _, rfl, fr_below h3⟩
theorem Cut_any (l p : Bs) (hl : l.length ≤ 1000000) (w : World) (hw : WOk w) : Calls Tryd.prog 32 #[strV l, strV p] w fun e w' => e = .returned (.tuple #[strV (Lib.cut l p).1, strV (Lib.cut l p).2.1, .bool (Lib.cut l p).2.2]) ∧ Fr w w' (fun _ => False) := by
  obtain ⟨m, hm⟩ := hw.max
  refine (Tryd.strings_Cut ⟨l.toArray⟩ ⟨p.toArray⟩ m w (by rw [str_size]; omega) hm).mono ?_
  rintro e w2 ⟨rfl, n, rfl⟩
  exact ⟨rfl, Fr.drewN _ _ _⟩
theorem CutPrefix_any (l p : Bs) (w : World) : Calls Tryd.prog 30 #[strV l, strV p] w fun e w' => e = .returned (.tuple #[strV (Lib.trimPrefix l p), .bool (Lib.hasPrefix l p)]) ∧ w = w' := by
  refine (Tryd.strings_CutPrefix ⟨l.toArray⟩ ⟨p.toArray⟩ w).mono ?_
  rintro e w2 ⟨rfl, rfl⟩
  exact ⟨rfl, rfl⟩
theorem number_any (l : Bs) (hl : l.length ≤ 1000000) (w : World) (hw : WOk w) : Calls Tryd.prog 33 #[strV l] w fun e w' => e = .returned (.int .i64 (numD l)) ∧ Fr w w' (fun _ => False) := by
  by_cases h : ∃ v, Lib.atoiAll l = .ok v
  · obtain ⟨v, hv⟩ := h
    obtain ⟨b0, b1⟩ := Lib.atoiAll_bounds hv
    have HA := Lib.hid (Atoi_ok l v hv hl w)
    have HI := Lib.hid (fun (W : World) (f : Fr w W (fun _ => False)) => Itoa_any v b0 b1 W (hw.fr f))
    obtain ⟨z, hz⟩ : ∃ z, numD l = z := ⟨_, rfl⟩
    have hzz : z = if Lib.itoa v = l then v else 0 := by rw [← hz, numD, hv]
    rw [hz]
    clear hz hw
    generalize Lib.itoa v = t at *
    by_cases ht : t = l
    · rw [if_pos ht] at hzz
      subst hzz ht
      clear hv
      go_enter Tryd.func33, Tryd.ntmps33
      go_wp2_with fail
      refine HA.out.mono ?_
      rintro e w2 ⟨rfl, hf2⟩
      have HF2 := Lib.hid hf2
      have HB2 := Lib.hid (HI.out _ hf2)
      clear hf2
      go_wp2_with fail
      refine HB2.out.mono ?_
      rintro e w3 ⟨rfl, hf3⟩
      have HF3 := Lib.hid hf3
      clear hf3
      go_wp2_with fail
      all_goals
        go_ret
        exact ⟨rfl, ff HF2.out HF3.out⟩
    · rw [if_neg ht] at hzz
      subst hzz
      have hne : (t == l) = false := beq_eq_false_iff_ne.2 ht
      have hne2 : (t != l) = true := by simp [bne, hne]
      clear hv
      go_enter Tryd.func33, Tryd.ntmps33
      go_wp2_with fail
      refine HA.out.mono ?_
      rintro e w2 ⟨rfl, hf2⟩
      have HF2 := Lib.hid hf2
      have HB2 := Lib.hid (HI.out _ hf2)
      clear hf2
      go_wp2_with fail
      refine HB2.out.mono ?_
      rintro e w3 ⟨rfl, hf3⟩
      have HF3 := Lib.hid hf3
      clear hf3
      go_wp2_with fail
      all_goals
        go_ret
        exact ⟨rfl, ff HF2.out HF3.out⟩
  · have HA := Lib.hid (Atoi_no l (fun v hv => h ⟨v, hv⟩) hl w hw)
    obtain ⟨z, hz⟩ : ∃ z, numD l = z := ⟨_, rfl⟩
    have hzz : z = 0 := by
      rw [← hz, numD]
      split
      · rename_i v hv
        exact absurd ⟨v, hv⟩ h
      · rfl
    rw [hz]
    subst hzz
    clear hz hw h
    go_enter Tryd.func33, Tryd.ntmps33
    go_wp2_with fail
    refine HA.out.mono ?_
    rintro e w2 ⟨x, t, p, rfl, hf2⟩
    have HF2 := Lib.hid hf2
    clear hf2
    go_wp2_with fail
    all_goals
      go_ret
      exact ⟨rfl, HF2.out⟩
end Go.Proofs.YtofabgllfjmaaaaDoor
