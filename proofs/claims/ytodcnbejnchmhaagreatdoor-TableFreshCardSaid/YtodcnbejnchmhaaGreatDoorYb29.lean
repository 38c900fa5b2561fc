import Derived.Test.YtodcnbejnchmhaaGreatDoorYb28
import Derived.Defers
import Derived.Recover
import Derived.Test.YtodcnbejnchmhaaGreatDoorYb20
import Derived.Test.YtodcnbejnchmhaaGreatDoorYb19
import Derived.Great.BuildSlice
import Derived.Deep.WholeRow
import Derived.Deep.RegionHeld3
import Derived.Test.YtodcnbejnchmhaaGreatDoorYb24
import Derived.Test.YtodcnbejnchmhaaGreatDoorYb09
import Derived.Laws.OwnMore
import Derived.Lib.SliceRun
namespace Go.Proofs.YtodcnbejnchmhaaGreatDoor
open Go.RowKit Go.Mem Go.Lin

set_option maxRecDepth 100000 in
set_option maxHeartbeats 1600000 in
theorem catch_panicking (q : Nat) (x y : LineL) (w : World) (hb : Blk w q 71 (lineC y)) :
    CallsD Tryz.prog 107 #[.pointer (some ⟨q, 0, none⟩)] (.panicking [{ v := .iface 71 (.agg (lineC x)), recovered := false }]) w fun e u' w' =>
      e = .returned (.tuple #[]) ∧ u' = .panicking [{ v := .iface 71 (.agg (lineC x)), recovered := true }] ∧ w' = w.setCells q 0 (lineC x).toList := by
  have ht : w.there q 0 (lineC x).size := fun j hj => ⟨by rw [cell_at hb, Array.getElem?_eq_getElem (by show 0 + j < 29; have : j < 29 := hj; omega)]; rfl, free_at hb _⟩
  have hsc : (storeCells ⟨q, 0, none⟩ (lineC x).toList 0).run Tryz.prog w = .ok () (w.setCells q (0 + 0) (lineC x).toList) := run_storeCells_cells (P := Tryz.prog) q 0 (lineC x).toList 0 w (fun j hj => (ht j hj).1) (fun j hj => (ht j hj).2) (fun v hv => by
    have h1 := lineC_one x
    rw [Array.all_eq_true'] at h1
    exact h1 v (Array.mem_toList_iff.1 hv))
  have hs9 : (lineC x).size = 29 := rfl
  have hta : ∀ w : World, (Instr.typeAssert (.iface 71 (.agg (lineC x))) 20 71 false).run Tryz.prog w = .ok (.agg (lineC x)) w := fun w => by kernel_rfl
  have hne : ∀ w : World, (binOp .neq 20 (.iface 71 (.agg (lineC x))) .nilIface).run Tryz.prog w = .ok (.bool true) w := fun w => by kernel_rfl
  generalize lineC x = xs at *
  rw [Nat.add_zero] at hsc
  refine callsD_of_wpS Tryz.func107 rfl fun c₀ cs hu => ?_
  apply wpS_seq
  apply wpS_region
  simp [wpOpsS, go_sem, recoverD, hu, Tryz.ntmps107, Exit.thenS]
  apply wpS_seq
  apply wpS_region
  simp [wpOpsS, go_sem, Exit.thenS, Act.eval, Array.replicate, hne]
  refine wpS_cond (t := true) (by simp [Act.eval]) ?_
  simp only [if_true]
  apply wpS_region
  simp [wpOpsS, go_sem, Act.eval, hta, hsc, hs9, bodyPostS, results, Tryz.results107]
theorem catch_idle (q : Nat) (w : World) :
    CallsD Tryz.prog 107 #[.pointer (some ⟨q, 0, none⟩)] .returning w fun e u' w' => e = .returned (.tuple #[]) ∧ u' = .returning ∧ w' = w := by
  have hne : ∀ w : World, (binOp .neq 20 .nilIface .nilIface).run Tryz.prog w = .ok (.bool false) w := fun w => by kernel_rfl
  refine callsD_of_wpS Tryz.func107 rfl fun c₀ cs hu => ?_
  apply wpS_seq
  apply wpS_region
  simp [wpOpsS, go_sem, recoverD, hu, Tryz.ntmps107, Exit.thenS]
  apply wpS_seq
  apply wpS_region
  simp [wpOpsS, go_sem, Exit.thenS, Act.eval, Array.replicate, hne]
  refine wpS_cond (t := false) (by simp [Act.eval]) ?_
  simp only [Bool.false_eq_true, if_false]
  refine wpS_of_wp (wp_skip ?_)
  cases c₀
  simp_all [bodyPostS, results, Tryz.results107]
theorem res_read {w : World} {q : Nat} {v : LineL} (hb : Blk w q 71 (lineC v)) (tmps : Array Value) (hp : tmps.getD 2 undef = .pointer (some ⟨q, 0, none⟩)) : (results Tryz.f68 tmps).run Tryz.prog w = .ok (.agg (lineC v)) w :=
  results_cell_row (P := Tryz.prog) (fn := Tryz.f68) (p := 2) (ty := 71) rfl tmps _ q 71 (lineC v) (0, 0) _ hp hb Tryz.underlying71 rfl (infoL v)
set_option maxRecDepth 100000 in
set_option maxHeartbeats 3200000 in
theorem read_any (fs : List FPair) (hz : ∀ x ∈ fs, x.1.length ≤ 100000) (hne : fs ≠ []) (A : Option Addr) (c : Nat) (w : World) (hw : LOk w) (hfd : S7.FdAt w A fs) (hc : fs.length ≤ c) :
    Calls Tryz.prog 68 #[.slice A fs.length c] w fun e w' => e = .returned (.agg (lineC (outL fs (readP fs) id))) ∧ Fr w w' (fun _ => False) := by
  have hpos : 0 < fs.length := by
    cases fs with
    | nil => exact absurd rfl hne
    | cons x r => simp
  obtain ⟨g, off, x, rfl, -, hcell, -⟩ := hfd.at_ hpos
  have hgs : g < w.heap.size := World.block_lt_of_cell? w _ hcell
  have hrd : Rd w 2 (some ⟨g, off, none⟩) fs.length (fs.flatMap cellsP) := hfd
  have hf1 := Fr.new w (.cells (lineC lineZ) 71) (fun _ => False)
  have hf2 := Fr.new (w.alloc (.cells (lineC lineZ) 71)) (.cells #[.slice (some ⟨g, off, none⟩) fs.length c] 177) (fun _ => False)
  have hsz : (w.alloc (.cells (lineC lineZ) 71)).heap.size = w.heap.size + 1 := by simp
  have hb2 := Blk.made (w.alloc (.cells (lineC lineZ) 71)) 177 #[.slice (some ⟨g, off, none⟩) fs.length c]
  rw [hsz] at hb2
  have HZ := Lib.hid (hf2.blk (Blk.made w 71 (lineC lineZ)) (fun h => h))
  have hL : LeftAt ((w.alloc (.cells (lineC lineZ) 71)).alloc (.cells #[.slice (some ⟨g, off, none⟩) fs.length c] 177)) (w.heap.size + 1) g fs :=
    ⟨_, c, hb2, hrd.fr (ff hf1 hf2) (fun _ _ _ _ h => h), hc, fun b' o' e _ => by injection e with e; injection e with e1; exact e1.symm⟩
  have hO : Ok w ((w.alloc (.cells (lineC lineZ) 71)).alloc (.cells #[.slice (some ⟨g, off, none⟩) fs.length c] 177)) (w.heap.size + 1) g := ⟨hw, ff hf1 hf2, by omega, by omega⟩
  have HL := Lib.hid (rline_any fs hz hne w _ (w.heap.size + 1) g hO hL)
  have HF := Lib.hid (ff hf1 hf2)
  obtain ⟨S, hS⟩ : ∃ S, readP fs = S := ⟨_, rfl⟩
  rw [hS] at HL ⊢
  clear hS hf1 hf2 hsz hb2 hL hO hrd hfd hw hcell hz
  cases S with
  | error x =>
    go_enter_defers Tryz.func68, Tryz.ntmps68
    go_wp2_with fail
    refine HL.out.mono ?_
    rintro e w2 ⟨rfl, hf2⟩
    have hb2 := hf2.blk HZ.out (by omega)
    have HB2 := Lib.hid hb2
    have HF2 := Lib.hid (HF.out.fresh hf2 (fun i e => by omega))
    clear hf2 hb2
    go_wp2_with fail
    refine leaves_cons (f := 107) (args := #[.pointer (some ⟨w.heap.size, 0, none⟩)]) (by simp) (by simp [go_sem]) ?_
    refine (catch_panicking w.heap.size _ _ _ HB2.out).mono ?_
    rintro e u' w3 ⟨rfl, rfl, rfl⟩
    have hm := Blk.many (lineC (wrongL x.2 (colOf fs x.1))).toList 0 _ _ HB2.out
    rw [put_line] at hm
    exact ⟨_, res_read hm _ rfl, rfl, HF2.out.fresh (Fr.many _ _ _) (fun i e => by omega)⟩
  | ok l =>
    go_enter_defers Tryz.func68, Tryz.ntmps68
    go_wp2_with fail
    refine HL.out.mono ?_
    rintro e w2 ⟨rfl, hf2⟩
    have hb2 := hf2.blk HZ.out (by omega)
    have HB2 := Lib.hid hb2
    have HF2 := Lib.hid (HF.out.fresh hf2 (fun i e => by omega))
    clear hf2 hb2
    go_wp2_with (
      refine wpList_store_blk 71 _ _ w.heap.size 0 71 (lineC lineZ) (lineC l) (lineC l) (by rfl) rfl rfl rfl rfl HB2.out (infoL _) (lineC_one _) (show 0 + 29 ≤ 29 by decide) (put_line _ _) ?_
      intro w9 hf9 hb9
      have HE := Lib.hid hb9
      have HFe := Lib.hid (HF2.out.fresh hf9 (fun i e => by omega))
      clear hf9 hb9)
    refine leaves_cons (f := 107) (args := #[.pointer (some ⟨w.heap.size, 0, none⟩)]) (by simp) (by simp [go_sem]) ?_
    refine (catch_idle w.heap.size _).mono ?_
    rintro e u' w3 ⟨rfl, rfl, rfl⟩
    exact ⟨_, res_read HE.out _ rfl, rfl, HFe.out⟩
end Go.Proofs.YtodcnbejnchmhaaGreatDoor
namespace Go.Lxr
theorem field_text : ∀ (l : Bs) (p : Nat) (t r : Bs), fieldD p l = .ok (t, r) → t.length + r.length ≤ l.length := by
  refine field_ind ?_ ?_ ?_ ?_ ?_
  · intro p t r h
    rw [field_nil] at h
    injection h with h
    injection h with h1 h2
    subst h1 h2
    simp
  · intro p c l hs t r h
    rw [field_stop hs] at h
    injection h with h
    injection h with h1 h2
    subst h1 h2
    simp
  · intro p l hq t r h
    rw [field_none hq] at h
    cases h
  · intro p q l l' hq ih t r h
    rw [field_some hq] at h
    cases hf : fieldD (p + q.length + 2) l' with
    | error k => rw [hf] at h; cases h
    | ok x =>
      rw [hf] at h
      injection h with h
      injection h with h1 h2
      subst h1 h2
      have := ih x.1 x.2 hf
      rw [(quote_is hq).1]
      simp
      omega
  · intro p c l hs hc ih t r h
    rw [field_one hs hc] at h
    cases hf : fieldD (p + 1) l with
    | error k => rw [hf] at h; cases h
    | ok x =>
      rw [hf] at h
      injection h with h
      injection h with h1 h2
      subst h1 h2
      have := ih x.1 x.2 hf
      simp
      omega
theorem fields_text : ∀ (l : Bs) (p : Nat) (fs : List (Bs × Nat)), fieldsD p l = .ok fs → ∀ x ∈ fs, x.1.length ≤ l.length := by
  refine fields_ind ?_ ?_ ?_ ?_ ?_
  · intro p fs h
    rw [fields_nil] at h
    injection h with h
    subst h
    intro x hx
    cases hx
  · intro p r fs h
    rw [fields_note] at h
    injection h with h
    subst h
    intro x hx
    cases hx
  · intro p c r hw ih fs h
    rw [fields_white hw] at h
    intro x hx
    have := ih fs h x hx
    simp
    omega
  · intro p c r k hs hf fs h
    rw [fields_bad hs p k r hf] at h
    cases h
  · intro p c r t r' hs hf hlt ih fs h
    rw [fields_one hs p r t r' hf] at h
    cases hg : fieldsD (p + ((c :: r).length - r'.length)) r' with
    | error j => rw [hg] at h; cases h
    | ok y =>
      rw [hg] at h
      injection h with h
      subst h
      intro x hx
      rcases List.mem_cons.1 hx with e | e
      · subst e
        have := field_text _ _ _ _ hf
        show t.length ≤ _
        omega
      · have := ih y hg x e
        omega
end Go.Lxr
namespace Go.Proofs.YtodcnbejnchmhaaGreatDoor
open Go.RowKit Go.Mem Go.Lin

theorem fieldsO_text (l : Bs) : ∀ x ∈ (S7.fieldsO l).1, x.1.length ≤ 200 := by
  unfold S7.fieldsO
  split
  · intro x hx; cases hx
  · split
    · intro x hx; cases hx
    · rename_i fs hf
      intro x hx
      have := Go.Lxr.fields_text l 0 fs hf x hx
      omega
theorem cut_eq {fs gs : List FPair} {s t : Bs} (h1 : S7.fieldsO s = (fs, 0, 0)) (h2 : S7.fieldsO t = (gs, 0, 0)) (h : fs.map (·.1) = gs.map (·.1)) : ({ parseL s with col := 0 } : LineL) = { parseL t with col := 0 } := by
  unfold parseL
  rw [h1, h2, if_neg (by simp), if_neg (by simp)]
  exact line_fields h
end Go.Proofs.YtodcnbejnchmhaaGreatDoor
namespace Go.Proofs.YtodcnbejnchmhaaGreatDoor
open Go.RowKit Go.Mem Go.Lin

def FOutC (o : List FPair × Int × Int) (w : World) (e : Ending) (w' : World) : Prop :=
  ∃ A c, e = .returned (.tuple #[.slice A o.1.length c, intV o.2.1, intV o.2.2]) ∧ S7.FdAt w' A o.1 ∧ o.1.length ≤ c ∧ Fr w w' (fun _ => False)
theorem FieldsC_any (l : Bs) (w : World) (hz : l.length ≤ 1000000) : Calls Tryz.prog 66 #[strV l] w (FOutC (S7.fieldsO l) w) := by
  have hs : (⟨l.toArray⟩ : ByteArray).size = l.length := str_size l
  by_cases h : 200 < l.length
  · refine (S7.Fields_long ⟨l.toArray⟩ w (by omega) (by omega)).mono ?_
    rintro e w' ⟨rfl, rfl⟩
    unfold S7.fieldsO
    rw [if_pos h]
    exact ⟨none, 0, rfl, Rd.zero _ _ _, Nat.le_refl _, Fr.refl _ _⟩
  · refine (S7.Fields_short ⟨l.toArray⟩ l w rfl (by omega)).mono ?_
    rintro e w' h2
    unfold S7.fieldsO
    rw [if_neg h]
    cases hf : Go.Lxr.fieldsD 0 l with
    | error k =>
      rw [hf] at h2
      obtain ⟨rfl, h3⟩ := h2
      exact ⟨none, 0, rfl, Rd.zero _ _ _, Nat.le_refl _, h3⟩
    | ok fs =>
      rw [hf] at h2
      obtain ⟨v, rfl, hv, h3⟩ := h2
      obtain ⟨A, c, rfl, h4, -, h5, -⟩ := own_rd hv
      exact ⟨A, c, rfl, h5, h4, h3⟩
theorem res_parse {w : World} {q : Nat} {v : LineL} (hb : Blk w q 71 (lineC v)) (tmps : Array Value) (hp : tmps.getD 2 undef = .pointer (some ⟨q, 0, none⟩)) : (results Tryz.f43 tmps).run Tryz.prog w = .ok (.agg (lineC v)) w :=
  results_cell_row (P := Tryz.prog) (fn := Tryz.f43) (p := 2) (ty := 71) rfl tmps _ q 71 (lineC v) (0, 0) _ hp hb Tryz.underlying71 rfl (infoL v)
set_option maxRecDepth 100000 in
set_option maxHeartbeats 3200000 in
theorem parse_holds : ParseC := by
  intro l x w hw hlen hx
  subst hx
  have hf1 := Fr.new w (.cells #[intV 0, .string ⟨#[]⟩, intV 0, intV 0, intV 0, intV 0, intV 0, intV 0, intV 0, intV 0, intV 0, .string ⟨#[]⟩, .string ⟨#[]⟩, .string ⟨#[]⟩, intV 0, intV 0, intV 0, .string ⟨#[]⟩, .string ⟨#[]⟩, .bool false, intV 0, intV 0, intV 0, intV 0, intV 0, intV 0, intV 0, intV 0, intV 0] 71) (fun _ => False)
  have HZ := Lib.hid (show Blk _ w.heap.size 71 (lineC lineZ) from Blk.made w 71 #[intV 0, .string ⟨#[]⟩, intV 0, intV 0, intV 0, intV 0, intV 0, intV 0, intV 0, intV 0, intV 0, .string ⟨#[]⟩, .string ⟨#[]⟩, .string ⟨#[]⟩, intV 0, intV 0, intV 0, .string ⟨#[]⟩, .string ⟨#[]⟩, .bool false, intV 0, intV 0, intV 0, intV 0, intV 0, intV 0, intV 0, intV 0, intV 0])
  have HF := Lib.hid hf1
  have HP := Lib.hid (FieldsC_any l (w.alloc (.cells #[intV 0, .string ⟨#[]⟩, intV 0, intV 0, intV 0, intV 0, intV 0, intV 0, intV 0, intV 0, intV 0, .string ⟨#[]⟩, .string ⟨#[]⟩, .string ⟨#[]⟩, intV 0, intV 0, intV 0, .string ⟨#[]⟩, .string ⟨#[]⟩, .bool false, intV 0, intV 0, intV 0, intV 0, intV 0, intV 0, intV 0, intV 0, intV 0] 71)) (by omega))
  have HT := Lib.hid (fieldsO_text l)
  have HW := Lib.hid (fun (W : World) (f : Fr w W (fun _ => False)) => hw.fr f)
  unfold parseL
  obtain ⟨⟨fs, c, k⟩, ho⟩ : ∃ o, S7.fieldsO l = o := ⟨_, rfl⟩
  rw [ho] at HP HT ⊢
  clear hf1 hw ho
  show Calls _ _ _ _ (fun e w' => e = .returned (lineV (if k ≠ 0 then wrongL k c else lineP fs)) ∧ _)
  by_cases hk : k = 0
  · subst hk
    rw [if_neg (by simp)]
    by_cases hne : fs = []
    · subst hne
      rw [show lineP [] = lineZ from rfl]
      go_enter Tryz.func43, Tryz.ntmps43
      go_wp2_with fail
      refine HP.out.mono ?_
      rintro e w2 ⟨A, cap, rfl, -, -, hf2⟩
      have HF2 := Lib.hid (ff HF.out hf2)
      have HZ2 := Lib.hid (hf2.blk HZ.out (fun h => h))
      clear hf2
      go_wp2_with (
      refine wpList_store_blk 71 _ _ w.heap.size 0 71 (lineC lineZ) (lineC lineZ) (lineC lineZ) (by rfl) rfl rfl rfl rfl HZ2.out (infoL _) (lineC_one _) (show 0 + 29 ≤ 29 by decide) (put_line _ _) ?_
      intro w9 hf9 hb9
      have HE := Lib.hid hb9
      have HFe := Lib.hid (HF2.out.fresh hf9 (fun i e => by omega))
      clear hf9 hb9)
      (try simp only [Exit.inBlock, Exit.then])
      exact bodyPost_ret (res_parse HE.out _ rfl) rfl ⟨rfl, HFe.out⟩
    · rw [line_code fs hne]
      obtain ⟨X, hX⟩ : ∃ X, outL fs (readP fs) id = X := ⟨_, rfl⟩
      rw [hX]
      obtain ⟨n, hn⟩ : ∃ n, fs.length = n + 1 := by
        cases fs with
        | nil => exact absurd rfl hne
        | cons y r => exact ⟨r.length, rfl⟩
      have n0 : ((fs.length : Int) == 0) = false := by simp; omega
      clear hn
      have HR := Lib.hid (fun (A : Option Addr) (cap : Nat) (W : World) (hW : LOk W) (hfd : S7.FdAt W A fs) (hc : fs.length ≤ cap) => (show Calls Tryz.prog 68 #[.slice A fs.length cap] W fun e w' => e = .returned (.agg (lineC X)) ∧ Fr W w' (fun _ => False) by rw [← hX]; exact read_any fs (fun y hy => Nat.le_trans (HT.out y hy) (by omega)) hne A cap W hW hfd hc))
      clear hX HT
      go_enter Tryz.func43, Tryz.ntmps43
      go_wp2_with fail
      refine HP.out.mono ?_
      rintro e w2 ⟨A, cap, rfl, hfd, hcap, hf2⟩
      have HF2 := Lib.hid (ff HF.out hf2)
      have HZ2 := Lib.hid (hf2.blk HZ.out (fun h => h))
      have HR2 := Lib.hid (HR.out A cap w2 (HW.out w2 HF2.out) hfd hcap)
      clear hf2 hfd
      go_wp2_with fail
      refine HR2.out.mono ?_
      rintro e w3 ⟨rfl, hf3⟩
      have HF3 := Lib.hid (ff HF2.out hf3)
      have HZ3 := Lib.hid (hf3.blk HZ2.out (fun h => h))
      clear hf3
      go_wp2_with (
      refine wpList_store_blk 71 _ _ w.heap.size 0 71 (lineC lineZ) (lineC X) (lineC X) (by rfl) rfl rfl rfl rfl HZ3.out (infoL _) (lineC_one _) (show 0 + 29 ≤ 29 by decide) (put_line _ _) ?_
      intro w9 hf9 hb9
      have HE := Lib.hid hb9
      have HFe := Lib.hid (HF3.out.fresh hf9 (fun i e => by omega))
      clear hf9 hb9)
      (try simp only [Exit.inBlock, Exit.then])
      exact bodyPost_ret (res_parse HE.out _ rfl) rfl ⟨rfl, HFe.out⟩
  · rw [if_pos hk]
    have k0 : (k == 0) = false := by simpa using hk
    obtain ⟨X, hX⟩ : ∃ X, wrongL k c = X := ⟨_, rfl⟩
    rw [hX]
    have HQ := Lib.hid (fun W => (show Calls Tryz.prog 67 #[intV k, intV c] W fun e w' => e = .returned (.agg (lineC X)) ∧ Fr W w' (fun _ => False) by rw [← hX]; exact fault_any k c W))
    clear hX
    go_enter Tryz.func43, Tryz.ntmps43
    go_wp2_with fail
    refine HP.out.mono ?_
    rintro e w2 ⟨A, cap, rfl, -, -, hf2⟩
    have HF2 := Lib.hid (ff HF.out hf2)
    have HZ2 := Lib.hid (hf2.blk HZ.out (fun h => h))
    clear hf2
    go_wp2_with fail
    refine (HQ.out _).mono ?_
    rintro e w3 ⟨rfl, hf3⟩
    have HF3 := Lib.hid (ff HF2.out hf3)
    have HZ3 := Lib.hid (hf3.blk HZ2.out (fun h => h))
    clear hf3
    go_wp2_with (
      refine wpList_store_blk 71 _ _ w.heap.size 0 71 (lineC lineZ) (lineC X) (lineC X) (by rfl) rfl rfl rfl rfl HZ3.out (infoL _) (lineC_one _) (show 0 + 29 ≤ 29 by decide) (put_line _ _) ?_
      intro w9 hf9 hb9
      have HE := Lib.hid hb9
      have HFe := Lib.hid (HF3.out.fresh hf9 (fun i e => by omega))
      clear hf9 hb9)
    (try simp only [Exit.inBlock, Exit.then])
    exact bodyPost_ret (res_parse HE.out _ rfl) rfl ⟨rfl, HFe.out⟩
end Go.Proofs.YtodcnbejnchmhaaGreatDoor
namespace Go.Proofs.YtodcnbejnchmhaaGreatDoor
open Go.RowKit Go.Mem Go.Lin Go.Dcm

def strL (s : Bs) : List Value := [strV s]
theorem strL_len (s : Bs) : (strL s).length = 1 := rfl
theorem flat_str (l : List Bs) : l.flatMap strL = l.map strV := by
  induction l with
  | nil => rfl
  | cons x l ih => rw [List.flatMap_cons, ih]; rfl
/-- a row of the call's own, all of it just made -/
theorem own_all {X : Type} {w : World} {base : Nat} {e : TypeId} {k : Nat} {f : X → List Value} {l : List X} (cs : Array Value) (hb : base ≤ w.heap.size) (hc : cs.toList = l.flatMap f) (hk : ∀ x, (f x).length = k) (hl : l.length ≤ maxLen) : Own (w.alloc (.cells cs e)) base e k f (.slice (some ⟨w.heap.size, 0, none⟩) l.length l.length) l := by
  have hs : cs.toList.length = l.length * k := by rw [hc, flat_len f k hk]
  refine ⟨by rw [← hc, hs], .inr ⟨w.heap.size, l.length, cs, rfl, hb, Blk.made w e cs, Nat.le_refl _, hl, by simpa using hs, ?_⟩⟩
  rw [hc, List.take_of_length_le (by rw [← hc, hs]; exact Nat.le_refl _)]
theorem Split10_any (l : Bs) (w : World) (hl : l.length ≤ 1000000) (hw : S8.WOk w) : Calls Tryz.prog 64 #[strV l, .string ⟨#[10]⟩] w fun e w' =>
    e = .returned (.slice (some ⟨w.heap.size, 0, none⟩) (Go.Rope.linesL l).length (Go.Rope.linesL l).length) ∧ Own w' w.heap.size 9 1 strL (.slice (some ⟨w.heap.size, 0, none⟩) (Go.Rope.linesL l).length (Go.Rope.linesL l).length) (Go.Rope.linesL l) ∧ Fr w w' (fun _ => False) := by
  obtain ⟨m, hm⟩ := hw.max
  have hsz := str_size l
  refine (Tryz.strings_Split ⟨l.toArray⟩ ⟨#[10]⟩ m w (by omega) hm (by decide)).mono ?_
  rintro e w2 ⟨rfl, rfl⟩
  have hd : (Lib.splitB ⟨#[10]⟩ 0 (Lib.countB ⟨l.toArray⟩ ⟨#[10]⟩) ⟨l.toArray⟩).map (·.data.toList) = Go.Rope.linesL l := by
    rw [Lib.splitB_data, ← split_lines]
    simp [Lib.split, Lib.countB]
  have hn : Lib.countB ⟨l.toArray⟩ ⟨#[10]⟩ + 1 = (Go.Rope.linesL l).length := by
    rw [← hd, List.length_map, Lib.splitB_all _ (by decide) 0 _ _ rfl]
  have hcs : (Lib.splitB ⟨#[10]⟩ 0 (Lib.countB ⟨l.toArray⟩ ⟨#[10]⟩) ⟨l.toArray⟩).map Value.string = (Go.Rope.linesL l).map strV := by
    rw [← hd, List.map_map]
    exact List.map_congr_left fun s _ => S8.strV_of s
  rw [hcs, hn]
  have hle := (lines_le l).1
  exact ⟨rfl, own_all _ (Nat.le_refl _) (by rw [flat_str]) strL_len (by simp only [maxLen]; omega), Fr.new _ _ _⟩
theorem Trim_any (l x : Bs) (hx : stripR l = x) (w : World) (hl : l.length ≤ 1000000) : Calls Tryz.prog 65 #[strV l, .string ⟨#[13]⟩] w fun e w' => e = .returned (strV x) ∧ w' = w := by
  have hsz := str_size l
  refine (Tryz.strings_TrimSuffix ⟨l.toArray⟩ ⟨#[13]⟩ w (by omega)).mono ?_
  rintro e w2 ⟨rfl, rfl⟩
  refine ⟨?_, rfl⟩
  have : Lib.trimSuffix l [13] = x := by rw [trim_strip, hx]
  show Ending.returned (.string ⟨(Lib.trimSuffix l [13]).toArray⟩) = _
  rw [this]
/-- lines, the first i of them cut -/
def upD (L : List Bs) (i : Nat) : List Bs := (L.take i).map stripR ++ L.drop i
theorem up_len (L : List Bs) (i : Nat) : (upD L i).length = L.length := by
  unfold upD
  rw [List.length_append, List.length_map, List.length_take, List.length_drop]
  omega
theorem up_set (L : List Bs) (i : Nat) (h : i < L.length) : (upD L i).set i (stripR L[i]) = upD L (i + 1) := by
  unfold upD
  rw [List.drop_eq_getElem_cons h, List.set_append_right _ _ (by rw [List.length_map, List.length_take]; omega), List.length_map, List.length_take, Nat.min_eq_left (Nat.le_of_lt h), Nat.sub_self, List.set_cons_zero, List.take_succ_eq_append_getElem h, List.map_append, List.append_assoc]
  rfl
theorem up_at (L : List Bs) (i : Nat) (h : i < L.length) : (upD L i)[i]? = some L[i] := by
  unfold upD
  rw [List.getElem?_append_right (by rw [List.length_map, List.length_take]; omega), List.length_map, List.length_take, Nat.min_eq_left (Nat.le_of_lt h), Nat.sub_self, List.drop_eq_getElem_cons h]
  rfl
theorem up_all (L : List Bs) : upD L L.length = L.map stripR := by simp [upD]
/-- a row of texts, one of them turned -/
theorem str_put {w : World} {B b n c : Nat} {l : List Bs} (h : Own w B 9 1 strL (.slice (some ⟨b, 0, none⟩) n c) l) (hn : n = l.length) (i : Nat) (x : Bs) : Own (w.setCell ⟨b, i, none⟩ (strV x)) B 9 1 strL (.slice (some ⟨b, 0, none⟩) n c) (l.set i x) := by
  subst hn
  have h1 := (World.ownsRow.stored h i (strV x)).1
  show World.ownsRow _ _ _ _ _ (l.set i x).length _
  rw [flat_str, List.length_set, List.map_set]
  rw [flat_str] at h1
  exact h1
theorem str_at {w : World} {B b n c : Nat} {l : List Bs} (h : Own w B 9 1 strL (.slice (some ⟨b, 0, none⟩) n c) l) (hn : n = l.length) {i : Nat} {x : Bs} (hx : l[i]? = some x) : w.cell? ⟨b, i, none⟩ = some (strV x) ∧ w.frozen? ⟨b, i, none⟩ = false := by
  subst hn
  refine ⟨?_, World.ownsRow.frozenAt h i⟩
  have := h.cells (g := b) rfl i (strV x) (by rw [flat_str, List.getElem?_map, hx]; rfl)
  have hadd : (⟨b, 0, none⟩ : Addr).add i = ⟨b, 0 + i, none⟩ := by unfold Addr.add; split <;> simp_all
  rw [hadd, Nat.zero_add] at this
  exact this
def TPost (l : List Bs) (w : World) (e : Ending) (w' : World) : Prop := ∃ b c, e = .returned (.slice (some ⟨b, 0, none⟩) l.length c) ∧ w.heap.size ≤ b ∧ Own w' w.heap.size 9 1 strL (.slice (some ⟨b, 0, none⟩) l.length c) l ∧ Fr w w' (fun _ => False)
def LI (w : World) (L : List Bs) (H : Nat) (k : Nat) (v : Value) (wr : World) : Prop := ∃ i : Nat, i + k = L.length ∧ v = intV (i : Int) ∧ Own wr w.heap.size 9 1 strL (.slice (some ⟨H, 0, none⟩) L.length L.length) (upD L i) ∧ Fr w wr (fun _ => False)
set_option maxRecDepth 100000 in
set_option maxHeartbeats 1600000 in
theorem dLines_any (l : Bs) (w : World) (hw : S8.WOk w) (hl : l.length ≤ 1000000) : Calls Tryz.prog 42 #[strV l] w (TPost (linesD l) w) := by
  have HS := Lib.hid (Split10_any l w hl hw)
  obtain ⟨L, hL⟩ : ∃ L, Go.Rope.linesL l = L := ⟨_, rfl⟩
  have hle := lines_le l
  rw [hL] at HS hle
  have HD := Lib.hid (show linesD l = upD L L.length by rw [up_all, ← hL]; rfl)
  have HLE := Lib.hid (show ∀ x ∈ L, x.length ≤ 1000000 from fun x hx => Nat.le_trans (hle.2 x hx) hl)
  have hn : L.length ≤ 1000001 := by omega
  rw [HD.out]
  clear hw hL hle hl
  go_enter Tryz.func42, Tryz.ntmps42
  go_wp2_with fail
  refine HS.out.mono ?_
  rintro e w2 ⟨rfl, ho, hf⟩
  have HI := Lib.hid (show LI w L w.heap.size L.length (intV 0) w2 from ⟨0, by simp, rfl, by simpa [upD] using ho, hf⟩)
  clear ho hf
  go_wp2_with fail
  go_loopg [4, 5, 10] L.length (fun k _ _ v10 wr => LI w L w.heap.size k v10 wr)
  case atStart => exact HI.out
  case round =>
    obtain ⟨i, hik, rfl, ho, hf⟩ := hrel
    by_cases hlt : i < L.length
    · obtain ⟨c1, f1⟩ := str_at ho (up_len L i).symm (up_at L i hlt)
      have HU := Lib.hid (up_set L i hlt)
      have HO := Lib.hid ho
      have HF := Lib.hid hf
      have hi1 : (i : Int) < (L.length : Int) := by omega
      have hxl := HLE.out L[i] (List.getElem_mem hlt)
      obtain ⟨x, hx⟩ : ∃ x, L[i] = x := ⟨_, rfl⟩
      rw [hx] at c1 HU hxl
      obtain ⟨y, hy⟩ : ∃ y, stripR x = y := ⟨_, rfl⟩
      have HT := Lib.hid (fun W => Trim_any x y hy W hxl)
      rw [hy] at HU
      clear ho hf hx hy hxl
      go_wp2_with fail
      refine (HT.out _).mono ?_
      rintro e w3 ⟨rfl, rfl⟩
      go_wp2_with fail
      go_roundg (gk - 1)
      case measure => omega
      case rel =>
        refine ⟨i + 1, by omega, by go_num, ?_, HF.out.fresh (Fr.set (S := fun k => k = w.heap.size) rfl) (fun i e => by omega)⟩
        have := str_put HO.out (up_len L i).symm i y
        rw [HU.out] at this
        exact this
    · obtain rfl : i = L.length := by omega
      have hi1 : (L.length : Int) ≤ (L.length : Int) := Int.le_refl _
      have HO := Lib.hid ho
      have HF := Lib.hid hf
      clear ho hf
      go_wp2_with fail
      go_ret
      refine ⟨w.heap.size, L.length, by rw [up_len]; rfl, Nat.le_refl _, by rw [up_len]; exact HO.out, HF.out⟩
/- light -/
end Go.Proofs.YtodcnbejnchmhaaGreatDoor
namespace Go.Proofs.YtodcnbejnchmhaaGreatDoor
open Go.RowKit Go.Mem Go.Lin Go.Dcm

theorem infoLine : (Tryz.prog.info? 71).map (fun i => (i.zero, i.size, i.bytes)) = some (some (.agg (lineC lineZ)), 29, 280) := by kernel_rfl
theorem made_lines (n : Nat) : (madeCells (lineC lineZ) (n * 29)).toList = (List.replicate n lineZ).flatMap lineL := by
  apply List.ext_getElem?
  intro j
  by_cases hj : j < n * 29
  · have h1 : (List.replicate n lineZ)[j / 29]? = some lineZ := by
      rw [List.getElem?_replicate, if_pos (by omega)]
    have h2 := flat_get lineL 29 lineL_len h1 (j % 29) (Nat.mod_lt _ (by omega))
    rw [show j / 29 * 29 + j % 29 = j by omega] at h2
    rw [h2]
    have hs : (lineC lineZ).size = 29 := rfl
    have hm : j % 29 < (lineC lineZ).size := Nat.mod_lt _ (by decide)
    have e1 : (lineL lineZ)[j % 29]? = some (lineC lineZ)[j % 29] := by
      show (lineC lineZ).toList[j % 29]? = _
      rw [Array.getElem?_toList, Array.getElem?_eq_getElem hm]
    rw [e1]
    simp only [madeCells, Array.toList_map, Array.toList_range, List.getElem?_map, List.getElem?_range hj, Option.map_some, hs]
    rw [getElem!_pos (lineC lineZ) (j % 29) hm]
  · rw [List.getElem?_eq_none (by simp [madeCells]; omega), List.getElem?_eq_none (by rw [flat_len lineL 29 lineL_len]; simp; omega)]
/-- the first i of them parsed -/
def paD (L : List Bs) (i : Nat) : List LineL := (L.take i).map parseL ++ List.replicate (L.length - i) lineZ
theorem pa_len (L : List Bs) (i : Nat) (h : i ≤ L.length) : (paD L i).length = L.length := by
  unfold paD
  rw [List.length_append, List.length_map, List.length_take, List.length_replicate]
  omega
theorem pa_all (L : List Bs) : paD L L.length = L.map parseL := by simp [paD]
theorem pa_none (L : List Bs) : paD L 0 = List.replicate L.length lineZ := by simp [paD]
/-- a row of structs, one of them turned -/
theorem many_flat {X : Type} (f : X → List Value) (k : Nat) (hf : ∀ x, (f x).length = k) (a : List X) (x y : X) (b : List X) : setMany ((a ++ x :: b).flatMap f).toArray (a.length * k) (f y) = ((a ++ y :: b).flatMap f).toArray := by
  have ha := flat_len f k hf a
  refine many_eq (by simp [hf, ha] <;> omega) ?_
  simp only [List.flatMap_append, List.flatMap_cons]
  have e : (a.flatMap f ++ (f x ++ b.flatMap f)).drop (a.length * k + (f y).length) = b.flatMap f := by
    rw [← List.append_assoc, List.drop_left' (by rw [List.length_append, hf, hf, ha])]
  rw [e, List.take_left' ha]
theorem pa_step (L : List Bs) (i : Nat) (h : i < L.length) : setMany ((paD L i).flatMap lineL).toArray (i * 29) (lineC (parseL L[i])).toList = ((paD L (i + 1)).flatMap lineL).toArray := by
  have e1 : paD L i = (L.take i).map parseL ++ lineZ :: List.replicate (L.length - (i + 1)) lineZ := by
    unfold paD
    rw [show L.length - i = (L.length - (i + 1)) + 1 by omega, List.replicate_succ]
  have e2 : paD L (i + 1) = (L.take i).map parseL ++ parseL L[i] :: List.replicate (L.length - (i + 1)) lineZ := by
    unfold paD
    rw [List.take_succ_eq_append_getElem h, List.map_append, List.append_assoc]
    rfl
  have := many_flat lineL 29 lineL_len ((L.take i).map parseL) lineZ (parseL L[i]) (List.replicate (L.length - (i + 1)) lineZ)
  rw [List.length_map, List.length_take, Nat.min_eq_left (Nat.le_of_lt h)] at this
  rw [e1, e2]
  exact this
theorem doc_base {tr tz tl : TypeId} {w : World} {a b : Nat} {vr vz vl vd : Value} {d : DocL} (h : DocAt tr tz tl w b vr vz vl vd d) (hb : a ≤ b) : DocAt tr tz tl w a vr vz vl vd d := by
  obtain ⟨zv, h1, h2, h3⟩ := h.z
  exact ⟨own_base h.r hb, ⟨zv, h1, own_base h2 hb, fun x hx => zat_base (h3 x hx) hb⟩, own_base h.l hb, own_base h.g hb⟩
theorem res_doc {w : World} {q : Nat} {cs : Array Value} (hs : cs.size = 4) (hb : Blk w q 57 cs) (tmps : Array Value) (hp : tmps.getD 2 undef = .pointer (some ⟨q, 0, none⟩)) : (results Tryz.f24 tmps).run Tryz.prog w = .ok (.agg cs) w :=
  results_cell_row (P := Tryz.prog) (fn := Tryz.f24) (p := 2) (ty := 57) rfl tmps _ q 57 cs (0, 0) _ hp hb Tryz.underlying57 rfl (by rw [hs]; exact infoDoc)
theorem lines_blk {w : World} {b : Nat} {l : List LineL} (h : Blk w b 71 (l.flatMap lineL).toArray) : LinesAt w (some ⟨b, 0, none⟩) l := by
  refine ⟨flat_len lineL 29 lineL_len l, fun _ => ⟨b, 0, rfl, fun j u hu => ?_⟩⟩
  have := cell_at h j
  rw [Nat.zero_add, this]
  simpa using hu
def PI (w : World) (L : List Bs) (b bs c : Nat) (k : Nat) (v : Value) (wr : World) : Prop := ∃ i : Nat, i + k = L.length ∧ v = intV (i : Int) ∧ Blk wr b 71 ((paD L i).flatMap lineL).toArray ∧ Own wr w.heap.size 9 1 strL (.slice (some ⟨bs, 0, none⟩) L.length c) L ∧ Blk wr w.heap.size 57 #[.slice none 0 0, .slice none 0 0, .slice none 0 0, .slice none 0 0] ∧ w.heap.size < b ∧ Fr w wr (fun _ => False)
set_option maxRecDepth 100000 in
set_option maxHeartbeats 3200000 in
theorem dcParse_any (l : Bs) (w : World) (hw : LOk w) (hl : l.length ≤ 30000) : Calls Tryz.prog 24 #[strV l] w (DocPost 100 101 102 w (ofD ((linesD l).map parseL))) := by
  have hf0 := Fr.new w (.cells #[.slice none 0 0, .slice none 0 0, .slice none 0 0, .slice none 0 0] 57) (fun _ => False)
  have HL := Lib.hid (dLines_any l _ (hw.fr hf0).kwd (by omega))
  have HR0 := Lib.hid (Blk.made w 57 #[.slice none 0 0, .slice none 0 0, .slice none 0 0, .slice none 0 0])
  have HF0 := Lib.hid hf0
  have HW := Lib.hid (fun (W : World) (f : Fr w W (fun _ => False)) => hw.fr f)
  have hle := linesD_le l
  obtain ⟨L, hL⟩ : ∃ L, linesD l = L := ⟨_, rfl⟩
  rw [hL] at HL hle ⊢
  have HX := Lib.hid (show ∀ x ∈ L, x.length ≤ 100000 from fun x hx => Nat.le_trans (hle.2 x hx) (by omega))
  have hn : L.length ≤ 30001 := by omega
  clear hw hf0 hL hle hl
  go_enter Tryz.func24, Tryz.ntmps24
  go_wp2_with fail
  refine HL.out.mono ?_
  rintro e w2 ⟨bs, c, rfl, hbs, ho, hf⟩
  obtain ⟨i0, hi0, hz0, hz1, hz2⟩ := info_parts infoLine
  obtain ⟨wM, hrun, hownM, hgM⟩ := run_make_full (P := Tryz.prog) w2 0 31 71 i0 _ 29 Tryz.underlying31 hi0 hz0 hz1 .i64 .i64 L.length (by rw [hz2]; omega) (by simp only [maxLen]; omega) (Nat.zero_le _)
  have hfM := Fr.ofGrown hgM
  have hfM : Fr w2 wM (fun _ => False) := hfM.mono (fun i _ h => by cases h)
  obtain ⟨cs, -, hbM, hcs⟩ : ∃ cs, 0 ≤ 0 ∧ Blk wM w2.heap.size 71 cs ∧ cs = ((paD L 0).flatMap lineL).toArray := by
    rcases hownM.2 with ⟨h', -⟩ | ⟨g', cap', cur, h', hb, hg, hnc, hcm, hcs, ht⟩
    · simp at h'
    · injection h' with h1 h2 h3
      injection h1 with h1
      injection h1 with h1
      subst h1 h3
      refine ⟨cur, Nat.le_refl _, hg, ?_⟩
      rw [List.take_of_length_le (by rw [Array.length_toList, hcs]; exact Nat.le_refl _)] at ht
      rw [pa_none, ← made_lines]
      have e : (Value.agg (lineC lineZ)).cells = lineC lineZ := rfl
      rw [e] at ht
      exact Array.toList_inj.1 (by rw [ht])
  subst hcs
  have hfw := ff0 HF0.out hf
  have hs2 := hfw.size
  have hs1 : (w.alloc (.cells #[.slice none 0 0, .slice none 0 0, .slice none 0 0, .slice none 0 0] 57)).heap.size = w.heap.size + 1 := by simp
  have hs3 := hf.size
  have HI := Lib.hid (show PI w L w2.heap.size bs c L.length (intV 0) wM from ⟨0, by simp, rfl, hbM, own_base (ho.kept hfM) (by rw [hs1]; omega), hfM.blk (hf.blk HR0.out (fun h => h)) (fun h => h), by omega, ff0 hfw hfM⟩)
  clear ho hf hownM hgM hbM hfM hfw hs1 hs3
  go_wp2_with fail
  go_loopg [5, 6, 14] L.length (fun k _ _ v14 wr => PI w L w2.heap.size bs c k v14 wr)
  case atStart => exact HI.out
  case round =>
    obtain ⟨i, hik, rfl, hb, ho, hR, hwb, hf⟩ := hrel
    have HB := Lib.hid hb
    have HO := Lib.hid ho
    have HR := Lib.hid hR
    have HF := Lib.hid hf
    by_cases hlt : i < L.length
    · have c1 := (str_at ho rfl (List.getElem?_eq_getElem hlt)).1
      have hxl := HX.out L[i] (List.getElem_mem hlt)
      have HU := Lib.hid (pa_step L i hlt)
      have hi1 : (i : Int) < (L.length : Int) := by omega
      obtain ⟨x, hx⟩ : ∃ x, L[i] = x := ⟨_, rfl⟩
      rw [hx] at c1 hxl HU
      obtain ⟨y, hy⟩ : ∃ y, parseL x = y := ⟨_, rfl⟩
      have HP := Lib.hid (parse_holds x y wr (HW.out wr hf) hxl hy)
      rw [hy] at HU
      have hsz : i * 29 + 29 ≤ ((paD L i).flatMap lineL).toArray.size := by
        rw [List.size_toArray, flat_len lineL 29 lineL_len, pa_len L i (by omega)]
        omega
      obtain ⟨C1, hC1⟩ : ∃ C, ((paD L i).flatMap lineL).toArray = C := ⟨_, rfl⟩
      obtain ⟨C2, hC2⟩ : ∃ C, ((paD L (i + 1)).flatMap lineL).toArray = C := ⟨_, rfl⟩
      rw [hC1] at HB hsz
      rw [hC1, hC2] at HU
      have HC2 := Lib.hid hC2
      clear hb ho hR hf hx hy hxl hC1 hC2
      go_wp2_with fail
      refine HP.out.mono ?_
      rintro e w3 ⟨rfl, hf3⟩
      have HB3 := Lib.hid (hf3.blk HB.out (fun h => h))
      have HO3 := Lib.hid (HO.out.kept hf3)
      have HR3 := Lib.hid (hf3.blk HR.out (fun h => h))
      have HF3 := Lib.hid (ff0 HF.out hf3)
      clear hf3
      go_wp2_with (refine wpList_store_blk 71 _ _ w2.heap.size (i * 29) 71 C1 (lineC y) C2 (by rfl) rfl rfl rfl rfl HB3.out (infoL _) (lineC_one _) hsz HU.out ?_
                   intro w9 hf9 hb9
                   have HB9 := Lib.hid hb9
                   have HF9 := Lib.hid hf9
                   clear hf9 hb9)
      go_roundg (gk - 1)
      case measure => omega
      case rel =>
        refine ⟨i + 1, by omega, by go_num, by rw [HC2.out]; exact HB9.out, own_far HO3.out HF9.out (fun k cs _ hb e => by subst e; exact absurd (blk_same hb HB3.out) (by decide)), HF9.out.blk HR3.out (fun e => by omega), hwb, HF3.out.fresh HF9.out (fun i e => by have e : i = w2.heap.size := e; omega)⟩
    · obtain rfl : i = L.length := by omega
      rw [pa_all] at HB
      have hpl : (L.map parseL).length = L.length := List.length_map _
      have HD := Lib.hid (show Calls Tryz.prog 41 #[.slice (some ⟨w2.heap.size, 0, none⟩) L.length L.length] wr (DocPost 100 101 102 wr (ofD (L.map parseL))) by
        have := dOf_any (L.map parseL) _ L.length wr (lines_blk HB.out) (by rw [hpl]; omega)
        rw [hpl] at this
        exact this)
      have hi1 : (L.length : Int) ≤ (L.length : Int) := Int.le_refl _
      have hws := hf.size
      clear hb ho hR hf hpl
      go_wp2_with fail
      refine HD.out.mono ?_
      rintro e w3 ⟨vr, vz, vl, vd, rfl, hd3, hf3⟩
      have HD3 := Lib.hid (doc_base hd3 hws)
      have HR3 := Lib.hid (hf3.blk HR.out (fun h => h))
      have HF3 := Lib.hid (ff0 HF.out hf3)
      clear hd3 hf3
      go_wp2_with (
        (refine wpList_store_blk 57 _ _ w.heap.size 0 57 _ #[vr, vz, vl, vd] #[vr, vz, vl, vd] (by rfl) rfl rfl rfl rfl HR3.out infoDoc (doc_one HD3.out) (show 0 + 4 ≤ 4 by decide) rfl ?_
         intro w9 hf9 hb9
         have HE9 := Lib.hid hb9
         have HF9 := Lib.hid hf9
         clear hf9 hb9))
      (try simp only [Exit.inBlock, Exit.then])
      exact bodyPost_ret (res_doc rfl HE9.out _ rfl) rfl ⟨vr, vz, vl, vd, rfl, doc_far HD3.out HF9.out HR3.out, HF3.out.fresh HF9.out (fun i e => by have e : i = w.heap.size := e; omega)⟩
end Go.Proofs.YtodcnbejnchmhaaGreatDoor
namespace Go.Proofs.YtodcnbejnchmhaaGreatDoor
open Go.Rope hiding Bs
open Go.RowKit Go.Mem Go.Lin Go.Dcm

/- a rope, behind what turns no node and no rope -/
theorem S3.NodeAt.far {w w' : World} {B B' : Nat} {v : Value} {s : Bs} {h : Nat} {S : Nat → Prop} (n : S3.NodeAt w B v s h) (hf : Fr w w' S) (hS : ∀ k cs, Blk w k 192 cs → ¬ S k) (hB : B ≤ B') : S3.NodeAt w' B' v s h := by
  induction n with
  | empty => exact .empty
  | leaf hg hk h0 h1 => exact .leaf (by omega) (hf.blk hk (hS _ _ hk)) h0 h1
  | pair hg hk na nb h1 h2 h3 h4 iha ihb => exact .pair (by omega) (hf.blk hk (hS _ _ hk)) iha ihb h1 h2 h3 h4
theorem S3.RopeAt.far {w w' : World} {v x : Value} {l : Bs} {h : Nat} {S : Nat → Prop} (r : S3.RopeAt w v x l h) (hf : Fr w w' S) (hn : ∀ k cs, Blk w k 192 cs → ¬ S k) (hr : ∀ k cs, Blk w k 155 cs → ¬ S k) : S3.RopeAt w' v x l h := by
  refine ⟨r.1.far hf hn hf.size, ?_⟩
  rcases r.2 with h | ⟨g, h1, h2⟩
  · exact .inl h
  · exact .inr ⟨g, h1, hf.blk h2 (hr _ _ h2)⟩
abbrev pT (g : Nat) : Value := .pointer (some ⟨g, 0, none⟩)
/-- the cells of what a text's lines say -/
def saysC (l : Bs) : Array Value := ((saysD l).flatMap lineL).toArray
/-- the value v is what a text's lines say, or it is nil, of the empty text -/
def LsAt (w : World) (v : Value) (l : Bs) : Prop := (v = .slice none 0 0 ∧ l = []) ∨ ∃ b, v = .slice (some ⟨b, 0, none⟩) (feeds l + 1) (feeds l + 1) ∧ Blk w b 71 (saysC l)
/-- a table of the text l at g; n: how many lines were read -/
structure TabAt (w : World) (g : Nat) (l : Bs) (n : Int) : Prop where
  fits : Fits l
  ex : ∃ vr vl x h, Blk w g 74 #[vr, vl, intV n] ∧ S3.RopeAt w vr x l h ∧ LsAt w vl l
theorem TabAt.kept {w w' : World} {g : Nat} {l : Bs} {n : Int} (h : TabAt w g l n) (hf : Fr w w' (fun _ => False)) : TabAt w' g l n := by
  obtain ⟨vr, vl, x, k, h1, h2, h3⟩ := h.ex
  refine ⟨h.fits, vr, vl, x, k, hf.blk h1 (fun h => h), h2.keep hf, ?_⟩
  rcases h3 with h3 | ⟨b, e, hb⟩
  · exact .inl h3
  · exact .inr ⟨b, e, hf.blk hb (fun h => h)⟩
/-- a table, behind what turns another one -/
theorem TabAt.far {w w' : World} {g g' : Nat} {l : Bs} {n : Int} {cs : Array Value} (h : TabAt w g l n) (hf : Fr w w' (fun k => k = g')) (hb : Blk w g' 74 cs) (hne : g ≠ g') : TabAt w' g l n := by
  obtain ⟨vr, vl, x, k, h1, h2, h3⟩ := h.ex
  refine ⟨h.fits, vr, vl, x, k, hf.blk h1 hne, h2.far hf (fun k cs hk e => ?_) (fun k cs hk e => ?_), ?_⟩
  · subst e
    exact absurd (blk_same hk hb) (by decide)
  · subst e
    exact absurd (blk_same hk hb) (by decide)
  · rcases h3 with h3 | ⟨b, e, hl⟩
    · exact .inl h3
    · exact .inr ⟨b, e, hf.blk hl (fun e => by subst e; exact absurd (blk_same hl hb) (by decide))⟩
theorem TabAt.blk {w : World} {g : Nat} {l : Bs} {n : Int} (h : TabAt w g l n) : ∃ cs, Blk w g 74 cs := by
  obtain ⟨vr, vl, x, k, h1, -⟩ := h.ex
  exact ⟨_, h1⟩
theorem tab_zero (w : World) : TabAt (w.alloc (.cells #[.pointer none, .slice none 0 0, intV 0] 74)) w.heap.size [] 0 :=
  ⟨by decide, _, _, _, _, Blk.made w 74 _, S3.RopeAt.nil _, .inl ⟨rfl, rfl⟩⟩
theorem says_nil : saysD [] = [lineZ] := by
  have h : parseL [] = lineZ := by decide +kernel
  show [parseL (stripR [])] = _
  rw [show stripR [] = [] from rfl, h]
theorem says_none : saysC [] = lineC lineZ := by
  unfold saysC
  rw [says_nil]
  rfl
theorem eq_nil_tab (w : World) (g : Nat) : (binOp .eql 25 (pT g) (.pointer none)).run Tryz.prog w = .ok (.bool false) w := by kernel_rfl
theorem eql_lines : ∀ (w : World) (a : Option Addr) (n c n' c' : Nat), (binOp .eql 31 (.slice a n c) (.slice none n' c')).run Tryz.prog w = .ok (.bool a.isNone) w := fun w a n c n' c' => Lib.run_eql_slice_nil w _ _ a n c n' c' Tryz.underlying31
/-- what kept answers -/
def KeptR (w : World) (l : Bs) (e : Ending) (w' : World) : Prop := ∃ b, e = .returned (.slice (some ⟨b, 0, none⟩) (feeds l + 1) (feeds l + 1)) ∧ Blk w' b 71 (saysC l) ∧ Fr w w' (fun _ => False)
set_option maxRecDepth 100000 in
theorem linesZ_made (w : World) : ∃ w', (Instr.makeSlice 31 (intV 1) (intV 1)).run Tryz.prog w = .ok (.slice (some ⟨w.heap.size, 0, none⟩) 1 1) w' ∧ Blk w' w.heap.size 71 (saysC []) ∧ Fr w w' (fun _ => False) := by
  obtain ⟨i0, hi0, hz0, hz1, hz2⟩ := info_parts infoLine
  obtain ⟨wM, hrun, hownM, hgM⟩ := run_make_full (P := Tryz.prog) w 0 31 71 i0 _ 29 Tryz.underlying31 hi0 hz0 hz1 .i64 .i64 1 (by rw [hz2]; omega) (by simp only [maxLen]; omega) (Nat.zero_le _)
  have hfM : Fr w wM (fun _ => False) := (Fr.ofGrown hgM).mono (fun i _ h => by cases h)
  refine ⟨wM, hrun, ?_, hfM⟩
  rcases hownM.2 with ⟨h', -⟩ | ⟨g', cap', cur, h', hb, hg, hnc, hcm, hcs, ht⟩
  · simp at h'
  · injection h' with h1 h2 h3
    injection h1 with h1
    injection h1 with h1
    subst h1 h3
    rw [List.take_of_length_le (by rw [Array.length_toList, hcs]; exact Nat.le_refl _)] at ht
    rw [says_none]
    have e1 : (Value.agg (lineC lineZ)).cells = lineC lineZ := rfl
    rw [e1, made_lines, show List.replicate 1 lineZ = [lineZ] from rfl, List.flatMap_singleton] at ht
    have : cur = lineC lineZ := Array.toList_inj.1 ht
    rw [← this]
    exact hg
set_option maxRecDepth 100000 in
theorem kept_any {w : World} {g : Nat} {l : Bs} {n : Int} (h : TabAt w g l n) : Calls Tryz.prog 27 #[pT g] w (KeptR w l) := by
  obtain ⟨vr, vl, x, k, h1, h2, h3⟩ := h.ex
  have hne := fun w => eq_nil_tab w g
  have hq := eql_lines
  have c1 := blkc h1 1 _ rfl
  rcases h3 with ⟨rfl, rfl⟩ | ⟨b, rfl, hb⟩
  · obtain ⟨wM, hrun, hbM, hfM⟩ := linesZ_made w
    have HB := Lib.hid hbM
    have HF := Lib.hid hfM
    clear h h1 h2 hbM hfM
    go_enter Tryz.func27, Tryz.ntmps27
    go_wp2_with fail
    go_ret
    exact ⟨_, rfl, HB.out, HF.out⟩
  · have HB := Lib.hid hb
    clear h h1 h2 hb
    go_enter Tryz.func27, Tryz.ntmps27
    go_wp2_with fail
    go_ret
    exact ⟨_, rfl, HB.out, Fr.refl _ _⟩
end Go.Proofs.YtodcnbejnchmhaaGreatDoor
namespace Go.Proofs.YtodcnbejnchmhaaGreatDoor
open Go.Rope hiding Bs
open Go.RowKit Go.Mem Go.Lin Go.Dcm

/-- the first i of them said -/
def saD (L : List Bs) (i : Nat) : List LineL := (L.take i).map sayD ++ List.replicate (L.length - i) lineZ
theorem sa_len (L : List Bs) (i : Nat) (h : i ≤ L.length) : (saD L i).length = L.length := by
  unfold saD
  rw [List.length_append, List.length_map, List.length_take, List.length_replicate]
  omega
theorem sa_all (L : List Bs) : saD L L.length = L.map sayD := by simp [saD]
theorem sa_none (L : List Bs) : saD L 0 = List.replicate L.length lineZ := by simp [saD]
theorem sa_step (L : List Bs) (i : Nat) (h : i < L.length) : setMany ((saD L i).flatMap lineL).toArray (i * 29) (lineC (sayD L[i])).toList = ((saD L (i + 1)).flatMap lineL).toArray := by
  have e1 : saD L i = (L.take i).map sayD ++ lineZ :: List.replicate (L.length - (i + 1)) lineZ := by
    unfold saD
    rw [show L.length - i = (L.length - (i + 1)) + 1 by omega, List.replicate_succ]
  have e2 : saD L (i + 1) = (L.take i).map sayD ++ sayD L[i] :: List.replicate (L.length - (i + 1)) lineZ := by
    unfold saD
    rw [List.take_succ_eq_append_getElem h, List.map_append, List.append_assoc]
    rfl
  have := many_flat lineL 29 lineL_len ((L.take i).map sayD) lineZ (sayD L[i]) (List.replicate (L.length - (i + 1)) lineZ)
  rw [List.length_map, List.length_take, Nat.min_eq_left (Nat.le_of_lt h)] at this
  rw [e1, e2]
  exact this
set_option maxRecDepth 100000 in
/-- rows of zero lines -/
theorem lines_made (w : World) (n : Nat) (hn : n ≤ 100000) : ∃ w', (Instr.makeSlice 31 (intV n) (intV n)).run Tryz.prog w = .ok (.slice (some ⟨w.heap.size, 0, none⟩) n n) w' ∧ Blk w' w.heap.size 71 ((List.replicate n lineZ).flatMap lineL).toArray ∧ Fr w w' (fun _ => False) := by
  obtain ⟨i0, hi0, hz0, hz1, hz2⟩ := info_parts infoLine
  obtain ⟨wM, hrun, hownM, hgM⟩ := run_make_full (P := Tryz.prog) w 0 31 71 i0 _ 29 Tryz.underlying31 hi0 hz0 hz1 .i64 .i64 n (by rw [hz2]; omega) (by simp only [maxLen]; omega) (Nat.zero_le _)
  have hfM : Fr w wM (fun _ => False) := (Fr.ofGrown hgM).mono (fun i _ h => by cases h)
  refine ⟨wM, hrun, ?_, hfM⟩
  rcases hownM.2 with ⟨h', -⟩ | ⟨g', cap', cur, h', hb, hg, hnc, hcm, hcs, ht⟩
  · simp at h'
  · injection h' with h1 h2 h3
    injection h1 with h1
    injection h1 with h1
    subst h1 h3
    rw [List.take_of_length_le (by rw [Array.length_toList, hcs]; exact Nat.le_refl _)] at ht
    have e : (Value.agg (lineC lineZ)).cells = lineC lineZ := rfl
    rw [e, made_lines] at ht
    rw [← ht]
    exact hg
/-- what the lines from i on of the rope's text are -/
def From (t : Bs) (i : Nat) (L : List Bs) : Prop := ∀ k, k < L.length → i + k ≤ feeds t ∧ L[k]? = some (cut t (behind t (i + k)) (endOf t (i + k)))
def SayI (w : World) (L : List Bs) (q : Nat) (k : Nat) (v : Value) (wr : World) : Prop := ∃ i : Nat, i + k = L.length ∧ v = intV (i : Int) ∧ Blk wr q 71 ((saD L i).flatMap lineL).toArray ∧ w.heap.size ≤ q ∧ Fr w wr (fun _ => False)
set_option maxRecDepth 100000 in
set_option maxHeartbeats 3200000 in
theorem say_any {w : World} {v x : Value} {t : Bs} {h : Nat} (r : S3.RopeAt w v x t h) (ht : t.length ≤ 20000) (hw : LOk w) (i m : Nat) (L : List Bs) (hL : L.length = m) (hm : m ≤ 30000) (hl : From t i L) :
    Calls Tryz.prog 33 #[lineF v, intV i, intV m] w fun e w' => ∃ q, e = .returned (.slice (some ⟨q, 0, none⟩) m m) ∧ Blk w' q 71 ((L.map sayD).flatMap lineL).toArray ∧ Fr w w' (fun _ => False) := by
  subst hL
  obtain ⟨wM, hrun, hbM, hfM⟩ := lines_made w L.length (by omega)
  have HI := Lib.hid (show SayI w L w.heap.size L.length (intV 0) wM from ⟨0, by simp, rfl, by rw [sa_none]; exact hbM, Nat.le_refl _, hfM⟩)
  have HW := Lib.hid (fun (W : World) (f : Fr w W (fun _ => False)) => hw.fr f)
  have HR := Lib.hid (fun (W : World) (f : Fr w W (fun _ => False)) (k : Nat) (hk : k ≤ feeds t) => S3.Line_any (r.keep f) ht (k : Int) (cut t (behind t k) (endOf t k)) 0 (by unfold S3.lineD; rw [if_pos ⟨by omega, by omega⟩, Int.toNat_natCast]))
  have HL := Lib.hid hl
  have hft := feeds_le t
  clear r hw hl hbM hfM
  go_enter Tryz.func33, Tryz.ntmps33
  go_wp2_with fail
  go_loopg [8, 9, 10, 15] L.length (fun k _ _ _ v15 wr => SayI w L w.heap.size k v15 wr)
  case atStart => exact HI.out
  case round =>
    obtain ⟨k, hik, rfl, hb, hq, hf⟩ := hrel
    have HB := Lib.hid hb
    have HF := Lib.hid hf
    by_cases hlt : k < L.length
    · obtain ⟨hk1, hk2⟩ := HL.out k hlt
      rw [List.getElem?_eq_getElem hlt] at hk2
      have hk2 := Option.some.inj hk2
      have HLn := Lib.hid (HR.out wr hf (i + k) hk1)
      have hf0 := line_feeds hk1
      have hle : (cut t (behind t (i + k)) (endOf t (i + k))).length ≤ 20000 := by
        have := endOf_le t (i + k)
        rw [Go.Rope.cut_eq, List.length_take, List.length_drop]
        omega
      rw [← hk2] at HLn hf0 hle
      have HU := Lib.hid (sa_step L k hlt)
      have hi1 : (k : Int) < (L.length : Int) := by omega
      obtain ⟨y, hy⟩ : ∃ y, L[k] = y := ⟨_, rfl⟩
      rw [hy] at HLn hf0 hle HU
      obtain ⟨z, hz⟩ : ∃ z, sayD y = z := ⟨_, rfl⟩
      rw [hz] at HU
      have hal := lineD_alone hf0
      have hsl := strip_le y
      have HD := Lib.hid (fun (W : World) (f : Fr w W (fun _ => False)) => dLines_any y W (HW.out W f).kwd (by omega))
      rw [hal] at HD
      obtain ⟨y2, hy2⟩ : ∃ y2, stripR y = y2 := ⟨_, rfl⟩
      have hz2 : parseL y2 = z := by rw [← hy2]; exact hz
      rw [hy2] at HD hsl
      have HP := Lib.hid (fun (W : World) (f : Fr w W (fun _ => False)) => parse_holds y2 z W (HW.out W f) (by omega) hz2)
      have hsz : k * 29 + 29 ≤ ((saD L k).flatMap lineL).toArray.size := by
        rw [List.size_toArray, flat_len lineL 29 lineL_len, sa_len L k (by omega)]
        omega
      obtain ⟨C1, hC1⟩ : ∃ C, ((saD L k).flatMap lineL).toArray = C := ⟨_, rfl⟩
      obtain ⟨C2, hC2⟩ : ∃ C, ((saD L (k + 1)).flatMap lineL).toArray = C := ⟨_, rfl⟩
      rw [hC1] at HB hsz
      rw [hC1, hC2] at HU
      have HC2 := Lib.hid hC2
      have hk3 : (i : Int) + (k : Int) ≤ 20000 := by omega
      have hk4 : ((i + k : Nat) : Int) = (i : Int) + (k : Int) := by omega
      rw [hk4] at HLn
      clear hb hf hk1 hk2 hy hz hal hy2 hz2 hC1 hC2 hf0 hk4
      go_wp2_with fail
      refine HLn.out.mono ?_
      rintro e w3 ⟨rfl, hf3⟩
      have HB3 := Lib.hid (hf3.blk HB.out (fun h => h))
      have HF3 := Lib.hid (ff0 HF.out hf3)
      have HD3 := Lib.hid (HD.out w3 (ff0 HF.out hf3))
      clear hf3
      go_wp2_with fail
      refine HD3.out.mono ?_
      rintro e w4 ⟨bs, cs, rfl, hbs, ho, hf4⟩
      have c1 := (str_at ho rfl (i := 0) rfl).1
      have HB4 := Lib.hid (hf4.blk HB3.out (fun h => h))
      have HF4 := Lib.hid (ff0 HF3.out hf4)
      have HP4 := Lib.hid (HP.out w4 (ff0 HF3.out hf4))
      clear hf4 ho
      go_wp2_with fail
      refine HP4.out.mono ?_
      rintro e w5 ⟨rfl, hf5⟩
      have HB5 := Lib.hid (hf5.blk HB4.out (fun h => h))
      have HF5 := Lib.hid (ff0 HF4.out hf5)
      clear hf5
      go_wp2_with (refine wpList_store_blk 71 _ _ w.heap.size (k * 29) 71 C1 (lineC z) C2 (by rfl) rfl rfl rfl rfl HB5.out (infoL _) (lineC_one _) hsz HU.out ?_
                   intro w9 hf9 hb9
                   have HB9 := Lib.hid hb9
                   have HF9 := Lib.hid hf9
                   clear hf9 hb9)
      go_roundg (gk - 1)
      case measure => omega
      case rel =>
        exact ⟨k + 1, by omega, by go_num, by rw [HC2.out]; exact HB9.out, Nat.le_refl _, HF5.out.fresh HF9.out (fun i e => by have e : i = w.heap.size := e; omega)⟩
    · obtain rfl : k = L.length := by omega
      rw [sa_all] at HB
      have hi1 : (L.length : Int) ≤ (L.length : Int) := Int.le_refl _
      clear hb hf
      go_wp2_with fail
      go_ret
      exact ⟨_, rfl, HB.out, HF.out⟩
end Go.Proofs.YtodcnbejnchmhaaGreatDoor
