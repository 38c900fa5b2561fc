import Derived.Test.YtgcheollgnhdlaaGreatDoorLin2
import Derived.Test.YtgcheollgnhdlaaGreatDoorLbw
namespace Go.Lxr
theorem field_text : ∀ (l : Bs) (p : Nat) (t r : Bs), fieldD p l = .ok (t, r) → t.length + r.length ≤ l.length := by
  refine field_ind ?_ ?_ ?_ ?_ ?_
  · intro p t r h
    rw [field_nil] at h
    injection h with h
    injection h with h1 h2
    subst h1 h2
    simp
  · intro p c l hs t r h
    rw [field_stop hs] at h
    injection h with h
    injection h with h1 h2
    subst h1 h2
    simp
  · intro p l hq t r h
    rw [field_none hq] at h
    cases h
  · intro p q l l' hq ih t r h
    rw [field_some hq] at h
    cases hf : fieldD (p + q.length + 2) l' with
    | error k => rw [hf] at h; cases h
    | ok x =>
      rw [hf] at h
      injection h with h
      injection h with h1 h2
      subst h1 h2
      have := ih x.1 x.2 hf
      rw [(quote_is hq).1]
      simp
      omega
  · intro p c l hs hc ih t r h
    rw [field_one hs hc] at h
    cases hf : fieldD (p + 1) l with
    | error k => rw [hf] at h; cases h
    | ok x =>
      rw [hf] at h
      injection h with h
      injection h with h1 h2
      subst h1 h2
      have := ih x.1 x.2 hf
      simp
      omega
theorem fields_text : ∀ (l : Bs) (p : Nat) (fs : List (Bs × Nat)), fieldsD p l = .ok fs → ∀ x ∈ fs, x.1.length ≤ l.length := by
  refine fields_ind ?_ ?_ ?_ ?_ ?_
  · intro p fs h
    rw [fields_nil] at h
    injection h with h
    subst h
    intro x hx
    cases hx
  · intro p r fs h
    rw [fields_note] at h
    injection h with h
    subst h
    intro x hx
    cases hx
  · intro p c r hw ih fs h
    rw [fields_white hw] at h
    intro x hx
    have := ih fs h x hx
    simp
    omega
  · intro p c r k hs hf fs h
    rw [fields_bad hs p k r hf] at h
    cases h
  · intro p c r t r' hs hf hlt ih fs h
    rw [fields_one hs p r t r' hf] at h
    cases hg : fieldsD (p + ((c :: r).length - r'.length)) r' with
    | error j => rw [hg] at h; cases h
    | ok y =>
      rw [hg] at h
      injection h with h
      subst h
      intro x hx
      rcases List.mem_cons.1 hx with e | e
      · subst e
        have := field_text _ _ _ _ hf
        show t.length ≤ _
        omega
      · have := ih y hg x e
        omega
end Go.Lxr
namespace Go.Proofs.YtgcheollgnhdlaaGreatDoor
open Go.RowKit Go.Mem Go.Lin

theorem fieldsO_text (l : Bs) : ∀ x ∈ (S7.fieldsO l).1, x.1.length ≤ 200 := by
  unfold S7.fieldsO
  split
  · intro x hx; cases hx
  · split
    · intro x hx; cases hx
    · rename_i fs hf
      intro x hx
      have := Go.Lxr.fields_text l 0 fs hf x hx
      omega
/-- what Show answers without an error is read as the same fields -/
theorem show_fields {ls : List Bs} {t : Bs} (h : Go.Lxr.showD ls = (t, 0)) : t.length ≤ 200 ∧ ∃ fs, S7.fieldsO t = (fs, 0, 0) ∧ fs.map (·.1) = ls := by
  unfold Go.Lxr.showD at h
  split at h
  · exact absurd (congrArg Prod.snd h) (show ¬ (1 : Int) = 0 by decide)
  · rename_i hno
    split at h
    · exact absurd (congrArg Prod.snd h) (show ¬ (17 : Int) = 0 by decide)
    · rename_i hl
      injection h with h1 h2
      subst h1
      refine ⟨by omega, ?_⟩
      obtain ⟨fs, hf, hm⟩ := Go.Lxr.fields_show ls 0 (fun s hs e => hno (List.any_eq_true.2 ⟨s, hs, by simpa using e⟩))
      exact ⟨fs, fields_of hf (by omega), hm⟩
theorem cut_eq {fs gs : List FPair} {s t : Bs} (h1 : S7.fieldsO s = (fs, 0, 0)) (h2 : S7.fieldsO t = (gs, 0, 0)) (h : fs.map (·.1) = gs.map (·.1)) : ({ parseL s with col := 0 } : LineL) = { parseL t with col := 0 } := by
  unfold parseL
  rw [h1, h2, if_neg (by simp), if_neg (by simp)]
  exact line_fields h
theorem put_col (l : LineL) : (lineC l).setIfInBounds 28 (intV 0) = lineC { l with col := 0 } := rfl
set_option maxHeartbeats 1600000 in
theorem fields_long (hP : ParseC) (hS : ShowC) (s : Bs) (w : World) (hw : LOk w) (hl : 1000 < s.length) : Calls Tryz.prog 5 #[strV s] w fun e w' => e = .returned (.bool true) ∧ Fr w w' (fun _ => False) := by
  have HA := Lib.hid (alive_any hP hS w hw)
  have h2 : (1000 : Int) < (s.length : Int) := by omega
  clear hP hS hw hl
  go_enter Tryz.func5, Tryz.ntmps5
  go_wp2_with fail
  refine HA.out.mono ?_
  rintro e w2 ⟨rfl, hf⟩
  have HF := Lib.hid hf
  clear hf
  go_wp2_with fail
  go_ret
  exact ⟨rfl, HF.out⟩
theorem Fields_list (l : Bs) (w : World) (hz : l.length ≤ 1000000) : Calls Tryz.prog 12 #[strV l] w (S7.FOut (S7.fieldsO l) w) := S7.Fields_any ⟨l.toArray⟩ w (by rw [str_size]; exact hz)
set_option maxRecDepth 100000 in
set_option maxHeartbeats 1600000 in
theorem fields_wrong (hP : ParseC) (hS : ShowC) (s : Bs) (fs : List FPair) (k c : Int) (hk : k ≠ 0) (w : World) (hw : LOk w) (hl : s.length ≤ 1000) (h : S7.fieldsO s = (fs, c, k)) : Calls Tryz.prog 5 #[strV s] w fun e w' => e = .returned (.bool true) ∧ Fr w w' (fun _ => False) := by
  have HX := Lib.hid (Fields_list s w (by omega))
  rw [h] at HX
  have hx : parseL s = wrongL k c := by
    unfold parseL
    rw [h, if_pos hk]
  have H1 := Lib.hid (fun W (f : Fr w W (fun _ => False)) => hP s _ W (hw.fr f) hl hx)
  have HA := Lib.hid (fun W (f : Fr w W (fun _ => False)) => alive_any hP hS W (hw.fr f))
  have h2 : (s.length : Int) ≤ 1000 := by omega
  have hk0 : (k == 0) = false := by simpa using hk
  have hk1 : (k != 0) = true := by simpa using hk
  have q0 : (wrongL k c).kind = 5 := rfl
  have q1 : (wrongL k c).err = k := rfl
  generalize wrongL k c = x at H1 q0 q1
  clear hP hS hw hl h hx
  go_enter Tryz.func5, Tryz.ntmps5
  go_wp2_with fail
  refine HX.out.mono ?_
  rintro e0 w1 ⟨A, cp, rfl, -, hf1⟩
  have HF1 := Lib.hid hf1
  clear hf1
  go_wp2_with fail
  refine (H1.out _ HF1.out).mono ?_
  rintro e0 w2 ⟨rfl, hf2⟩
  have HF2 := Lib.hid (ff (ff HF1.out hf2) (Fr.new w2 (.cells (lineC lineZ) 34) (fun _ => False)))
  have hge2 := (ff HF1.out hf2).size
  clear hf2
  go_wp2_with (refine wpList_store_blk 34 _ _ w2.heap.size 0 34 (lineC lineZ) (lineC x) (lineC x) (by rfl) rfl rfl rfl rfl (Blk.made w2 34 (lineC lineZ)) (infoL _) (lineC_one _) (show 0 + 29 ≤ 29 by decide) (put_line _ _) ?_
               intro w3 hf3 hb3
               have HF3 := Lib.hid (fr_fresh HF2.out hf3 hge2)
               have c0 : w3.cell? ⟨w2.heap.size, 0, none⟩ = some (intV 5) := by rw [← q0]; exact cell_at hb3 0
               have c27 : w3.cell? ⟨w2.heap.size, 27, none⟩ = some (intV k) := by rw [← q1]; exact cell_at hb3 27
               clear hf3 hb3 hge2)
  refine (HA.out _ HF3.out).mono ?_
  rintro e0 w9 ⟨rfl, hf9⟩
  have HF9 := Lib.hid (ff HF3.out hf9)
  clear hf9
  go_wp2_with fail
  go_ret
  exact ⟨rfl, HF9.out⟩
def WInv (w : World) (ls : List Bs) (n g : Nat) (v7 v8 : Value) (wr : World) : Prop :=
  ∃ k : Nat, k + g = n ∧ v8 = .int .i64 (k : Int) ∧ wr.ownsRow w.heap.size 9 1 v7 k ((ls.take k).map strV) ∧ Fr w wr (fun _ => False)
end Go.Proofs.YtgcheollgnhdlaaGreatDoor
