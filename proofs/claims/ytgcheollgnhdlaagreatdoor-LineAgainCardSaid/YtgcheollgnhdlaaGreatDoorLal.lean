import Derived.Test.YtgcheollgnhdlaaGreatDoorLco
import Derived.Test.YtgcheollgnhdlaaGreatDoorPut
import Derived.Great.BuildSlice
import Derived.Deep.WholeRow
namespace Go.Proofs.YtgcheollgnhdlaaGreatDoor
open Go.RowKit Go.Mem Go.Lin

theorem bad_at {l : Bs} {k : Nat} (h : Go.Lxr.fieldsD 0 l = .error k) : k < l.length := by
  have := (Go.Lxr.fields_bad_at l 0 k h).2
  exact (List.getElem?_eq_some_iff.1 this).1
theorem rise_lt {l : Bs} : ∀ {fs : List FPair}, Go.Lxr.Rises 0 l fs → ∀ y ∈ fs, y.2 < l.length
  | [], _, _, hy => by cases hy
  | x :: r, ⟨_, ⟨c, h2, _⟩, _, h5⟩, y, hy => by
    rcases List.mem_cons.1 hy with e | e
    · rw [e]
      exact (List.getElem?_eq_some_iff.1 h2).1
    · exact rise_lt h5 y e
/-- a wrong line's kind and place -/
theorem parse_wrong {l : Bs} (h : ¬ lineOk (parseL l)) : ∃ k c, parseL l = wrongL k c ∧ k ≠ 0 ∧ 0 ≤ c ∧ c ≤ (l.length : Int) := by
  unfold parseL at *
  split
  · rename_i hk
    refine ⟨_, _, rfl, hk, ?_⟩
    unfold S7.fieldsO
    split
    · exact ⟨by decide, by show (0 : Int) ≤ _; omega⟩
    · split
      · rename_i k hf
        have := bad_at hf
        exact ⟨by show (0 : Int) ≤ (k : Int); omega, by show (k : Int) ≤ _; omega⟩
      · exact ⟨by show (0 : Int) ≤ 0; omega, by show (0 : Int) ≤ _; omega⟩
  · rename_i hk
    rw [if_neg hk] at h
    rcases line_right (S7.fieldsO l).1 with h1 | ⟨k, c, h1, hk0, i, rfl⟩
    · exact absurd h1 h
    · refine ⟨_, _, h1, hk0, ?_⟩
      have hc : ∀ fs : List FPair, Go.Lxr.Rises 0 l fs → 0 ≤ colOf fs i ∧ colOf fs i ≤ (l.length : Int) := by
        intro fs hr
        unfold colOf
        rw [List.getD_eq_getElem?_getD]
        cases hx : fs[i]? with
        | none => exact ⟨by decide, by show (0 : Int) ≤ _; omega⟩
        | some x =>
          have := rise_lt hr x (List.mem_of_getElem? hx)
          exact ⟨by show (0 : Int) ≤ (x.2 : Int); omega, by show (x.2 : Int) ≤ _; omega⟩
      refine hc _ ?_
      unfold S7.fieldsO
      split
      · exact trivial
      · split
        · exact trivial
        · rename_i fs hf
          exact Go.Lxr.fields_rise l 0 fs hf
def aliveF : List Bs := [[114, 117], [69, 85], [49, 57, 56, 49], [109, 97, 120], [45], [109, 97, 114], [108, 97, 115, 116, 83, 117, 110], [49, 58, 48, 48, 117], [49, 58, 48, 48], [83]]
def aliveR : RuleL := ⟨[69, 85], 1981, 10000, 3, ⟨1, 0, 0⟩, ⟨3600, 2⟩, 3600, [83]⟩
def aliveL : LineL := { lineZ with kind := 1, rule := aliveR }
theorem alive_rule : ruleP aliveF = .ok aliveR := by
  have h1 : Go.Kwd.ruleD [69, 85] = true := by decide +kernel
  have h2 : fromP [49, 57, 56, 49] = some 1981 := by decide +kernel
  have h3 : toP [109, 97, 120] 1981 = some 10000 := by decide +kernel
  have h4 : monthP [109, 97, 114] = some 3 := by decide +kernel
  have h5 : dayP [108, 97, 115, 116, 83, 117, 110] = some ⟨1, 0, 0⟩ := by
    have := day_text (d := ⟨1, 0, 0⟩) (by exact .inr (.inl ⟨rfl, rfl, by decide, by decide⟩))
    rw [show dayT ⟨1, 0, 0⟩ = [108, 97, 115, 116, 83, 117, 110] by decide +kernel] at this
    exact this
  have h6 : canB ⟨1, 0, 0⟩ 2000 3 = true := by decide +kernel
  have h7 : timeP [49, 58, 48, 48, 117] = some ⟨3600, 2⟩ := by decide +kernel
  have h8 : Go.Clk.amtD [49, 58, 48, 48] = some 3600 := by decide +kernel
  have h9 : letterP [83] = some [83] := by decide +kernel
  unfold ruleP aliveF
  simp only [gt, List.getD_cons_succ, List.getD_cons_zero, h1, h2, h3, h4, h5, h6, h7, h8, h9, req_some, chk_true, bind_ok, decide_true]
  rfl
theorem alive_parse : parseL [114, 117, 32, 69, 85, 32, 49, 57, 56, 49, 32, 109, 97, 120, 32, 45, 32, 109, 97, 114, 32, 108, 97, 115, 116, 83, 117, 110, 32, 49, 58, 48, 48, 117, 32, 49, 58, 48, 48, 32, 83] = aliveL := by
  have hp := Go.Lxr.fields_show aliveF 0 (by decide)
  rw [show Go.Lxr.joinL aliveF = [114, 117, 32, 69, 85, 32, 49, 57, 56, 49, 32, 109, 97, 120, 32, 45, 32, 109, 97, 114, 32, 108, 97, 115, 116, 83, 117, 110, 32, 49, 58, 48, 48, 117, 32, 49, 58, 48, 48, 32, 83] by decide +kernel] at hp
  obtain ⟨fs, h1, h2⟩ := hp
  unfold parseL
  rw [fields_of h1 (by decide), if_neg (by simp)]
  have hlen : fs.length = 10 := by rw [← List.length_map (·.1), h2]; rfl
  unfold lineP
  rw [h2, if_neg (fun e => by have e : fs = [] := e; rw [e] at hlen; cases hlen), show contB (gt aliveF 0) = false by decide +kernel, if_neg (by decide), show Go.Kwd.headD (gt aliveF 0) = 1 by decide +kernel, if_pos rfl, if_neg (by simp only [hlen]; decide), alive_rule]
  rfl
theorem alive_ok : lineOk aliveL := by
  have := parse_cases [114, 117, 32, 69, 85, 32, 49, 57, 56, 49, 32, 109, 97, 120, 32, 45, 32, 109, 97, 114, 32, 108, 97, 115, 116, 83, 117, 110, 32, 49, 58, 48, 48, 117, 32, 49, 58, 48, 48, 32, 83]
  rw [alive_parse] at this
  rcases this with h | ⟨k, c, h, -⟩
  · exact h
  · have := congrArg LineL.kind h
    exact absurd (show (1 : Int) = 5 from this) (by decide)
theorem alive_text : Go.Lxr.joinL (lineT aliveL) = [82, 117, 108, 101, 32, 69, 85, 32, 49, 57, 56, 49, 32, 109, 97, 120, 32, 45, 32, 77, 97, 114, 32, 108, 97, 115, 116, 83, 117, 110, 32, 49, 58, 48, 48, 117, 32, 49, 58, 48, 48, 32, 83] := by
  show Go.Lxr.joinL (ruleT aliveR) = _
  have h5 : dayT ⟨1, 0, 0⟩ = [108, 97, 115, 116, 83, 117, 110] := by decide +kernel
  have h1 : Go.Lib.itoa 1981 = [49, 57, 56, 49] := by decide +kernel
  have h6 : timeT ⟨3600, 2⟩ = [49, 58, 48, 48, 117] := by decide +kernel
  have h7 : Go.Clk.textL 3600 = [49, 58, 48, 48] := by decide +kernel
  show Go.Lxr.joinL [ruleW, [69, 85], Go.Lib.itoa 1981, [109, 97, 120], [45], Go.Kwd.showMonthD 3, dayT ⟨1, 0, 0⟩, timeT ⟨3600, 2⟩, Go.Clk.textL 3600, [83]] = _
  rw [h1, h5, h6, h7]
  decide +kernel
theorem alive_show : showL aliveL = ([82, 117, 108, 101, 32, 69, 85, 32, 49, 57, 56, 49, 32, 109, 97, 120, 32, 45, 32, 77, 97, 114, 32, 108, 97, 115, 116, 83, 117, 110, 32, 49, 58, 48, 48, 117, 32, 49, 58, 48, 48, 32, 83], 0) := by rw [show_right alive_ok, alive_text]
theorem lblk_cell {w w' : World} {l : LineL} (h : Fr (w.alloc (.cells (lineC l) 34)) w' (fun _ => False)) (i : Nat) : w'.cell? ⟨w.heap.size, i, none⟩ = (lineC l)[i]? := cell_at (h.blk (Blk.made w 34 (lineC l)) (fun h => h)) i
set_option maxHeartbeats 1600000 in
theorem alive_any (hP : ParseC) (hS : ShowC) (w : World) (hw : LOk w) : Calls Tryz.prog 8 #[] w fun e w' => e = .returned (.bool true) ∧ Fr w w' (fun _ => False) := by
  have H1 := Lib.hid (hP [114, 117, 32, 69, 85, 32, 49, 57, 56, 49, 32, 109, 97, 120, 32, 45, 32, 109, 97, 114, 32, 108, 97, 115, 116, 83, 117, 110, 32, 49, 58, 48, 48, 117, 32, 49, 58, 48, 48, 32, 83] _ w hw (by decide) alive_parse)
  have H2 := Lib.hid (fun W (f : Fr w W (fun _ => False)) => hS aliveL _ _ W (hw.fr f) (fit_mk (by decide) (by decide) (by decide) (by decide) (by decide) (by decide) (in_small (by decide)) in_zero) alive_show)
  have k1 : aliveL.kind = 1 := rfl
  have k2 : aliveL.rule.save = 3600 := rfl
  generalize aliveL = l at H1 H2 k1 k2
  clear hw hP hS
  go_enter Tryz.func8, Tryz.ntmps8
  go_wp2_with fail
  refine H1.out.mono ?_
  rintro e w2 ⟨rfl, hf2⟩
  have HF2 := Lib.hid hf2
  have HA := Lib.hid (ff hf2 (Fr.new w2 (.cells (lineC l) 34) (fun _ => False)))
  clear hf2
  go_wp2_with (first | (refine wpList_store_rowTo rfl 34 _ _ rfl rfl w2.heap.size (lineC l) rfl rfl 34 (lineC lineZ) (heap_alloc_last w2 _) (infoL l) rfl (lineC_one l) ?_; rw [World.setRow_alloc_new]) | (refine wpList_load_row rfl 34 _ rfl w2.heap.size rfl 34 (lineC l) (0, 0) _ (heap_alloc_last w2 _) Tryz.underlying34 rfl (infoL l) ?_))
  refine (H2.out _ HA.out).mono ?_
  rintro e w3 ⟨rfl, hf3⟩
  have c0 := lblk_cell hf3 0
  have c10 := lblk_cell hf3 10
  rw [show (lineC l)[0]? = some (intV l.kind) from rfl, k1] at c0
  rw [show (lineC l)[10]? = some (intV l.rule.save) from rfl, k2] at c10
  have HF3 := Lib.hid (ff HA.out hf3)
  clear hf3
  go_wp2_with fail
  go_ret
  exact ⟨rfl, HF3.out⟩
end Go.Proofs.YtgcheollgnhdlaaGreatDoor
