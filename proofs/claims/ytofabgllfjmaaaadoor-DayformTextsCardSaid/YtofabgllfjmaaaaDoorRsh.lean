import Derived.Test.YtofabgllfjmaaaaDoorRfr
import Derived.Deep.RegionWith
namespace Go.Proofs.YtofabgllfjmaaaaDoor
open Go.RowKit Go.Mem Go.Dfm

theorem rname_at {w : World} {b : Nat} (h : NamesAt w b) {n : Nat} (hn : n < 7) : w.cell? ⟨b, n, none⟩ = some (strV (nameI (n : Int))) := by
  have := cell_at h n
  rw [this]
  have hn' : n = 0 ∨ n = 1 ∨ n = 2 ∨ n = 3 ∨ n = 4 ∨ n = 5 ∨ n = 6 := by omega
  rcases hn' with rfl | rfl | rfl | rfl | rfl | rfl | rfl <;> rfl
theorem rint_is (d : Int) (h1 : 0 ≤ d) (h2 : d ≤ 31) (w : World) : Calls Tryd.prog 23 #[.int .i64 d] w fun e w' => e = .returned (strV (Lib.itoa d)) ∧ Fr w w' (fun _ => False) := by
  have h := rInt_any d d.toNat (by omega) (by omega) w
  have e : Lib.itoa d = Lib.decDigits d.toNat := by rw [Lib.itoa, if_neg (by omega)]
  rw [e]
  exact h
theorem rshow_bad (k d q : Int) (w : World) (h : rightB k d q = false) : Calls Tryd.prog 11 #[dayV k d q] w (ShowR [] 1 w) := by
  have HT := Lib.hid (fun W => rright_any k d q W)
  rw [h] at HT
  clear h
  go_enter Tryd.func11, Tryd.ntmps11
  go_wp2_with fail
  refine (HT.out _).mono ?_
  rintro e w2 ⟨rfl, hf2⟩
  have HF2 := Lib.hid (ff (Fr.new w _ _) hf2)
  clear hf2
  go_wp2_with fail
  go_ret2
  exact ⟨rfl, HF2.out⟩
set_option maxHeartbeats 1600000 in
theorem rshow_plain (d : Int) (w : World) (h : rightB 0 d 0 = true) (h1 : 1 ≤ d) (h2 : d ≤ 31) : Calls Tryd.prog 11 #[dayV 0 d 0] w (ShowR (Lib.itoa d) 0 w) := by
  have HT := Lib.hid (fun W => rright_any 0 d 0 W)
  rw [h] at HT
  have HB := Lib.hid (Blk.made w 23 #[.int .i64 0, .int .i64 d, .int .i64 0])
  have HI := Lib.hid (fun (W : World) => rint_is d (by omega) (by omega) W)
  have HNM := Lib.hid (fun (W : World) => rnames_any W)
  generalize Lib.itoa d = t at *
  clear h h1 h2
  go_enter Tryd.func11, Tryd.ntmps11
  go_wp2_with fail
  refine (HT.out _).mono ?_
  rintro e w2 ⟨rfl, hf2⟩
  have HF2 := Lib.hid (ff (Fr.new w _ _) hf2)
  have hb2 := hf2.blk HB.out (fun h => h)
  have c0 := cell_at hb2 0
  have c1 := cell_at hb2 1
  have c2 := cell_at hb2 2
  simp at c0 c1 c2
  have HB2 := Lib.hid hb2
  clear hf2 hb2
  go_wp2_with fail
  refine (HI.out _).mono ?_
  rintro e w3 ⟨rfl, hf3⟩
  have HF3 := Lib.hid (ff HF2.out hf3)
  have hb3 := hf3.blk HB2.out (fun h => h)
  have c0 := cell_at hb3 0
  have c1 := cell_at hb3 1
  have c2 := cell_at hb3 2
  simp at c0 c1 c2
  have HB3 := Lib.hid hb3
  clear hf3 hb3
  go_wp2_with fail
  go_ret2
  exact ⟨rfl, HF3.out⟩
set_option maxHeartbeats 1600000 in
theorem rshow_last (n : Nat) (w : World) (h : rightB 1 0 n = true) (hn : n < 7) : Calls Tryd.prog 11 #[dayV 1 0 n] w (ShowR (lastL ++ nameI n) 0 w) := by
  have HT := Lib.hid (fun W => rright_any 1 0 n W)
  rw [h] at HT
  have HB := Lib.hid (Blk.made w 23 #[.int .i64 1, .int .i64 0, .int .i64 n])
  have HI := Lib.hid (fun (W : World) => rint_is 0 (by omega) (by omega) W)
  have HNM := Lib.hid (fun (W : World) => rnames_any W)
  have hq0 : (0 : Int) ≤ (n : Int) := by omega
  have hq7 : (n : Int) < 7 := by omega
  have hl := name_len (w := (n : Int)) (by omega) (by omega)
  have HNA := Lib.hid (fun (W : World) (b : Nat) (h : NamesAt W b) => rname_at h hn)
  generalize nameI (n : Int) = t at *
  have ha := fun w => run_add_str (P := Tryd.prog) w lastL t (by simp; omega)
  simp only [List.cons_append, List.nil_append] at ha ⊢
  generalize Lib.itoa 0 = u at *
  clear h hl
  go_enter Tryd.func11, Tryd.ntmps11
  go_wp2_with fail
  refine (HT.out _).mono ?_
  rintro e w2 ⟨rfl, hf2⟩
  have HF2 := Lib.hid (ff (Fr.new w _ _) hf2)
  have hb2 := hf2.blk HB.out (fun h => h)
  have c0 := cell_at hb2 0
  have c1 := cell_at hb2 1
  have c2 := cell_at hb2 2
  simp at c0 c1 c2
  have HB2 := Lib.hid hb2
  clear hf2 hb2
  go_wp2_with fail
  refine (HI.out _).mono ?_
  rintro e w3 ⟨rfl, hf3⟩
  have HF3 := Lib.hid (ff HF2.out hf3)
  have hb3 := hf3.blk HB2.out (fun h => h)
  have c0 := cell_at hb3 0
  have c1 := cell_at hb3 1
  have c2 := cell_at hb3 2
  simp at c0 c1 c2
  have HB3 := Lib.hid hb3
  clear hf3 hb3
  go_wp2_with fail
  go_region_with ((go_at_call 24; refine (HNM.out _).mono ?_; rintro e w7 ⟨b7, rfl, hf7, hn7⟩; have hf8 := ff HF3.out (ff (Fr.drewN _ _ _) hf7); have hb7 := hf7.blk HB3.out (fun h => h); have d0 := cell_at hb7 0; have d1 := cell_at hb7 1; have d2 := cell_at hb7 2; simp at d0 d1 d2; have m7 := HNA.out w7 b7 hn7; have HF7 := Lib.hid hf8; clear hf7 hf8 hb7 hn7))
  all_goals
    go_wp2_with fail
    go_ret2
    exact ⟨rfl, HF7.out⟩
set_option maxHeartbeats 1600000 in
theorem rshow_from (d : Int) (n : Nat) (w : World) (h : rightB 2 d n = true) (hn : n < 7) (h1 : 1 ≤ d) (h2 : d ≤ 31) : Calls Tryd.prog 11 #[dayV 2 d n] w (ShowR (nameI n ++ [62, 61] ++ Lib.itoa d) 0 w) := by
  have HT := Lib.hid (fun W => rright_any 2 d n W)
  rw [h] at HT
  have HB := Lib.hid (Blk.made w 23 #[.int .i64 2, .int .i64 d, .int .i64 n])
  have HI := Lib.hid (fun (W : World) => rint_is d (by omega) (by omega) W)
  have HNM := Lib.hid (fun (W : World) => rnames_any W)
  have hq0 : (0 : Int) ≤ (n : Int) := by omega
  have hq7 : (n : Int) < 7 := by omega
  have hl := name_len (w := (n : Int)) (by omega) (by omega)
  have HNA := Lib.hid (fun (W : World) (b : Nat) (h : NamesAt W b) => rname_at h hn)
  have hd : (Lib.itoa d).length ≤ 2 := by
    rw [itoa_small h1 h2, decL]
    split <;> simp
  generalize nameI (n : Int) = t at *
  generalize Lib.itoa d = u at *
  have ha := fun w => run_add_str (P := Tryd.prog) w t [62, 61] (by simp; omega)
  have hc := fun w => run_add_str (P := Tryd.prog) w (t ++ [62, 61]) u (by simp; omega)
  simp only [List.append_assoc, List.cons_append, List.nil_append] at ha hc ⊢
  clear h hl hd h1 h2
  go_enter Tryd.func11, Tryd.ntmps11
  go_wp2_with fail
  refine (HT.out _).mono ?_
  rintro e w2 ⟨rfl, hf2⟩
  have HF2 := Lib.hid (ff (Fr.new w _ _) hf2)
  have hb2 := hf2.blk HB.out (fun h => h)
  have c0 := cell_at hb2 0
  have c1 := cell_at hb2 1
  have c2 := cell_at hb2 2
  simp at c0 c1 c2
  have HB2 := Lib.hid hb2
  clear hf2 hb2
  go_wp2_with fail
  refine (HI.out _).mono ?_
  rintro e w3 ⟨rfl, hf3⟩
  have HF3 := Lib.hid (ff HF2.out hf3)
  have hb3 := hf3.blk HB2.out (fun h => h)
  have c0 := cell_at hb3 0
  have c1 := cell_at hb3 1
  have c2 := cell_at hb3 2
  simp at c0 c1 c2
  have HB3 := Lib.hid hb3
  clear hf3 hb3
  go_wp2_with fail
  go_region_with ((go_at_call 24; refine (HNM.out _).mono ?_; rintro e w7 ⟨b7, rfl, hf7, hn7⟩; have hf8 := ff HF3.out (ff (Fr.drewN _ _ _) hf7); have hb7 := hf7.blk HB3.out (fun h => h); have d0 := cell_at hb7 0; have d1 := cell_at hb7 1; have d2 := cell_at hb7 2; simp at d0 d1 d2; have m7 := HNA.out w7 b7 hn7; have HF7 := Lib.hid hf8; clear hf7 hf8 hb7 hn7))
  all_goals
    go_wp2_with fail
    go_ret2
    exact ⟨rfl, HF7.out⟩
set_option maxHeartbeats 1600000 in
theorem rshow_upto (d : Int) (n : Nat) (w : World) (h : rightB 3 d n = true) (hn : n < 7) (h1 : 1 ≤ d) (h2 : d ≤ 31) : Calls Tryd.prog 11 #[dayV 3 d n] w (ShowR (nameI n ++ [60, 61] ++ Lib.itoa d) 0 w) := by
  have HT := Lib.hid (fun W => rright_any 3 d n W)
  rw [h] at HT
  have HB := Lib.hid (Blk.made w 23 #[.int .i64 3, .int .i64 d, .int .i64 n])
  have HI := Lib.hid (fun (W : World) => rint_is d (by omega) (by omega) W)
  have HNM := Lib.hid (fun (W : World) => rnames_any W)
  have hq0 : (0 : Int) ≤ (n : Int) := by omega
  have hq7 : (n : Int) < 7 := by omega
  have hl := name_len (w := (n : Int)) (by omega) (by omega)
  have HNA := Lib.hid (fun (W : World) (b : Nat) (h : NamesAt W b) => rname_at h hn)
  have hd : (Lib.itoa d).length ≤ 2 := by
    rw [itoa_small h1 h2, decL]
    split <;> simp
  generalize nameI (n : Int) = t at *
  generalize Lib.itoa d = u at *
  have ha := fun w => run_add_str (P := Tryd.prog) w t [60, 61] (by simp; omega)
  have hc := fun w => run_add_str (P := Tryd.prog) w (t ++ [60, 61]) u (by simp; omega)
  simp only [List.append_assoc, List.cons_append, List.nil_append] at ha hc ⊢
  clear h hl hd h1 h2
  go_enter Tryd.func11, Tryd.ntmps11
  go_wp2_with fail
  refine (HT.out _).mono ?_
  rintro e w2 ⟨rfl, hf2⟩
  have HF2 := Lib.hid (ff (Fr.new w _ _) hf2)
  have hb2 := hf2.blk HB.out (fun h => h)
  have c0 := cell_at hb2 0
  have c1 := cell_at hb2 1
  have c2 := cell_at hb2 2
  simp at c0 c1 c2
  have HB2 := Lib.hid hb2
  clear hf2 hb2
  go_wp2_with fail
  refine (HI.out _).mono ?_
  rintro e w3 ⟨rfl, hf3⟩
  have HF3 := Lib.hid (ff HF2.out hf3)
  have hb3 := hf3.blk HB2.out (fun h => h)
  have c0 := cell_at hb3 0
  have c1 := cell_at hb3 1
  have c2 := cell_at hb3 2
  simp at c0 c1 c2
  have HB3 := Lib.hid hb3
  clear hf3 hb3
  go_wp2_with fail
  go_region_with ((go_at_call 24; refine (HNM.out _).mono ?_; rintro e w7 ⟨b7, rfl, hf7, hn7⟩; have hf8 := ff HF3.out (ff (Fr.drewN _ _ _) hf7); have hb7 := hf7.blk HB3.out (fun h => h); have d0 := cell_at hb7 0; have d1 := cell_at hb7 1; have d2 := cell_at hb7 2; simp at d0 d1 d2; have m7 := HNA.out w7 b7 hn7; have HF7 := Lib.hid hf8; clear hf7 hf8 hb7 hn7))
  all_goals
    go_wp2_with fail
    go_ret2
    exact ⟨rfl, HF7.out⟩
theorem rShow_any (k d q : Int) (w : World) (t : Bs) (j : Int) (h : showD k d q = (t, j)) : Calls Tryd.prog 11 #[dayV k d q] w (ShowR t j w) := by
  unfold showD at h
  by_cases hr : rightB k d q = true
  · rw [if_pos hr] at h
    injection h with h1 h2
    subst h1 h2
    rcases rightB_iff.1 hr with ⟨rfl, a1, a2, rfl⟩ | ⟨rfl, rfl, a1, a2⟩ | ⟨hk, a1, a2, a3, a4⟩
    · exact rshow_plain d w hr a1 a2
    · obtain ⟨n, rfl⟩ : ∃ n : Nat, q = (n : Int) := ⟨q.toNat, by omega⟩
      exact rshow_last n w hr (by omega)
    · obtain ⟨n, rfl⟩ : ∃ n : Nat, q = (n : Int) := ⟨q.toNat, by omega⟩
      rcases hk with rfl | rfl
      · exact rshow_from d n w hr (by omega) a1 a2
      · exact rshow_upto d n w hr (by omega) a1 a2
  · rw [if_neg hr] at h
    injection h with h1 h2
    subst h1 h2
    exact rshow_bad k d q w (by simpa using hr)
end Go.Proofs.YtofabgllfjmaaaaDoor
