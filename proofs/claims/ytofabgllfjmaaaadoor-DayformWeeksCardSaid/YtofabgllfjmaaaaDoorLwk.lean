import Derived.Test.YtofabgllfjmaaaaDoorAli
namespace Go.Proofs.YtofabgllfjmaaaaDoor
open Go.RowKit Go.Mem Go.Dfm

theorem kq1 {w a b : World} {p1 o1 : Nat} {v1 : Value} (h : Fr w a (fun _ => False) ∧ a.cell? ⟨p1, o1, none⟩ = some v1) (hf : Fr a b (fun _ => False)) :
    Fr w b (fun _ => False) ∧ b.cell? ⟨p1, o1, none⟩ = some v1 := ⟨ff h.1 hf, hf.cell0 h.2⟩
set_option maxHeartbeats 1600000 in
theorem weeks_no (k d q y m j : Int) (w : World) (hw : WOk w) (h : ofD k d q y m = (0, j)) (hj : (j == 0) = false) : Calls Tryd.prog 5 #[dayV k d q, .int .i64 y, .int .i64 m] w fun e w' => e = .returned (.bool true) ∧ Fr w w' (fun _ => False) := by
  have HA := Lib.hid (fun W (f : Fr w W (fun _ => False)) => alive_any W (hw.fr f))
  have HO := Lib.hid (fun W (f : Fr w W (fun _ => False)) => Of_any k d q y m W (hw.fr f) 0 j h)
  have hj2 : (j != 0) = true := by simp [bne, hj]
  clear hw h
  go_enter Tryd.func5, Tryd.ntmps5
  go_wp2_with fail
  refine (HO.out _ (Fr.new _ _ _)).mono ?_
  rintro e w2 ⟨rfl, hf2⟩
  have HF2 := Lib.hid (ff (Fr.new w (dayC k d q) (fun _ => False)) hf2)
  clear hf2
  go_wp2_with fail
  refine (HA.out _ HF2.out).mono ?_
  rintro e w3 ⟨rfl, hf3⟩
  have HF3 := Lib.hid (ff HF2.out hf3)
  clear hf3
  go_wp2_with fail
  go_ret
  exact ⟨rfl, HF3.out⟩
set_option maxHeartbeats 3200000 in
theorem weeks_0 (d q y m n : Int) (w : World) (hw : WOk w) (h : ofD 0 d q y m = (n, 0)) (h1 : daysK y m d = n) (h2 : daysE y m d = 0) : Calls Tryd.prog 5 #[dayV 0 d q, .int .i64 y, .int .i64 m] w fun e w' => e = .returned (.bool true) ∧ Fr w w' (fun _ => False) := by
  have HA := Lib.hid (fun W (f : Fr w W (fun _ => False)) => alive_any W (hw.fr f))
  have HO := Lib.hid (fun W (f : Fr w W (fun _ => False)) => Of_any 0 d q y m W (hw.fr f) n 0 h)
  have HD := Lib.hid (fun W (f : Fr w W (fun _ => False)) => Days_any y m d W (hw.fr f).lok)
  rw [h1, h2] at HD
  clear hw h h1 h2
  go_enter Tryd.func5, Tryd.ntmps5
  go_wp2_with fail
  refine (HO.out _ (Fr.new _ _ _)).mono ?_
  rintro e w2 ⟨rfl, hf2⟩
  have HC2 := Lib.hid hf2
  have HF2 := Lib.hid (ff (Fr.new w (dayC 0 d q) (fun _ => False)) hf2)
  obtain ⟨c0, c1, c2⟩ := day_cells hf2
  clear hf2
  go_wp2_with fail
  refine (HD.out _ HF2.out).mono ?_
  rintro e w3 ⟨rfl, hf3⟩
  have HC3 := Lib.hid (ff HC2.out hf3)
  have HF3 := Lib.hid (ff HF2.out hf3)
  obtain ⟨c0, c1, c2⟩ := day_cells HC3.out
  clear hf3
  go_wp2_with fail
  refine (HA.out _ HF3.out).mono ?_
  rintro e w4 ⟨rfl, hf4⟩
  have HF4 := Lib.hid (ff HF3.out hf4)
  clear hf4
  go_wp2_with fail
  go_ret
  exact ⟨rfl, HF4.out⟩
set_option maxHeartbeats 3200000 in
theorem weeks_2 (d q y m n a : Int) (w : World) (hw : WOk w) (h : ofD 2 d q y m = (n, 0)) (h1 : daysK y m d = a) (h2 : daysE y m d = 0) (hr : -5000000 ≤ a ∧ a ≤ 5000000) (hq : (n + 4) % 7 = q) (g1 : a ≤ n) (g2 : n < a + 7) : Calls Tryd.prog 5 #[dayV 2 d q, .int .i64 y, .int .i64 m] w fun e w' => e = .returned (.bool true) ∧ Fr w w' (fun _ => False) := by
  have HA := Lib.hid (fun W (f : Fr w W (fun _ => False)) => alive_any W (hw.fr f))
  have HO := Lib.hid (fun W (f : Fr w W (fun _ => False)) => Of_any 2 d q y m W (hw.fr f) n 0 h)
  have HD := Lib.hid (fun W (f : Fr w W (fun _ => False)) => Days_any y m d W (hw.fr f).lok)
  rw [h1, h2] at HD
  have wz : IntKind.i64.wrap (n - a) = n - a := IntWalk.i64_in _ ⟨by omega, by omega⟩
  have HW := Lib.hid (fun W => (show Calls Tryd.prog 15 #[.int .i64 n] W fun e w' => e = .returned (.int .i64 q) ∧ Fr W w' (fun _ => False) from by
    rw [← hq]
    refine (Week_any n W (by unfold inRange; omega)).mono ?_
    rintro e w' ⟨rfl, rfl⟩
    exact ⟨rfl, Fr.drew _ _⟩))
  have i1 : a ≤ n := by omega
  have i2 : n - a < 7 := by omega
  have hqq : (q == q) = true := beq_self_eq_true q
  clear hw h h1 h2 hr hq g1 g2
  go_enter Tryd.func5, Tryd.ntmps5
  go_wp2_with fail
  refine (HO.out _ (Fr.new _ _ _)).mono ?_
  rintro e w2 ⟨rfl, hf2⟩
  have HC2 := Lib.hid hf2
  have HF2 := Lib.hid (ff (Fr.new w (dayC 2 d q) (fun _ => False)) hf2)
  obtain ⟨c0, c1, c2⟩ := day_cells hf2
  clear hf2
  go_wp2_with fail
  refine (HD.out _ HF2.out).mono ?_
  rintro e w3 ⟨rfl, hf3⟩
  have HC3 := Lib.hid (ff HC2.out hf3)
  have HF3 := Lib.hid (ff HF2.out hf3)
  obtain ⟨c0, c1, c2⟩ := day_cells HC3.out
  have base : Fr w w3 (fun _ => False) ∧ w3.cell? ⟨w.heap.size, 2, none⟩ = some (.int .i64 q) := ⟨HF3.out, c2⟩
  have BASE := Lib.hid base
  clear base
  clear hf3
  go_wp2_with fail
  go_region_held3 (fun w' => Fr w w' (fun _ => False) ∧ w'.cell? ⟨w.heap.size, 2, none⟩ = some (.int .i64 q))
    (first | with_reducible exact kq1 BASE.out (Fr.drew _ _) | with_reducible exact kq1 hS hf6 | with_reducible exact kq1 BASE.out hf6 | (rename_i hS _ _; with_reducible exact kq1 hS (Fr.drew _ _)) | with_reducible assumption)
    (first
      | (go_at_call 15; rename_i hS _ _; refine (HW.out _).mono ?_; rintro e w6 ⟨rfl, hf6⟩)
      | (go_at_call 7; rename_i hS _ _; refine (HA.out _ hS.1).mono ?_; rintro e w6 ⟨rfl, hf6⟩))
  rename_i hS
  have HS := Lib.hid hS.1
  clear hS
  go_wp2_with fail
  go_ret
  exact ⟨rfl, HS.out⟩
set_option maxHeartbeats 3200000 in
theorem weeks_3 (d q y m n a : Int) (w : World) (hw : WOk w) (h : ofD 3 d q y m = (n, 0)) (h1 : daysK y m d = a) (h2 : daysE y m d = 0) (hr : -5000000 ≤ a ∧ a ≤ 5000000) (hq : (n + 4) % 7 = q) (g1 : n ≤ a) (g2 : a < n + 7) : Calls Tryd.prog 5 #[dayV 3 d q, .int .i64 y, .int .i64 m] w fun e w' => e = .returned (.bool true) ∧ Fr w w' (fun _ => False) := by
  have HA := Lib.hid (fun W (f : Fr w W (fun _ => False)) => alive_any W (hw.fr f))
  have HO := Lib.hid (fun W (f : Fr w W (fun _ => False)) => Of_any 3 d q y m W (hw.fr f) n 0 h)
  have HD := Lib.hid (fun W (f : Fr w W (fun _ => False)) => Days_any y m d W (hw.fr f).lok)
  rw [h1, h2] at HD
  have wz : IntKind.i64.wrap (a - n) = a - n := IntWalk.i64_in _ ⟨by omega, by omega⟩
  have HW := Lib.hid (fun W => (show Calls Tryd.prog 15 #[.int .i64 n] W fun e w' => e = .returned (.int .i64 q) ∧ Fr W w' (fun _ => False) from by
    rw [← hq]
    refine (Week_any n W (by unfold inRange; omega)).mono ?_
    rintro e w' ⟨rfl, rfl⟩
    exact ⟨rfl, Fr.drew _ _⟩))
  have i1 : n ≤ a := by omega
  have i2 : a - n < 7 := by omega
  have hqq : (q == q) = true := beq_self_eq_true q
  clear hw h h1 h2 hr hq g1 g2
  go_enter Tryd.func5, Tryd.ntmps5
  go_wp2_with fail
  refine (HO.out _ (Fr.new _ _ _)).mono ?_
  rintro e w2 ⟨rfl, hf2⟩
  have HC2 := Lib.hid hf2
  have HF2 := Lib.hid (ff (Fr.new w (dayC 3 d q) (fun _ => False)) hf2)
  obtain ⟨c0, c1, c2⟩ := day_cells hf2
  clear hf2
  go_wp2_with fail
  refine (HD.out _ HF2.out).mono ?_
  rintro e w3 ⟨rfl, hf3⟩
  have HC3 := Lib.hid (ff HC2.out hf3)
  have HF3 := Lib.hid (ff HF2.out hf3)
  obtain ⟨c0, c1, c2⟩ := day_cells HC3.out
  have base : Fr w w3 (fun _ => False) ∧ w3.cell? ⟨w.heap.size, 2, none⟩ = some (.int .i64 q) := ⟨HF3.out, c2⟩
  have BASE := Lib.hid base
  clear base
  clear hf3
  go_wp2_with fail
  go_region_held3 (fun w' => Fr w w' (fun _ => False) ∧ w'.cell? ⟨w.heap.size, 2, none⟩ = some (.int .i64 q))
    (first | with_reducible exact kq1 BASE.out (Fr.drew _ _) | with_reducible exact kq1 hS hf6 | with_reducible exact kq1 BASE.out hf6 | (rename_i hS _ _; with_reducible exact kq1 hS (Fr.drew _ _)) | with_reducible assumption)
    (first
      | (go_at_call 15; rename_i hS _ _; refine (HW.out _).mono ?_; rintro e w6 ⟨rfl, hf6⟩)
      | (go_at_call 7; rename_i hS _ _; refine (HA.out _ hS.1).mono ?_; rintro e w6 ⟨rfl, hf6⟩))
  rename_i hS
  have HS := Lib.hid hS.1
  clear hS
  go_wp2_with fail
  go_ret
  exact ⟨rfl, HS.out⟩
set_option maxHeartbeats 3200000 in
theorem weeks_1 (d q y m n a : Int) (w : World) (hw : WOk w) (h : ofD 1 d q y m = (n, 0)) (h1 : daysK y m (Go.Civil.longI y m) = a) (h2 : daysE y m (Go.Civil.longI y m) = 0) (hr : -5000000 ≤ a ∧ a ≤ 5000000) (hq : (n + 4) % 7 = q) (g1 : n ≤ a) (g2 : a < n + 7) : Calls Tryd.prog 5 #[dayV 1 d q, .int .i64 y, .int .i64 m] w fun e w' => e = .returned (.bool true) ∧ Fr w w' (fun _ => False) := by
  have HA := Lib.hid (fun W (f : Fr w W (fun _ => False)) => alive_any W (hw.fr f))
  have HO := Lib.hid (fun W (f : Fr w W (fun _ => False)) => Of_any 1 d q y m W (hw.fr f) n 0 h)
  have HL := Lib.hid (fun W (f : Fr w W (fun _ => False)) => Long_any y m W (hw.fr f).lok)
  have HD := Lib.hid (fun W (f : Fr w W (fun _ => False)) => Days_any y m (Go.Civil.longI y m) W (hw.fr f).lok)
  rw [h1, h2] at HD
  generalize Go.Civil.longI y m = L at *
  have wz : IntKind.i64.wrap (a - n) = a - n := IntWalk.i64_in _ ⟨by omega, by omega⟩
  have HW := Lib.hid (fun W => (show Calls Tryd.prog 15 #[.int .i64 n] W fun e w' => e = .returned (.int .i64 q) ∧ Fr W w' (fun _ => False) from by
    rw [← hq]
    refine (Week_any n W (by unfold inRange; omega)).mono ?_
    rintro e w' ⟨rfl, rfl⟩
    exact ⟨rfl, Fr.drew _ _⟩))
  have i1 : n ≤ a := by omega
  have i2 : a - n < 7 := by omega
  have hqq : (q == q) = true := beq_self_eq_true q
  clear hw h h1 h2 hr hq g1 g2
  go_enter Tryd.func5, Tryd.ntmps5
  go_wp2_with fail
  refine (HO.out _ (Fr.new _ _ _)).mono ?_
  rintro e w2 ⟨rfl, hf2⟩
  have HC2 := Lib.hid hf2
  have HF2 := Lib.hid (ff (Fr.new w (dayC 1 d q) (fun _ => False)) hf2)
  obtain ⟨c0, c1, c2⟩ := day_cells hf2
  clear hf2
  go_wp2_with fail
  refine (HL.out _ HF2.out).mono ?_
  rintro e w9 ⟨rfl, rfl⟩
  go_wp2_with fail
  refine (HD.out _ HF2.out).mono ?_
  rintro e w3 ⟨rfl, hf3⟩
  have HC3 := Lib.hid (ff HC2.out hf3)
  have HF3 := Lib.hid (ff HF2.out hf3)
  obtain ⟨c0, c1, c2⟩ := day_cells HC3.out
  have base : Fr w w3 (fun _ => False) ∧ w3.cell? ⟨w.heap.size, 2, none⟩ = some (.int .i64 q) := ⟨HF3.out, c2⟩
  have BASE := Lib.hid base
  clear base
  clear hf3
  go_wp2_with fail
  go_region_held3 (fun w' => Fr w w' (fun _ => False) ∧ w'.cell? ⟨w.heap.size, 2, none⟩ = some (.int .i64 q))
    (first | with_reducible exact kq1 BASE.out (Fr.drew _ _) | with_reducible exact kq1 hS hf6 | with_reducible exact kq1 BASE.out hf6 | (rename_i hS _ _; with_reducible exact kq1 hS (Fr.drew _ _)) | with_reducible assumption)
    (first
      | (go_at_call 15; rename_i hS _ _; refine (HW.out _).mono ?_; rintro e w6 ⟨rfl, hf6⟩)
      | (go_at_call 7; rename_i hS _ _; refine (HA.out _ hS.1).mono ?_; rintro e w6 ⟨rfl, hf6⟩))
  rename_i hS
  have HS := Lib.hid hS.1
  clear hS
  go_wp2_with fail
  go_ret
  exact ⟨rfl, HS.out⟩
theorem weeks_any (k d q y m : Int) (w : World) (hw : WOk w) : Calls Tryd.prog 5 #[dayV k d q, .int .i64 y, .int .i64 m] w fun e w' => e = .returned (.bool true) ∧ Fr w w' (fun _ => False) := by
  by_cases hr : rightP k d q
  · have hb := rightB_iff.2 hr
    by_cases he : daysE y m (dayOf k d y m) = 0
    · have ho : ofD k d q y m = ofD k d q y m := rfl
      conv at ho =>
        rhs
        rw [ofD, if_pos hb, if_pos he]
      have hk := daysK_range y m (dayOf k d y m)
      rcases hr with ⟨rfl, a1, a2, rfl⟩ | ⟨rfl, rfl, a1, a2⟩ | ⟨hk', a1, a2, a3, a4⟩
      · rw [if_neg (by decide), if_pos rfl] at ho
        exact weeks_0 d 0 y m _ w hw ho rfl he
      · rw [if_neg (by decide), if_neg (by decide)] at ho
        exact weeks_1 0 q y m _ (daysK y m (Go.Civil.longI y m)) w hw ho rfl he (by
          rw [show dayOf 1 0 y m = Go.Civil.longI y m from rfl] at hk; omega) (by
          rw [show dayOf 1 0 y m = Go.Civil.longI y m from rfl]; omega) (by
          rw [show dayOf 1 0 y m = Go.Civil.longI y m from rfl]; omega) (by
          rw [show dayOf 1 0 y m = Go.Civil.longI y m from rfl]; omega)
      · rcases hk' with rfl | rfl
        · rw [if_pos rfl] at ho
          rw [show dayOf 2 d y m = d from rfl] at *
          exact weeks_2 d q y m _ (daysK y m d) w hw ho rfl he (by omega) (by omega) (by omega) (by omega)
        · rw [if_neg (by decide), if_neg (by decide)] at ho
          rw [show dayOf 3 d y m = d from rfl] at *
          exact weeks_3 d q y m _ (daysK y m d) w hw ho rfl he (by omega) (by omega) (by omega) (by omega)
    · exact weeks_no k d q y m 6 w hw (by rw [ofD, if_pos hb, if_neg he]) rfl
  · exact weeks_no k d q y m 1 w hw (by rw [ofD, if_neg (fun x => hr (rightB_iff.1 x))]) rfl
end Go.Proofs.YtofabgllfjmaaaaDoor
