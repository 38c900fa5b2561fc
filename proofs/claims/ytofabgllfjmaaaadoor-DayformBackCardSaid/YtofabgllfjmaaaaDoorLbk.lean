import Derived.Test.YtofabgllfjmaaaaDoorLtx
namespace Go.Proofs.YtofabgllfjmaaaaDoor
open Go.RowKit Go.Mem Go.Dfm

theorem diff_day (k d q : Int) : (!(k == k && (d == d && q == q))) = false := by simp
theorem text_len {k d q : Int} (h : rightP k d q) : (textD k d q).length ≤ 100 := by
  have hi : ∀ d : Int, 1 ≤ d → d ≤ 31 → (Lib.itoa d).length ≤ 2 := fun d h1 h2 => by
    rw [itoa_small h1 h2, decL]
    split <;> simp
  rcases h with ⟨rfl, h1, h2, rfl⟩ | ⟨rfl, rfl, h1, h2⟩ | ⟨hk, h1, h2, h3, h4⟩
  · have e : textD 0 d 0 = Lib.itoa d := rfl
    have := hi d h1 h2
    rw [e]; omega
  · have e : textD 1 0 q = lastL ++ nameI q := rfl
    have := name_len h1 h2
    rw [e]; simp; omega
  · have h5 := hi d h1 h2
    have h6 := name_len h3 h4
    rcases hk with rfl | rfl
    · have e : textD 2 d q = nameI q ++ geL ++ Lib.itoa d := rfl
      rw [e]; simp; omega
    · have e : textD 3 d q = nameI q ++ leL ++ Lib.itoa d := rfl
      rw [e]; simp; omega
theorem show_right {k d q : Int} (h : rightP k d q) : showD k d q = (textD k d q, 0) := by rw [showD, if_pos (rightB_iff.2 h)]
theorem show_wrong {k d q : Int} (h : ¬ rightP k d q) : showD k d q = ([], 1) := by rw [showD, if_neg (fun x => h (rightB_iff.1 x))]
theorem zero_day (w : World) : (binOp .eql 23 (dayV 0 0 0) (dayV 0 0 0)).run Tryd.prog w = .ok (.bool true) w := by
  rw [eql_day]
  rfl
set_option maxHeartbeats 1600000 in
theorem back_ry (l : Bs) (hl : l.length ≤ 300) (k d q : Int) (w : World) (hw : WOk w) (hr : rightP k d q) (k1 d1 q1 : Int) (hp : parseD l = (k1, d1, q1, 0)) (hs : showD k1 d1 q1 = (l, 0)) : Calls Tryd.prog 4 #[strV l, dayV k d q] w fun e w' => e = .returned (.bool true) ∧ Fr w w' (fun _ => False) := by
  have HA := Lib.hid (fun W (f : Fr w W (fun _ => False)) => alive_any W (hw.fr f))
  have hz := str_size l
  have h1 : (l.length : Int) ≤ 300 := by omega
  have HB := Lib.hid (Blk.made w 23 #[.int .i64 k, .int .i64 d, .int .i64 q])
  have HS := Lib.hid (fun W (f : Fr w W (fun _ => False)) => Show_any k d q W (hw.fr f) _ 0 (show_right hr))
  have htl := text_len hr
  have HP := Lib.hid (fun W (f : Fr w W (fun _ => False)) => Parse_any (textD k d q) (by omega) W (hw.fr f) k d q 0 (parse_text hr))
  have E1 := fun w => neq_day k d q k d q w
  rw [diff_day] at E1
  generalize textD k d q = t at HS HP
  have HQ := Lib.hid (fun W (f : Fr w W (fun _ => False)) => Parse_any l (by omega) W (hw.fr f) k1 d1 q1 0 hp)
  have HU := Lib.hid (fun W (f : Fr w W (fun _ => False)) => Show_any k1 d1 q1 W (hw.fr f) l 0 hs)
  clear hw hl hr hp hs htl
  go_enter Tryd.func4, Tryd.ntmps4
  go_wp2_with fail
  refine (HS.out _ (Fr.new _ _ _)).mono ?_
  rintro e w2 ⟨rfl, hf2⟩
  have HC2 := Lib.hid hf2
  have HF2 := Lib.hid (ff (Fr.new w (dayC k d q) (fun _ => False)) hf2)
  obtain ⟨c0, c1, c2⟩ := day_cells hf2
  clear hf2
  go_wp2_with fail
  refine (HP.out _ HF2.out).mono ?_
  rintro e w3 ⟨rfl, hf3⟩
  have HC3 := Lib.hid (ff HC2.out (ff hf3 (Fr.new w3 (dayC k d q) (fun _ => False))))
  have HF3 := Lib.hid (ff HF2.out (ff hf3 (Fr.new w3 (dayC k d q) (fun _ => False))))
  obtain ⟨c0, c1, c2⟩ := day_cells HC3.out
  clear hf3
  go_wp2_with fail
  refine (HQ.out _ HF3.out).mono ?_
  rintro e w5 ⟨rfl, hf5⟩
  have HF5 := Lib.hid (ff HF3.out (ff hf5 (Fr.new w5 (dayC k1 d1 q1) (fun _ => False))))
  clear hf5
  go_wp2_with fail
  refine (HU.out _ HF5.out).mono ?_
  rintro e w6 ⟨rfl, hf6⟩
  have HF6 := Lib.hid (ff HF5.out hf6)
  clear hf6
  go_wp2_with fail
  refine (HA.out _ HF6.out).mono ?_
  rintro e w7 ⟨rfl, hf7⟩
  have HF7 := Lib.hid (ff HF6.out hf7)
  clear hf7
  go_wp2_with fail
  go_ret
  exact ⟨rfl, HF7.out⟩
set_option maxHeartbeats 1600000 in
theorem back_rn (l : Bs) (hl : l.length ≤ 300) (k d q : Int) (w : World) (hw : WOk w) (hr : rightP k d q) (hp : parseD l = (0, 0, 0, 6)) : Calls Tryd.prog 4 #[strV l, dayV k d q] w fun e w' => e = .returned (.bool true) ∧ Fr w w' (fun _ => False) := by
  have HA := Lib.hid (fun W (f : Fr w W (fun _ => False)) => alive_any W (hw.fr f))
  have hz := str_size l
  have h1 : (l.length : Int) ≤ 300 := by omega
  have HB := Lib.hid (Blk.made w 23 #[.int .i64 k, .int .i64 d, .int .i64 q])
  have HS := Lib.hid (fun W (f : Fr w W (fun _ => False)) => Show_any k d q W (hw.fr f) _ 0 (show_right hr))
  have htl := text_len hr
  have HP := Lib.hid (fun W (f : Fr w W (fun _ => False)) => Parse_any (textD k d q) (by omega) W (hw.fr f) k d q 0 (parse_text hr))
  have E1 := fun w => neq_day k d q k d q w
  rw [diff_day] at E1
  generalize textD k d q = t at HS HP
  have HQ := Lib.hid (fun W (f : Fr w W (fun _ => False)) => Parse_any l (by omega) W (hw.fr f) 0 0 0 6 hp)
  have E2 := zero_day
  clear hw hl hr hp htl
  go_enter Tryd.func4, Tryd.ntmps4
  go_wp2_with fail
  refine (HS.out _ (Fr.new _ _ _)).mono ?_
  rintro e w2 ⟨rfl, hf2⟩
  have HC2 := Lib.hid hf2
  have HF2 := Lib.hid (ff (Fr.new w (dayC k d q) (fun _ => False)) hf2)
  obtain ⟨c0, c1, c2⟩ := day_cells hf2
  clear hf2
  go_wp2_with fail
  refine (HP.out _ HF2.out).mono ?_
  rintro e w3 ⟨rfl, hf3⟩
  have HC3 := Lib.hid (ff HC2.out (ff hf3 (Fr.new w3 (dayC k d q) (fun _ => False))))
  have HF3 := Lib.hid (ff HF2.out (ff hf3 (Fr.new w3 (dayC k d q) (fun _ => False))))
  obtain ⟨c0, c1, c2⟩ := day_cells HC3.out
  clear hf3
  go_wp2_with fail
  refine (HQ.out _ HF3.out).mono ?_
  rintro e w5 ⟨rfl, hf5⟩
  have HF5 := Lib.hid (ff HF3.out (ff hf5 (Fr.new w5 (dayC 0 0 0) (fun _ => False))))
  clear hf5
  go_wp2_with fail
  refine (HA.out _ HF5.out).mono ?_
  rintro e w7 ⟨rfl, hf7⟩
  have HF7 := Lib.hid (ff HF5.out hf7)
  clear hf7
  go_wp2_with fail
  go_ret
  exact ⟨rfl, HF7.out⟩
set_option maxHeartbeats 1600000 in
theorem back_wy (l : Bs) (hl : l.length ≤ 300) (k d q : Int) (w : World) (hw : WOk w) (hr : ¬ rightP k d q) (k1 d1 q1 : Int) (hp : parseD l = (k1, d1, q1, 0)) (hs : showD k1 d1 q1 = (l, 0)) : Calls Tryd.prog 4 #[strV l, dayV k d q] w fun e w' => e = .returned (.bool true) ∧ Fr w w' (fun _ => False) := by
  have HA := Lib.hid (fun W (f : Fr w W (fun _ => False)) => alive_any W (hw.fr f))
  have hz := str_size l
  have h1 : (l.length : Int) ≤ 300 := by omega
  have HB := Lib.hid (Blk.made w 23 #[.int .i64 k, .int .i64 d, .int .i64 q])
  have HS := Lib.hid (fun W (f : Fr w W (fun _ => False)) => Show_any k d q W (hw.fr f) _ 1 (show_wrong hr))
  have HQ := Lib.hid (fun W (f : Fr w W (fun _ => False)) => Parse_any l (by omega) W (hw.fr f) k1 d1 q1 0 hp)
  have HU := Lib.hid (fun W (f : Fr w W (fun _ => False)) => Show_any k1 d1 q1 W (hw.fr f) l 0 hs)
  clear hw hl hr hp hs
  go_enter Tryd.func4, Tryd.ntmps4
  go_wp2_with fail
  refine (HS.out _ (Fr.new _ _ _)).mono ?_
  rintro e w2 ⟨rfl, hf2⟩
  have HC2 := Lib.hid hf2
  have HF2 := Lib.hid (ff (Fr.new w (dayC k d q) (fun _ => False)) hf2)
  obtain ⟨c0, c1, c2⟩ := day_cells hf2
  clear hf2
  go_wp2_with fail
  refine (HQ.out _ HF2.out).mono ?_
  rintro e w5 ⟨rfl, hf5⟩
  have HF5 := Lib.hid (ff HF2.out (ff hf5 (Fr.new w5 (dayC k1 d1 q1) (fun _ => False))))
  clear hf5
  go_wp2_with fail
  refine (HU.out _ HF5.out).mono ?_
  rintro e w6 ⟨rfl, hf6⟩
  have HF6 := Lib.hid (ff HF5.out hf6)
  clear hf6
  go_wp2_with fail
  refine (HA.out _ HF6.out).mono ?_
  rintro e w7 ⟨rfl, hf7⟩
  have HF7 := Lib.hid (ff HF6.out hf7)
  clear hf7
  go_wp2_with fail
  go_ret
  exact ⟨rfl, HF7.out⟩
set_option maxHeartbeats 1600000 in
theorem back_wn (l : Bs) (hl : l.length ≤ 300) (k d q : Int) (w : World) (hw : WOk w) (hr : ¬ rightP k d q) (hp : parseD l = (0, 0, 0, 6)) : Calls Tryd.prog 4 #[strV l, dayV k d q] w fun e w' => e = .returned (.bool true) ∧ Fr w w' (fun _ => False) := by
  have HA := Lib.hid (fun W (f : Fr w W (fun _ => False)) => alive_any W (hw.fr f))
  have hz := str_size l
  have h1 : (l.length : Int) ≤ 300 := by omega
  have HB := Lib.hid (Blk.made w 23 #[.int .i64 k, .int .i64 d, .int .i64 q])
  have HS := Lib.hid (fun W (f : Fr w W (fun _ => False)) => Show_any k d q W (hw.fr f) _ 1 (show_wrong hr))
  have HQ := Lib.hid (fun W (f : Fr w W (fun _ => False)) => Parse_any l (by omega) W (hw.fr f) 0 0 0 6 hp)
  have E2 := zero_day
  clear hw hl hr hp
  go_enter Tryd.func4, Tryd.ntmps4
  go_wp2_with fail
  refine (HS.out _ (Fr.new _ _ _)).mono ?_
  rintro e w2 ⟨rfl, hf2⟩
  have HC2 := Lib.hid hf2
  have HF2 := Lib.hid (ff (Fr.new w (dayC k d q) (fun _ => False)) hf2)
  obtain ⟨c0, c1, c2⟩ := day_cells hf2
  clear hf2
  go_wp2_with fail
  refine (HQ.out _ HF2.out).mono ?_
  rintro e w5 ⟨rfl, hf5⟩
  have HF5 := Lib.hid (ff HF2.out (ff hf5 (Fr.new w5 (dayC 0 0 0) (fun _ => False))))
  clear hf5
  go_wp2_with fail
  refine (HA.out _ HF5.out).mono ?_
  rintro e w7 ⟨rfl, hf7⟩
  have HF7 := Lib.hid (ff HF5.out hf7)
  clear hf7
  go_wp2_with fail
  go_ret
  exact ⟨rfl, HF7.out⟩
theorem back_any (l : Bs) (_hm : l.length ≤ maxLen) (k d q : Int) (w : World) (hw : WOk w) : Calls Tryd.prog 4 #[strV l, dayV k d q] w fun e w' => e = .returned (.bool true) ∧ Fr w w' (fun _ => False) := by
  by_cases hl : 300 < l.length
  · have HA := Lib.hid (fun W (f : Fr w W (fun _ => False)) => alive_any W (hw.fr f))
    have hz := str_size l
    have h1 : (300 : Int) < (l.length : Int) := by omega
    clear hw hl
    go_enter Tryd.func4, Tryd.ntmps4
    go_wp2_with fail
    refine (HA.out _ (Fr.new _ _ _)).mono ?_
    rintro e w2 ⟨rfl, hf2⟩
    have HF2 := Lib.hid (ff (Fr.new w _ _) hf2)
    clear hf2
    go_wp2_with fail
    go_ret
    exact ⟨rfl, HF2.out⟩
  · have hl' : l.length ≤ 300 := by omega
    rcases parse_cases l with ⟨k1, d1, q1, h1, h2, h3⟩ | ⟨_, h3⟩
    · have hs : showD k1 d1 q1 = (l, 0) := by rw [h2]; exact show_right h1
      by_cases hr : rightP k d q
      · exact back_ry l hl' k d q w hw hr k1 d1 q1 h3 hs
      · exact back_wy l hl' k d q w hw hr k1 d1 q1 h3 hs
    · by_cases hr : rightP k d q
      · exact back_rn l hl' k d q w hw hr h3
      · exact back_wn l hl' k d q w hw hr h3
end Go.Proofs.YtofabgllfjmaaaaDoor
