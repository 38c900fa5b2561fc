import Derived.Test.YtgcheollgnhdlaaGreatDoorLfd
import Derived.Test.YtgcheollgnhdlaaGreatDoorS8Yrs
namespace Go.Proofs.YtgcheollgnhdlaaGreatDoor
open Go.RowKit Go.Mem Go.Lin

theorem take_snoc {α : Type} {ls : List α} {k : Nat} {x : α} (h : ls[k]? = some x) : ls.take (k + 1) = ls.take k ++ [x] := by
  obtain ⟨h1, h2⟩ := List.getElem?_eq_some_iff.1 h
  rw [List.take_succ_eq_append_getElem h1, h2]
theorem own_strs {w : World} {base n : Nat} {A : Option Addr} {c : Nat} {ls : List Bs} (h : w.ownsRow base 9 1 (.slice A n c) n (ls.map strV)) : Rd w 1 A n (ls.map strV) := by
  obtain ⟨A', c', e, -, -, hrd, -, -⟩ := own_rd h
  injection e with e1 e2 e3
  subst e1
  exact hrd
set_option maxRecDepth 100000 in
set_option maxHeartbeats 3200000 in
theorem fields_right0 (hP : ParseC) (hS : ShowC) (s : Bs) (fs : List FPair) (t : Bs) (j : Int) (hj : j ≠ 0) (w : World) (hw : LOk w) (hl : s.length ≤ 1000) (h : S7.fieldsO s = (fs, 0, 0)) (hs : Go.Lxr.showD (fs.map (·.1)) = (t, j)) : Calls Tryz.prog 5 #[strV s] w fun e w' => e = .returned (.bool true) ∧ Fr w w' (fun _ => False) := by
  have HX := Lib.hid (Fields_list s w (by omega))
  have hlen := S7.fieldsO_len s
  have htx := fieldsO_text s
  rw [h] at HX hlen htx
  obtain ⟨n, hn⟩ : ∃ n, fs.length = n := ⟨_, rfl⟩
  have HN := Lib.hid hn
  have HSH := Lib.hid hs
  have HL := Lib.hid (show S7.Light n (fs.map (·.1)) from ⟨by have : fs.length ≤ 200 := hlen; omega, fun x hx => by
    obtain ⟨y, hy, rfl⟩ := List.mem_map.1 hx
    have := htx y hy
    omega⟩)
  have HTX := Lib.hid htx
  have hn2 : n ≤ 200 := by have : fs.length ≤ 200 := hlen; omega
  have hj0 : (j != 0) = true := by simpa using hj
  have hj1 : (j == 0) = false := by simpa using hj
  have HA := Lib.hid (fun W (f : Fr w W (fun _ => False)) => alive_any hP hS W (hw.fr f))
  have h2 : (s.length : Int) ≤ 1000 := by omega
  clear hP hS hw hl h hs hlen htx hn hj
  go_enter Tryz.func5, Tryz.ntmps5
  go_wp2_with fail
  refine HX.out.mono ?_
  rintro e0 w1 ⟨A, cp, rfl, hfd, hf1⟩
  have HF1 := Lib.hid hf1
  have HFD := Lib.hid hfd
  clear hf1 hfd
  rw [show (((fs, (0 : Int), (0 : Int)) : List FPair × Int × Int).1).length = n from HN.out]
  go_wp2_with fail
  go_loopg [7, 8] n (fun g v7 v8 wr => WInv w1 (fs.map (·.1)) n g v7 v8 wr)
  case atStart => exact ⟨0, by omega, rfl, World.ownsRow_nil _ _ _ _, Fr.refl _ _⟩
  case round =>
    obtain ⟨k, hk, rfl, hown, hf⟩ := hrel
    have HO := Lib.hid hown
    have HF := Lib.hid hf
    have HW1 := Lib.hid hf.size
    obtain ⟨A7, c7, rfl⟩ := own_slice hown
    by_cases hlt : k < n
    · obtain ⟨b, off, x, rfl, hx, hc0, -⟩ := (HFD.out.fr hf).at_ (k := k) (by rw [HN.out]; exact hlt)
      have hxl := HTX.out x (List.mem_of_getElem? hx)
      have HT := Lib.hid (take_snoc (ls := fs.map (·.1)) (k := k) (x := x.1) (by rw [List.getElem?_map, hx]; rfl))
      obtain ⟨y, hy⟩ : ∃ y, x.1 = y := ⟨_, rfl⟩
      rw [hy] at hxl hc0 HT
      have h0 : (0 : Int) ≤ (k : Int) := by omega
      have h1 : (k : Int) < (n : Int) := by omega
      have HO3 := Lib.hid (HO.out.alloc (.cells #[strV y] 9))
      obtain ⟨i0, hi0, hz0, hz1, hz2⟩ := info_parts S8.infoS
      clear hown hf hx hy
      go_wp2_with (at_builtin; refine wpList_append_rd _ rfl (.tmp 45) (.tmp 51) 44 rfl w1.heap.size 9 i0 _ 1 16 Tryz.underlying44 hi0 hz0 hz1 hz2 rfl (by decide) _ k _ rfl HO3.out _ 1 1 [strV y] rfl (rd_new wr 9 (0, 0) [strV y]) (by intro u hu; simp at hu; subst hu; rfl) (by simp only [maxLen]; omega) (by omega) (by have := HW1.out; simp; omega) ?_; intro v9 w9 hown9 hg9 _)
      have HF9 := Lib.hid ((ff HF.out (Fr.new wr _ _)).fresh (Fr.ofGrown hg9) (fun i e => (HO3.out.lt i e.symm).1))
      have HO9 := Lib.hid hown9
      clear hown9 hg9
      go_wp2_with fail
      go_roundg (n - (k + 1))
      case measure => omega
      case rel => exact ⟨k + 1, by omega, by go_num, by rw [HT.out]; simpa using HO9.out, HF9.out⟩
    · have hkn : k = n := by omega
      subst hkn
      have hla : (fs.map (·.1)).take k = fs.map (·.1) := List.take_of_length_le (by rw [List.length_map, HN.out]; exact Nat.le_refl _)
      have hrd := own_strs (A := A7) (c := c7) (ls := fs.map (·.1)) (by rw [← hla]; exact hown)
      have HSW := Lib.hid (S7.Show_any A7 k c7 (fs.map (·.1)) wr hrd HL.out)
      rw [HSH.out] at HSW
      have HFR := Lib.hid (ff HF1.out HF.out)
      clear hown hf hla hrd
      go_wp2_with fail
      refine HSW.out.mono ?_
      rintro e0 w4 ⟨rfl, hf4⟩
      have HF4 := Lib.hid (ff HFR.out hf4)
      clear hf4
      go_wp2_with fail
      refine (HA.out _ HF4.out).mono ?_
      rintro e0 w5 ⟨rfl, hf5⟩
      have HF5 := Lib.hid (ff HF4.out hf5)
      clear hf5
      go_wp2_with fail
      go_ret
      exact ⟨rfl, HF5.out⟩
set_option maxRecDepth 100000 in
set_option maxHeartbeats 3200000 in
theorem fields_right1 (hP : ParseC) (hS : ShowC) (s : Bs) (fs : List FPair) (t : Bs) (X Y : LineL) (hX : parseL s = X) (hY : parseL t = Y) (hXY : ({ X with col := 0 } : LineL) = { Y with col := 0 }) (ht : t.length ≤ 1000) (w : World) (hw : LOk w) (hl : s.length ≤ 1000) (h : S7.fieldsO s = (fs, 0, 0)) (hs : Go.Lxr.showD (fs.map (·.1)) = (t, 0)) : Calls Tryz.prog 5 #[strV s] w fun e w' => e = .returned (.bool true) ∧ Fr w w' (fun _ => False) := by
  have HX := Lib.hid (Fields_list s w (by omega))
  have hlen := S7.fieldsO_len s
  have htx := fieldsO_text s
  rw [h] at HX hlen htx
  obtain ⟨n, hn⟩ : ∃ n, fs.length = n := ⟨_, rfl⟩
  have HN := Lib.hid hn
  have HSH := Lib.hid hs
  have HL := Lib.hid (show S7.Light n (fs.map (·.1)) from ⟨by have : fs.length ≤ 200 := hlen; omega, fun x hx => by
    obtain ⟨y, hy, rfl⟩ := List.mem_map.1 hx
    have := htx y hy
    omega⟩)
  have HTX := Lib.hid htx
  have hn2 : n ≤ 200 := by have : fs.length ≤ 200 := hlen; omega
  have H1 := Lib.hid (fun W (f : Fr w W (fun _ => False)) => hP s _ W (hw.fr f) hl hX)
  have H2 := Lib.hid (fun W (f : Fr w W (fun _ => False)) => hP t _ W (hw.fr f) ht hY)
  have E1 := fun w => eql_line { X with col := 0 } { Y with col := 0 } w
  rw [decide_eq_true hXY] at E1
  have HA := Lib.hid (fun W (f : Fr w W (fun _ => False)) => alive_any hP hS W (hw.fr f))
  have h2 : (s.length : Int) ≤ 1000 := by omega
  clear hP hS hw hl h hs hlen htx hn hX hY hXY ht
  go_enter Tryz.func5, Tryz.ntmps5
  go_wp2_with fail
  refine HX.out.mono ?_
  rintro e0 w1 ⟨A, cp, rfl, hfd, hf1⟩
  have HF1 := Lib.hid hf1
  have HFD := Lib.hid hfd
  clear hf1 hfd
  rw [show (((fs, (0 : Int), (0 : Int)) : List FPair × Int × Int).1).length = n from HN.out]
  go_wp2_with fail
  go_loopg [7, 8] n (fun g v7 v8 wr => WInv w1 (fs.map (·.1)) n g v7 v8 wr)
  case atStart => exact ⟨0, by omega, rfl, World.ownsRow_nil _ _ _ _, Fr.refl _ _⟩
  case round =>
    obtain ⟨k, hk, rfl, hown, hf⟩ := hrel
    have HO := Lib.hid hown
    have HF := Lib.hid hf
    have HW1 := Lib.hid hf.size
    obtain ⟨A7, c7, rfl⟩ := own_slice hown
    by_cases hlt : k < n
    · obtain ⟨b, off, x, rfl, hx, hc0, -⟩ := (HFD.out.fr hf).at_ (k := k) (by rw [HN.out]; exact hlt)
      have hxl := HTX.out x (List.mem_of_getElem? hx)
      have HT := Lib.hid (take_snoc (ls := fs.map (·.1)) (k := k) (x := x.1) (by rw [List.getElem?_map, hx]; rfl))
      obtain ⟨y, hy⟩ : ∃ y, x.1 = y := ⟨_, rfl⟩
      rw [hy] at hxl hc0 HT
      have h0 : (0 : Int) ≤ (k : Int) := by omega
      have h1 : (k : Int) < (n : Int) := by omega
      have HO3 := Lib.hid (HO.out.alloc (.cells #[strV y] 9))
      obtain ⟨i0, hi0, hz0, hz1, hz2⟩ := info_parts S8.infoS
      clear hown hf hx hy
      go_wp2_with (at_builtin; refine wpList_append_rd _ rfl (.tmp 45) (.tmp 51) 44 rfl w1.heap.size 9 i0 _ 1 16 Tryz.underlying44 hi0 hz0 hz1 hz2 rfl (by decide) _ k _ rfl HO3.out _ 1 1 [strV y] rfl (rd_new wr 9 (0, 0) [strV y]) (by intro u hu; simp at hu; subst hu; rfl) (by simp only [maxLen]; omega) (by omega) (by have := HW1.out; simp; omega) ?_; intro v9 w9 hown9 hg9 _)
      have HF9 := Lib.hid ((ff HF.out (Fr.new wr _ _)).fresh (Fr.ofGrown hg9) (fun i e => (HO3.out.lt i e.symm).1))
      have HO9 := Lib.hid hown9
      clear hown9 hg9
      go_wp2_with fail
      go_roundg (n - (k + 1))
      case measure => omega
      case rel => exact ⟨k + 1, by omega, by go_num, by rw [HT.out]; simpa using HO9.out, HF9.out⟩
    · have hkn : k = n := by omega
      subst hkn
      have hla : (fs.map (·.1)).take k = fs.map (·.1) := List.take_of_length_le (by rw [List.length_map, HN.out]; exact Nat.le_refl _)
      have hrd := own_strs (A := A7) (c := c7) (ls := fs.map (·.1)) (by rw [← hla]; exact hown)
      have HSW := Lib.hid (S7.Show_any A7 k c7 (fs.map (·.1)) wr hrd HL.out)
      rw [HSH.out] at HSW
      have HFR := Lib.hid (ff HF1.out HF.out)
      clear hown hf hla hrd
      go_wp2_with fail
      refine HSW.out.mono ?_
      rintro e0 w4 ⟨rfl, hf4⟩
      have HF4 := Lib.hid (ff HFR.out hf4)
      clear hf4
      go_wp2_with fail
      refine (H1.out _ HF4.out).mono ?_
      rintro e0 w5 ⟨rfl, hf5⟩
      have HF5 := Lib.hid (ff HF4.out hf5)
      clear hf5
      go_wp2_with fail
      refine (H2.out _ HF5.out).mono ?_
      rintro e0 w6 ⟨rfl, hf6⟩
      have HF6 := Lib.hid (ff (ff HF5.out hf6) (ff (Fr.new w6 (.cells (lineC lineZ) 34) (fun _ => False)) (Fr.new _ (.cells (lineC lineZ) 34) (fun _ => False))))
      have HB60 := Lib.hid (blk_new (cs' := lineC lineZ) (t' := 34) (Blk.made w6 34 (lineC lineZ)))
      have HB61 := Lib.hid (Blk.made (w6.alloc (.cells (lineC lineZ) 34)) 34 (lineC lineZ))
      have hge6 := (ff HF5.out hf6).size
      have hsz6 : (w6.alloc (.cells (lineC lineZ) 34)).heap.size = w6.heap.size + 1 := by simp
      rw [hsz6] at HB61
      clear hf6 hsz6
      go_wp2_with (first
          | (refine wpList_store_blk 34 _ _ w6.heap.size 0 34 (lineC lineZ) (lineC X) (lineC X) (by rfl) rfl rfl rfl rfl HB60.out (infoL _) (lineC_one _) (show 0 + 29 ≤ 29 by decide) (put_line _ _) ?_
             intro w7 hf7 hb7
             have HF7 := Lib.hid (fr_fresh HF6.out hf7 hge6)
             have HB7 := Lib.hid hb7
             have HC7 := Lib.hid (blk_far HB61.out hf7 (by omega))
             clear hf7 hb7)
          | (refine wpList_store_blk 34 _ _ (w6.heap.size + 1) 0 34 (lineC lineZ) (lineC Y) (lineC Y) (by rfl) rfl rfl rfl rfl HC7.out (infoL _) (lineC_one _) (show 0 + 29 ≤ 29 by decide) (put_line _ _) ?_
             intro w8 hf8 hb8
             have HF8 := Lib.hid (fr_fresh HF7.out hf8 (by omega))
             have HC8 := Lib.hid hb8
             have HB8 := Lib.hid (blk_far HB7.out hf8 (by omega))
             clear hf8 hb8)
          | (refine wpList_store_cell 3 _ _ w6.heap.size 28 34 (lineC X) (lineC { X with col := 0 }) (intV 0) (by rfl) rfl rfl rfl rfl HB8.out info_int rfl (show 28 < 29 by decide) (put_col X) ?_
             intro w9 hf9 hb9
             have HF9 := Lib.hid (fr_fresh HF8.out hf9 hge6)
             have HB9 := Lib.hid hb9
             have HC9 := Lib.hid (blk_far HC8.out hf9 (by omega))
             clear hf9 hb9)
          | (refine wpList_store_cell 3 _ _ (w6.heap.size + 1) 28 34 (lineC Y) (lineC { Y with col := 0 }) (intV 0) (by rfl) rfl rfl rfl rfl HC9.out info_int rfl (show 28 < 29 by decide) (put_col Y) ?_
             intro w10 hf10 hb10
             have HF10 := Lib.hid (fr_fresh HF9.out hf10 (by omega))
             have HC10 := Lib.hid hb10
             have HB10 := Lib.hid (blk_far HB9.out hf10 (by omega))
             clear hf10 hb10)
          | (refine wpList_load_blk 34 _ w6.heap.size 0 34 (lineC { X with col := 0 }) (lineC { X with col := 0 }) _ (by rfl) rfl rfl HB10.out Tryz.underlying34 rfl (infoL _) (part_line _) ?_)
          | (refine wpList_load_blk 34 _ (w6.heap.size + 1) 0 34 (lineC { Y with col := 0 }) (lineC { Y with col := 0 }) _ (by rfl) rfl rfl HC10.out Tryz.underlying34 rfl (infoL _) (part_line _) ?_))
      refine (HA.out _ HF10.out).mono ?_
      rintro e0 w11 ⟨rfl, hf11⟩
      have HF11 := Lib.hid (ff HF10.out hf11)
      clear hf11
      go_wp2_with fail
      go_ret
      exact ⟨rfl, HF11.out⟩
theorem fields_walk (hP : ParseC) (hS : ShowC) (s : Bs) (w : World) (hw : LOk w) : Calls Tryz.prog 5 #[strV s] w fun e w' => e = .returned (.bool true) ∧ Fr w w' (fun _ => False) := by
  by_cases hl : 1000 < s.length
  · exact fields_long hP hS s w hw hl
  · have hl : s.length ≤ 1000 := by omega
    obtain ⟨fs, c, k, h⟩ : ∃ fs c k, S7.fieldsO s = (fs, c, k) := ⟨_, _, _, rfl⟩
    by_cases hk : k = 0
    · have h0 : c = 0 := by
        unfold S7.fieldsO at h
        split at h
        · injection h with _ h
          injection h with _ h
          exact absurd (h.trans hk) (by decide)
        · split at h
          · injection h with _ h
            injection h with _ h
            exact absurd (h.trans hk) (by decide)
          · injection h with _ h
            injection h with h _
            exact h.symm
      subst hk h0
      obtain ⟨t, j, hs⟩ : ∃ t j, Go.Lxr.showD (fs.map (·.1)) = (t, j) := ⟨_, _, rfl⟩
      by_cases hj : j = 0
      · subst hj
        obtain ⟨htl, gs, hg, hm⟩ := show_fields hs
        exact fields_right1 hP hS s fs t _ _ rfl rfl (cut_eq h hg hm.symm) (by omega) w hw hl h hs
      · exact fields_right0 hP hS s fs t j hj w hw hl h hs
    · exact fields_wrong hP hS s fs k c hk w hw hl h
end Go.Proofs.YtgcheollgnhdlaaGreatDoor
