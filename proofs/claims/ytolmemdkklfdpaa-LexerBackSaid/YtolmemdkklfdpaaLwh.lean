import Derived.Test.YtolmemdkklfdpaaLfi
namespace Go.Proofs.Ytolmemdkklfdpaa
open Go.RowKit Go.Mem Go.Lxr

theorem Fields_list (l : Bs) (w : World) (hz : l.length ≤ 1000000) : Calls Try.prog 10 #[strV l] w (FOut (fieldsO l) w) := Fields_any ⟨l.toArray⟩ w (by rw [str_size]; exact hz)
theorem fieldsO_ok {l : Bs} {fs : List FPair} {col : Int} (h : fieldsO l = (fs, col, 0)) : fieldsD 0 l = .ok fs := by
  unfold fieldsO at h
  split at h
  · cases h
  · split at h
    · cases h
    · rename_i x hx
      injection h with h
      subst h
      exact hx
theorem fieldsO_of {l : Bs} {fs : List FPair} (hl : l.length ≤ 200) (h : fieldsD 0 l = .ok fs) : fieldsO l = (fs, 0, 0) := by
  unfold fieldsO
  rw [if_neg (by omega), h]
/-- white ahead, and a note behind -/
theorem white_note {l : Bs} {fs : List FPair} (n : Nat) (note : Bs) (h : fieldsD 0 l = .ok fs) (hl : (List.replicate n 9 ++ l ++ [32, 35] ++ note).length ≤ 200) : fieldsO (List.replicate n 9 ++ l ++ [32, 35] ++ note) = (moved n fs, 0, 0) := by
  refine fieldsO_of hl ?_
  have h1 := fields_move n l 0 fs h
  have h2 := (fields_more (35 :: note) l (0 + n) (moved n fs) h1).2 note rfl
  rw [show (List.replicate n 9 ++ l ++ [32, 35] ++ note : Bs) = List.replicate n 9 ++ (l ++ 32 :: 35 :: note) by simp, fields_tabs]
  exact h2
theorem moved_len (n : Nat) (fs : List FPair) : (moved n fs).length = fs.length := by simp [moved]
theorem moved_at {n : Nat} {fs : List FPair} {i : Nat} {x : FPair} (h : fs[i]? = some x) : (moved n fs)[i]? = some (x.1, x.2 + n) := by simp [moved, h]
set_option maxHeartbeats 1600000 in
theorem white_out (l note : Bs) (n : Int) (w : World) (hl : l.length ≤ maxLen) (hn : note.length ≤ maxLen) (h : ¬ (l.length ≤ 100 ∧ note.length ≤ 50 ∧ 0 ≤ n ∧ n ≤ 20)) : Calls Try.prog 6 #[strV l, strV note, .int .i64 n] w fun e w' => e = .returned (.bool true) ∧ Fr w w' (fun _ => False) := by
  unfold maxLen at hl hn
  have hz := str_size l
  have hz2 := str_size note
  have HA := Lib.hid (alive_any w)
  by_cases h1 : 100 < l.length
  · clear h
    go_enter Try.func6, Try.ntmps6
    go_wp2_with fail
    refine HA.out.mono ?_
    rintro e w2 ⟨rfl, hf2⟩
    have HF2 := Lib.hid hf2
    clear hf2
    go_wp2_with fail
    go_ret
    exact ⟨rfl, HF2.out⟩
  · have h1 : l.length ≤ 100 := by omega
    by_cases h2 : 50 < note.length
    · clear h
      go_enter Try.func6, Try.ntmps6
      go_wp2_with fail
      refine HA.out.mono ?_
      rintro e w2 ⟨rfl, hf2⟩
      have HF2 := Lib.hid hf2
      clear hf2
      go_wp2_with fail
      go_ret
      exact ⟨rfl, HF2.out⟩
    · have h2 : note.length ≤ 50 := by omega
      by_cases h3 : n < 0
      · clear h
        go_enter Try.func6, Try.ntmps6
        go_wp2_with fail
        refine HA.out.mono ?_
        rintro e w2 ⟨rfl, hf2⟩
        have HF2 := Lib.hid hf2
        clear hf2
        go_wp2_with fail
        go_ret
        exact ⟨rfl, HF2.out⟩
      · have h3 : 0 ≤ n := by omega
        have h4 : 20 < n := by omega
        clear h
        go_enter Try.func6, Try.ntmps6
        go_wp2_with fail
        refine HA.out.mono ?_
        rintro e w2 ⟨rfl, hf2⟩
        have HF2 := Lib.hid hf2
        clear hf2
        go_wp2_with fail
        go_ret
        exact ⟨rfl, HF2.out⟩
/-- what the law's loop makes, kept apart from how it is written -/
theorem white_text (l note : Bs) (n : Nat) (h1 : l.length ≤ 100) (h2 : note.length ≤ 50) (h3 : n ≤ 20) : ∃ (T : Nat → Bs) (mid big : Bs), T 0 = l ∧ big = List.replicate n 9 ++ l ++ [32, 35] ++ note ∧ big.length ≤ 200 ∧
    (∀ i, i < n → ∀ w, (Op.stringOp .add ⟨#[9]⟩ ⟨(T i).toArray⟩).run Try.prog w = .ok (strV (T (i + 1))) w) ∧
    (∀ w, (Op.stringOp .add ⟨(T n).toArray⟩ ⟨#[32, 35]⟩).run Try.prog w = .ok (strV mid) w) ∧ (∀ w, (Op.stringOp .add ⟨mid.toArray⟩ ⟨note.toArray⟩).run Try.prog w = .ok (strV big) w) := by
  refine ⟨fun i => List.replicate i 9 ++ l, List.replicate n 9 ++ l ++ [32, 35], _, rfl, rfl, by simp; omega, fun i hi w => ?_, fun w => run_add_str w _ [32, 35] (by simp; omega), fun w => run_add_str w _ note (by simp; omega)⟩
  have := run_add_str (P := Try.prog) w [9] (List.replicate i 9 ++ l) (by simp; omega)
  rw [show ([9] ++ (List.replicate i 9 ++ l) : Bs) = List.replicate (i + 1) 9 ++ l by simp [List.replicate_succ]] at this
  exact this
set_option maxHeartbeats 1600000 in
theorem white_bad (l note : Bs) (n : Nat) (w : World) (h1 : l.length ≤ 100) (h2 : note.length ≤ 50) (h3 : n ≤ 20) (fs : List FPair) (col k : Int) (hO : fieldsO l = (fs, col, k)) (hk : (k == 0) = false) : Calls Try.prog 6 #[strV l, strV note, .int .i64 (n : Int)] w fun e w' => e = .returned (.bool true) ∧ Fr w w' (fun _ => False) := by
  have hz := str_size l
  have hz2 := str_size note
  have HA := Lib.hid (fun w => Fields_list l w (by omega))
  rw [hO] at HA
  obtain ⟨T, mid, big, hT0, -, hbl, hadd1, hadd2, hadd3⟩ := white_text l note n h1 h2 h3
  obtain ⟨fs2, col2, k2, hO2⟩ : ∃ a b c, fieldsO big = (a, b, c) := ⟨_, _, _, rfl⟩
  have HB := Lib.hid (fun w => Fields_list big w (by omega))
  rw [hO2] at HB
  have HADD := Lib.hid hadd1
  have HT0 := Lib.hid hT0
  have HO2 := Lib.hid hO2
  clear hO hO2 hbl hadd1 hT0
  go_enter Try.func6, Try.ntmps6
  go_wp2_with fail
  refine (HA.out w).mono ?_
  rintro e w2 ⟨A2, c2, rfl, hr2, hf2⟩
  have HF2 := Lib.hid hf2
  have HR2 := Lib.hid hr2
  clear hf2 hr2
  go_wp2_with fail
  go_loopg [10, 11] n (fun g v10 v11 wr => wr = w2 ∧ ∃ i : Nat, i + g = n ∧ v11 = .int .i64 (i : Int) ∧ v10 = strV (T i))
  case atStart => exact ⟨rfl, 0, by omega, rfl, by rw [HT0.out]⟩
  case round =>
    obtain ⟨rfl, i, hi, rfl, rfl⟩ := hrel
    by_cases hlt : i < n
    · have hadd1 := HADD.out i hlt
      go_wp2_with fail
      go_roundg (n - (i + 1))
      case measure => omega
      case rel => exact ⟨rfl, i + 1, by omega, by go_num, rfl⟩
    · obtain rfl : i = n := by omega
      go_wp2_with fail
      refine (HB.out _).mono ?_
      rintro e w3 ⟨A3, c3, rfl, hr3, hf3⟩
      have HF3 := Lib.hid (ff HF2.out hf3)
      clear hr3 hf3
      go_wp2_with fail
      refine (alive_any _).mono ?_
      rintro e w4 ⟨rfl, hf4⟩
      have HF4 := Lib.hid (ff HF3.out hf4)
      clear hf4
      go_wp2_with fail
      go_ret
      exact ⟨rfl, HF4.out⟩
set_option maxHeartbeats 1600000 in
theorem white_ok (l note : Bs) (n : Nat) (w : World) (h1 : l.length ≤ 100) (h2 : note.length ≤ 50) (h3 : n ≤ 20) (fs : List FPair) (hO : fieldsO l = (fs, 0, 0)) : Calls Try.prog 6 #[strV l, strV note, .int .i64 (n : Int)] w fun e w' => e = .returned (.bool true) ∧ Fr w w' (fun _ => False) := by
  have hz := str_size l
  have hz2 := str_size note
  have HA := Lib.hid (fun w => Fields_list l w (by omega))
  have hfl := fieldsO_len l
  rw [hO] at HA hfl
  have hfl : fs.length ≤ 200 := hfl
  obtain ⟨T, mid, big, hT0, hbig, hbl, hadd1, hadd2, hadd3⟩ := white_text l note n h1 h2 h3
  have hO2 := white_note n note (fieldsO_ok hO) (by rw [← hbig]; exact hbl)
  rw [← hbig] at hO2
  have HB := Lib.hid (fun w => Fields_list big w (by omega))
  rw [hO2] at HB
  obtain ⟨ms, hms⟩ : ∃ ms, moved n fs = ms := ⟨_, rfl⟩
  rw [hms] at HB
  have HMS := Lib.hid (fun i x h => by have := moved_at (n := n) (fs := fs) (i := i) (x := x) h; rwa [hms] at this)
  have hml : ms.length = fs.length := by rw [← hms]; exact moved_len n fs
  have HML := Lib.hid hml
  have HADD := Lib.hid hadd1
  have HT0 := Lib.hid hT0
  have eL : ((fs.length : Int) == (fs.length : Int)) = true := by simp
  have eN : ((n : Int) == (n : Int)) = true := by simp
  clear hO hO2 hbl hadd1 hT0 hbig hms hml
  go_enter Try.func6, Try.ntmps6
  go_wp2_with fail
  refine (HA.out w).mono ?_
  rintro e w2 ⟨A2, c2, rfl, hr2, hf2⟩
  have HF2 := Lib.hid hf2
  have HR2 := Lib.hid hr2
  clear hf2 hr2
  go_wp2_with fail
  go_loopg [10, 11] n (fun g v10 v11 wr => wr = w2 ∧ ∃ i : Nat, i + g = n ∧ v11 = .int .i64 (i : Int) ∧ v10 = strV (T i))
  case atStart => exact ⟨rfl, 0, by omega, rfl, by rw [HT0.out]⟩
  case round =>
    obtain ⟨rfl, i, hi, rfl, rfl⟩ := hrel
    by_cases hlt : i < n
    · have hadd1 := HADD.out i hlt
      go_wp2_with fail
      go_roundg (n - (i + 1))
      case measure => omega
      case rel => exact ⟨rfl, i + 1, by omega, by go_num, rfl⟩
    · obtain rfl : i = n := by omega
      go_wp2_with fail
      refine (HB.out _).mono ?_
      rintro e w3 ⟨A3, c3, rfl, hr3, hf3⟩
      have HF3 := Lib.hid (ff HF2.out hf3)
      have HR3 := Lib.hid hr3
      have HR2' := Lib.hid (HR2.out.fr hf3)
      have HAL := Lib.hid (fun m => alive_any (w3.drewN m))
      clear hr3 hf3
      simp only [HML.out]
      go_wp2_with fail
      go_loopg [15] fs.length (fun g v15 wx => ∃ m, wx = w3.drewN m ∧ ∃ j : Nat, j + g = fs.length ∧ v15 = .int .i64 (j : Int))
      case atStart => exact ⟨0, rfl, 0, by omega, rfl⟩
      case round =>
        obtain ⟨m, hwx, j, hj, rfl⟩ := hrel
        have HWX := Lib.hid hwx
        by_cases hlt2 : j < fs.length
        · obtain ⟨b, off, x, rfl, hx, c0, c1⟩ := HR2'.out.at_ (k := j) hlt2
          obtain ⟨b', off', y, rfl, hy, d0, d1⟩ := HR3.out.at_ (k := j) (by rw [HML.out]; exact hlt2)
          rw [HMS.out j x hx] at hy
          injection hy with hy
          subst hy
          obtain ⟨t, q⟩ := x
          simp only at c0 c1 d0 d1
          obtain ⟨q2, hq2⟩ : ∃ q2 : Nat, q + i = q2 := ⟨_, rfl⟩
          rw [hq2] at d1
          have c0 : wr.cell? ⟨b, off + j * 2, none⟩ = some (strV t) := by rw [hwx]; exact c0
          have c1 : wr.cell? ⟨b, off + j * 2 + 1, none⟩ = some (.int .i64 (q : Int)) := by rw [hwx]; exact c1
          have d0 : wr.cell? ⟨b', off' + j * 2, none⟩ = some (strV t) := by rw [hwx]; exact d0
          have d1 : wr.cell? ⟨b', off' + j * 2 + 1, none⟩ = some (.int .i64 (q2 : Int)) := by rw [hwx]; exact d1
          have i0 : (0 : Int) ≤ (j : Int) := by omega
          have i1 : (j : Int) < (fs.length : Int) := by omega
          have hs : (q2 : Int) - (q : Int) = (i : Int) := by omega
          have e1 : (t == t) = true := by simp
          clear hx hwx hq2 hadd2 hadd3
          go_wp2_with fail
          go_quiet (fail)
          go_wp2_with fail
          go_roundg (fs.length - (j + 1))
          case measure => omega
          case rel => exact ⟨m + nq, by rw [HWX.out, World.drewN_drewN], j + 1, by omega, by go_num⟩
        · subst hwx
          go_wp2_with fail
          refine (HAL.out m).mono ?_
          rintro e w4 ⟨rfl, hf4⟩
          have HF4 := Lib.hid (ff HF3.out (ff (Fr.drewN _ _ _) hf4))
          clear hf4
          go_wp2_with fail
          go_ret
          exact ⟨rfl, HF4.out⟩
end Go.Proofs.Ytolmemdkklfdpaa
