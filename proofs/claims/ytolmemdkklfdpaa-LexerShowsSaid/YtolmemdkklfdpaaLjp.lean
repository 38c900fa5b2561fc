import Derived.Test.YtolmemdkklfdpaaLjo
namespace Go.Proofs.Ytolmemdkklfdpaa
open Go.RowKit Go.Mem Go.Lxr

set_option maxHeartbeats 1600000 in
theorem join_bad (a b : Bs) (w : World) (h1 : a.length ≤ 90) (h2 : b.length ≤ 90) (h35 : (35 : UInt8) ∉ a) (fs gs : List FPair) (ca cb ka kb : Int) (ha : fieldsO a = (fs, ca, ka)) (hb : fieldsO b = (gs, cb, kb)) (hk : (ka == 0) = false ∨ ((ka == 0) = true ∧ (kb == 0) = false)) :
    Calls Try.prog 8 #[strV a, strV b] w fun e w' => e = .returned (.bool true) ∧ Fr w w' (fun _ => False) := by
  have hz := str_size a
  have hz2 := str_size b
  have HX := Lib.hid (fun w => Fields_list a w (by omega))
  have HY := Lib.hid (fun w => Fields_list b w (by omega))
  rw [ha] at HX
  rw [hb] at HY
  obtain ⟨mid, big, -, hbl, hadd1, hadd2⟩ := join_text a b h1 h2
  obtain ⟨zs, cz, kz, hO⟩ : ∃ x y z, fieldsO big = (x, y, z) := ⟨_, _, _, rfl⟩
  have HZ := Lib.hid (fun w => Fields_list big w (by omega))
  rw [hO] at HZ
  have HO := Lib.hid hO
  have H35 := Lib.hid h35
  clear h35 ha hb hbl hO
  go_enter Try.func8, Try.ntmps8
  go_wp2_with fail
  go_loopg [5] a.length (fun g v5 wr => wr = w ∧ ∃ i : Nat, i + g = a.length ∧ v5 = .int .i64 (i : Int))
  case atStart => exact ⟨rfl, 0, by omega, rfl⟩
  case round =>
    obtain ⟨rfl, i, hi, rfl⟩ := hrel
    by_cases hlt : i < a.length
    · have hlt' : i < (⟨a.toArray⟩ : ByteArray).size := by rw [hz]; exact hlt
      obtain ⟨-, n2⟩ := note_at hlt hlt'
      have i0 : (0 : Int) ≤ (i : Int) := by omega
      have i1 : (i : Int) < (a.length : Int) := by omega
      have e1 := n2 (fun e => H35.out (by rw [← e]; exact List.getElem_mem hlt))
      clear n2
      go_wp2_with fail
      go_roundg (a.length - (i + 1))
      case measure => omega
      case rel => exact ⟨rfl, i + 1, by omega, by go_num⟩
    · go_wp2_with fail
      refine (HX.out _).mono ?_
      rintro e w2 ⟨A2, c2, rfl, -, hf2⟩
      have HF2 := Lib.hid hf2
      clear hf2
      go_wp2_with fail
      refine (HY.out _).mono ?_
      rintro e w3 ⟨A3, c3, rfl, -, hf3⟩
      have HF3 := Lib.hid (ff HF2.out hf3)
      clear hf3
      go_wp2_with fail
      refine (HZ.out _).mono ?_
      rintro e w4 ⟨A4, c4, rfl, -, hf4⟩
      have HF4 := Lib.hid (ff HF3.out hf4)
      have HAL := Lib.hid (alive_any w4)
      clear hf4
      rcases hk with hk | ⟨hk1, hk2⟩
      · have hk' : (ka != 0) = true := by simp [bne, hk]
        go_wp2_with fail
        refine HAL.out.mono ?_
        rintro e w5 ⟨rfl, hf5⟩
        have HF5 := Lib.hid (ff HF4.out hf5)
        clear hf5
        go_wp2_with fail
        go_ret
        exact ⟨rfl, HF5.out⟩
      · have hk1' : (ka != 0) = false := by simp [bne, hk1]
        have hk2' : (kb != 0) = true := by simp [bne, hk2]
        go_wp2_with fail
        refine HAL.out.mono ?_
        rintro e w5 ⟨rfl, hf5⟩
        have HF5 := Lib.hid (ff HF4.out hf5)
        clear hf5
        go_wp2_with fail
        go_ret
        exact ⟨rfl, HF5.out⟩
theorem zs_front {fs gs : List FPair} {n : Nat} {x : FPair} (h : fs[n]? = some x) : (fs ++ gs)[n]? = some x := by
  obtain ⟨h1, h2⟩ := List.getElem?_eq_some_iff.1 h
  rw [List.getElem?_append_left h1, h]
theorem zs_back {fs gs : List FPair} {n j : Nat} (h : n = fs.length + j) : (fs ++ gs)[n]? = gs[j]? := by
  rw [List.getElem?_append_right (by omega)]
  congr 1
  omega
theorem load_fat {w : World} {b o : Nat} {x y : Value} (h0 : w.cell? ⟨b, o, none⟩ = some x) (h1 : w.cell? ⟨b, o + 1, none⟩ = some y) : (loadVar 38 ⟨b, o, none⟩).run Try.prog w = .ok (.agg #[x, y]) w := by
  simp [go_sem, h0, h1]
set_option maxHeartbeats 3200000 in
theorem join_ok (a b : Bs) (w : World) (h1 : a.length ≤ 90) (h2 : b.length ≤ 90) (h35 : (35 : UInt8) ∉ a) (fs gs : List FPair) (ca cb : Int) (ha : fieldsO a = (fs, ca, 0)) (hb : fieldsO b = (gs, cb, 0)) :
    Calls Try.prog 8 #[strV a, strV b] w fun e w' => e = .returned (.bool true) ∧ Fr w w' (fun _ => False) := by
  have hz := str_size a
  have hz2 := str_size b
  have HX := Lib.hid (fun w => Fields_list a w (by omega))
  have HY := Lib.hid (fun w => Fields_list b w (by omega))
  have hfl := fieldsO_len a
  have hgl := fieldsO_len b
  rw [ha] at HX hfl
  rw [hb] at HY hgl
  have hfl : fs.length ≤ 200 := hfl
  have hgl : gs.length ≤ 200 := hgl
  obtain ⟨mid, big, hbig, hbl, hadd1, hadd2⟩ := join_text a b h1 h2
  have hO := join_two h35 (fieldsO_ok ha) (fieldsO_ok hb) (by rw [← hbig]; exact hbl)
  rw [← hbig] at hO
  have HZ := Lib.hid (fun w => Fields_list big w (by omega))
  rw [hO] at HZ
  obtain ⟨ms, hms⟩ : ∃ ms, moved (a.length + 1) gs = ms := ⟨_, rfl⟩
  have HMS := Lib.hid (fun i x h => by have := moved_at (n := a.length + 1) (fs := gs) (i := i) (x := x) h; rwa [hms] at this)
  have hml : ms.length = gs.length := by rw [← hms]; exact moved_len _ gs
  obtain ⟨zs, hzs⟩ : ∃ zs, fs ++ moved (a.length + 1) gs = zs := ⟨_, rfl⟩
  rw [hzs] at HZ
  rw [hms] at hzs
  have HZF := Lib.hid (fun n x (h : fs[n]? = some x) => by have := zs_front (gs := ms) h; rwa [hzs] at this)
  have HZB := Lib.hid (fun n j (h : n = fs.length + j) => by have := zs_back (gs := ms) h; rwa [hzs] at this)
  have hzl : zs.length = fs.length + gs.length := by rw [← hzs, List.length_append, hml]
  have HZL := Lib.hid hzl
  have H35 := Lib.hid h35
  have eL : (((fs.length : Int) + (gs.length : Int)) == ((fs.length : Int) + (gs.length : Int))) = true := by simp
  clear h35 ha hb hbl hO hbig hms hml hzs hzl
  go_enter Try.func8, Try.ntmps8
  go_wp2_with fail
  go_loopg [5] a.length (fun g v5 wr => wr = w ∧ ∃ i : Nat, i + g = a.length ∧ v5 = .int .i64 (i : Int))
  case atStart => exact ⟨rfl, 0, by omega, rfl⟩
  case round =>
    obtain ⟨rfl, i, hi, rfl⟩ := hrel
    by_cases hlt : i < a.length
    · have hlt' : i < (⟨a.toArray⟩ : ByteArray).size := by rw [hz]; exact hlt
      obtain ⟨-, n2⟩ := note_at hlt hlt'
      have i0 : (0 : Int) ≤ (i : Int) := by omega
      have i1 : (i : Int) < (a.length : Int) := by omega
      have e1 := n2 (fun e => H35.out (by rw [← e]; exact List.getElem_mem hlt))
      clear n2
      go_wp2_with fail
      go_roundg (a.length - (i + 1))
      case measure => omega
      case rel => exact ⟨rfl, i + 1, by omega, by go_num⟩
    · go_wp2_with fail
      refine (HX.out _).mono ?_
      rintro e w2 ⟨A2, c2, rfl, hr2, hf2⟩
      have HF2 := Lib.hid hf2
      have HR2 := Lib.hid hr2
      clear hf2 hr2
      go_wp2_with fail
      refine (HY.out _).mono ?_
      rintro e w3 ⟨A3, c3, rfl, hr3, hf3⟩
      have HF3 := Lib.hid (ff HF2.out hf3)
      have HR2' := Lib.hid (HR2.out.fr hf3)
      have HR3 := Lib.hid hr3
      clear hf3 hr3
      go_wp2_with fail
      refine (HZ.out _).mono ?_
      rintro e w4 ⟨A4, c4, rfl, hr4, hf4⟩
      have HF4 := Lib.hid (ff HF3.out hf4)
      have HRX := Lib.hid (HR2'.out.fr hf4)
      have HRY := Lib.hid (HR3.out.fr hf4)
      have HRZ := Lib.hid hr4
      have HAL := Lib.hid (fun m => alive_any (w4.drewN m))
      clear hf4 hr4 HR2 HR2' HR3 hadd1 hadd2 HX HY HZ
      simp only [HZL.out]
      go_wp2_with fail
      go_loopg [15] (fs.length + gs.length) (fun g v15 wx => ∃ m, wx = w4.drewN m ∧ ∃ n : Nat, n + g = fs.length + gs.length ∧ v15 = .int .i64 (n : Int))
      case atStart => exact ⟨0, rfl, 0, by omega, rfl⟩
      case round =>
        obtain ⟨m, hwx, n, hn, rfl⟩ := hrel
        have HWX := Lib.hid hwx
        by_cases hlt2 : n < fs.length + gs.length
        · obtain ⟨bz, oz, z, rfl, hz0, z0, z1⟩ := HRZ.out.at_ (k := n) (by rw [HZL.out]; exact hlt2)
          have z0 : wr.cell? ⟨bz, oz + n * 2, none⟩ = some (strV z.1) := by rw [hwx]; exact z0
          have z1 : wr.cell? ⟨bz, oz + n * 2 + 1, none⟩ = some (.int .i64 (z.2 : Int)) := by rw [hwx]; exact z1
          have i0 : (0 : Int) ≤ (n : Int) := by omega
          have i1 : (n : Int) < ((fs.length + gs.length : Nat) : Int) := by omega
          have i1' : (n : Int) < (fs.length : Int) + (gs.length : Int) := by omega
          by_cases hlt3 : n < fs.length
          · obtain ⟨bx, ox, x, rfl, hx0, x0, x1⟩ := HRX.out.at_ (k := n) hlt3
            rw [HZF.out n x hx0] at hz0
            injection hz0 with hz0
            subst hz0
            have x0 : wr.cell? ⟨bx, ox + n * 2, none⟩ = some (strV x.1) := by rw [hwx]; exact x0
            have x1 : wr.cell? ⟨bx, ox + n * 2 + 1, none⟩ = some (.int .i64 (x.2 : Int)) := by rw [hwx]; exact x1
            have g1 : decide (n < fs.length) = true := decide_eq_true hlt3
            have g2 : decide (fs.length ≤ n) = false := decide_eq_false (by omega)
            have i2 : (n : Int) < (fs.length : Int) := by omega
            have hne := fun w => neq_same_f x.1 (x.2 : Int) w
            clear hx0 hwx
            go_wp2_with fail
            go_quiet (fail)
            go_wp2_with fail
            go_roundg (fs.length + gs.length - (n + 1))
            case measure => omega
            case rel => exact ⟨m + nq, by rw [HWX.out, World.drewN_drewN], n + 1, by omega, by go_num⟩
          · obtain ⟨j, hj⟩ : ∃ j, n = fs.length + j := ⟨n - fs.length, by omega⟩
            obtain ⟨by_, oy, y, rfl, hy0, y0, y1⟩ := HRY.out.at_ (k := j) (by omega)
            rw [HZB.out n j hj, HMS.out j y hy0] at hz0
            injection hz0 with hz0
            subst hz0
            simp only at z0 z1
            have y0 : wr.cell? ⟨by_, oy + j * 2, none⟩ = some (strV y.1) := by rw [hwx]; exact y0
            have e1 : (y.1 == y.1) = true := by simp
            have g1 : decide (n < fs.length) = false := decide_eq_false (by omega)
            have g2 : decide (fs.length ≤ n) = true := decide_eq_true (by omega)
            have i3 : (0 : Int) ≤ (j : Int) := by omega
            have i4 : (j : Int) < (gs.length : Int) := by omega
            have i5 : (n : Int) - (fs.length : Int) = (j : Int) := by omega
            clear hy0 hwx y1 z1 hj
            go_wp2_with fail
            go_quiet (fail)
            go_wp2_with fail
            go_roundg (fs.length + gs.length - (n + 1))
            case measure => omega
            case rel => exact ⟨m + nq, by rw [HWX.out, World.drewN_drewN], n + 1, by omega, by go_num⟩
        · subst hwx
          go_wp2_with fail
          refine (HAL.out m).mono ?_
          rintro e w5 ⟨rfl, hf5⟩
          have HF5 := Lib.hid (ff HF4.out (ff (Fr.drewN _ _ _) hf5))
          clear hf5
          go_wp2_with fail
          go_ret
          exact ⟨rfl, HF5.out⟩
end Go.Proofs.Ytolmemdkklfdpaa
