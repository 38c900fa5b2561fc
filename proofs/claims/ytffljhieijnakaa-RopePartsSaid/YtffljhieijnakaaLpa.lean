import Derived.Test.YtffljhieijnakaaPly
namespace Go.Proofs.Ytffljhieijnakaa
open Go.RowKit Go.Mem Go.Rope

/-- the text of the lines ahead of the k-th -/
def pre (t : Bs) (k : Nat) : Bs := if k = 0 then [] else t.take (endOf t (k - 1))
theorem pre_first (t : Bs) : pre t 0 ++ cut t (behind t 0) (endOf t 0) = pre t 1 := by simp [pre, behind_zero, cut]
theorem pre_next {t : Bs} {k : Nat} (h : k < feeds t) : (pre t (k + 1) ++ [10]) ++ cut t (behind t (k + 1)) (endOf t (k + 1)) = pre t (k + 2) := by
  simp only [pre]
  rw [if_neg (by omega), if_neg (by omega)]
  exact (lines_join h).symm
theorem pre_all (t : Bs) : pre t (feeds t + 1) = t := by
  simp only [pre]
  rw [if_neg (by omega), show feeds t + 1 - 1 = feeds t by omega, endOf, if_pos rfl, List.take_length]
theorem pre_len (t : Bs) (k : Nat) : (pre t k).length ≤ t.length := by
  unfold pre
  split
  · simp
  · rw [List.length_take]; omega
theorem slice_both {t x y : Bs} {a b c i j : Int} (h1 : sliceD t a b = (x, i)) (h2 : sliceD t b c = (y, j)) (hi : i = 0) (hj : j = 0) : sliceD t a c = (x ++ y, 0) := by
  unfold sliceD at *
  by_cases r1 : InR t a b
  · by_cases r2 : InR t b c
    · rw [if_pos r1] at h1
      rw [if_pos r2] at h2
      obtain ⟨rfl, -⟩ := Prod.mk.inj h1
      obtain ⟨rfl, -⟩ := Prod.mk.inj h2
      obtain ⟨x1, x2, x3⟩ := r1
      obtain ⟨y1, y2, y3⟩ := r2
      rw [if_pos ⟨by omega, by omega, by omega⟩, cut_join (by omega) (by omega)]
    · rw [if_neg r2] at h2
      have := (Prod.mk.inj h2).2
      omega
  · rw [if_neg r1] at h1
    have := (Prod.mk.inj h1).2
    omega
theorem slice_len {t x : Bs} {a b i : Int} (h : sliceD t a b = (x, i)) : x.length ≤ t.length := by
  unfold sliceD at h
  split at h
  · obtain ⟨rfl, -⟩ := Prod.mk.inj h
    unfold cut
    rw [List.length_drop, List.length_take]
    omega
  · obtain ⟨rfl, -⟩ := Prod.mk.inj h
    simp
theorem add_run {x y z : Bs} (hx : x.length ≤ 1000000) (hy : y.length ≤ 1000000) (h : x ++ y = z) (w : World) : (Op.stringOp .add (⟨x.toArray⟩ : ByteArray) ⟨y.toArray⟩).run Try.prog w = .ok (.string ⟨z.toArray⟩) w := by
  rw [run_string_add_sum w _ _ (by rw [str_size, str_size]; omega), str_app, h]

set_option maxHeartbeats 4000000 in
set_option maxRecDepth 100000 in
theorem parts_walk (l : Bs) (A : Option Addr) (n cap : Nat) (es : List Ed) (a b c : Int) (w : World) (hr : EdsAt w A n es) (hl : l.length ≤ maxLen) (hn : n ≤ maxLen) (hs : ∀ e ∈ es, e.s.length ≤ maxLen) :
    Calls Try.prog 7 #[strV l, .slice A n cap, .int .i64 a, .int .i64 b, .int .i64 c] w fun e w' => e = .returned (.bool true) ∧ Fr w w' (fun _ => False) := by
  have hlen := hr.1
  have hz := str_size l
  by_cases hE : LightE l es
  · have HLT := Lib.hid (light_any l A n cap es w hr hl hn hs true (by simp [hE]))
    by_cases hbig : l.length ≤ 2000
    · have HP := Lib.hid (play_any l A n cap es w hr hE (by omega))
      have t0 : ¬ ((l.length : Int) > 2000) := by omega
      have t0' : ¬ (2000 < (l.length : Int)) := by omega
      clear hr hE hs hl
      go_enter Try.func7, Try.ntmps7
      go_wp2_with fail
      refine HLT.out.mono ?_
      rintro e w2 ⟨rfl, rfl⟩
      go_wp2_with fail
      refine HP.out.mono ?_
      rintro e w3 ⟨v3, x3, h3, t, rfl, ro3, htl, hf3⟩
      have HF3 := Lib.hid hf3
      have HR3 := Lib.hid ro3
      clear hf3 ro3 HLT HP
      have hfl := feeds_le t
      have HLN0 := Lib.hid (Lines_any HR3.out htl)
      by_cases h500 : (500 : Int) < ((feeds t + 1 : Nat) : Int)
      · have h500' : 500 < feeds t + 1 := by omega
        go_wp2_with fail
        refine HLN0.out.mono ?_
        rintro e w4 ⟨rfl, rfl⟩
        go_wp2_with fail
        refine (alive_any _).mono ?_
        rintro e w9 ⟨rfl, hf9⟩
        have HF9 := Lib.hid (ff HF3.out hf9)
        clear hf9
        go_wp2_with fail
        go_ret
        exact ⟨rfl, HF9.out⟩
      · have h500' : ¬ (500 < feeds t + 1) := by omega
        obtain ⟨⟨x, i⟩, hs1⟩ : ∃ q, sliceD t a b = q := ⟨_, rfl⟩
        obtain ⟨⟨y, j⟩, hs2⟩ : ∃ q, sliceD t b c = q := ⟨_, rfl⟩
        obtain ⟨⟨z, g⟩, hs3⟩ : ∃ q, sliceD t a c = q := ⟨_, rfl⟩
        have hxl := slice_len hs1
        have hyl := slice_len hs2
        have H1 := Lib.hid hs1
        have H2 := Lib.hid hs2
        have H3 := Lib.hid hs3
        clear hs1 hs2 hs3
        go_wp2_with fail
        refine HLN0.out.mono ?_
        rintro e w4 ⟨rfl, rfl⟩
        go_wp2_with fail
        refine (Slice_any HR3.out htl a b _ _ H1.out).mono ?_
        rintro e w4 ⟨rfl, hf4⟩
        have HF4 := Lib.hid (ff HF3.out hf4)
        have HR4 := Lib.hid (HR3.out.keep hf4)
        clear hf4
        go_wp2_with fail
        refine (Slice_any HR4.out htl b c _ _ H2.out).mono ?_
        rintro e w4 ⟨rfl, hf4⟩
        have HF5 := Lib.hid (ff HF4.out hf4)
        have HR5 := Lib.hid (HR4.out.keep hf4)
        clear hf4
        go_wp2_with fail
        refine (Slice_any HR5.out htl a c _ _ H3.out).mono ?_
        rintro e w6 ⟨rfl, hf4⟩
        have HF6 := Lib.hid (ff HF5.out hf4)
        have HR6 := Lib.hid (HR5.out.keep hf4)
        clear hf4
        clear HR3 HR4 HR5 HF3 HF4 HF5 HLN0
        by_cases hi : i = 0
        · have e1 : ((i : Int) == 0) = true := by simp [hi]
          by_cases hj : j = 0
          · have e2 : ((j : Int) == 0) = true := by simp [hj]
            have hb := slice_both H1.out H2.out hi hj
            rw [H3.out] at hb
            obtain ⟨hz1, rfl⟩ := Prod.mk.inj hb
            have haddxy := add_run (x := x) (y := y) (z := z) (by omega) (by omega) hz1.symm
            clear hi hj hb hz1
            go_wp2_with fail
            go_loopw [20, 21] (fun v20 v21 wr => ∃ k : Nat, k ≤ feeds t + 1 ∧ v21 = .int .i64 (k : Int) ∧ v20 = strV (pre t k) ∧ Fr w wr (fun _ => False) ∧ Fr w6 wr (fun _ => False)) (fun _ v21 _ => feeds t + 1 - (intOf v21).toNat)
            case atStart => exact ⟨0, by omega, rfl, rfl, HF6.out, Fr.refl _ _⟩
            case round =>
              obtain ⟨k, hk, rfl, rfl, hf, hf6⟩ := hrel
              have HR7 := Lib.hid (HR6.out.keep hf6)
              have HF := Lib.hid hf
              have HF6k := Lib.hid hf6
              clear hf hf6
              have b1 := feeds_le t
              obtain ⟨P, hP⟩ : ∃ P, pre t k = P := ⟨_, rfl⟩
              rw [hP]
              have hpl := pre_len t k
              rw [hP] at hpl
              have szP := str_size P
              have HLN := Lib.hid (Lines_any HR7.out htl)
              by_cases hlt : k < feeds t + 1
              · have hb := begin_end (l := t) (i := k) (by omega)
                have hel := endOf_le t k
                obtain ⟨u, hu⟩ : ∃ u, cut t (behind t k) (endOf t k) = u := ⟨_, rfl⟩
                have hul : u.length ≤ t.length := by rw [← hu, cut_len hb hel]; omega
                have HLI := Lib.hid (Line_any HR7.out htl (k : Int) u 0 (by unfold lineD; rw [if_pos ⟨by omega, by omega⟩, Int.toNat_natCast, hu]))
                have i1 : (k : Int) < ((feeds t + 1 : Nat) : Int) := by omega
                have i1' : (k : Int) < (feeds t : Int) + 1 := by omega
                have i3 : (k : Int) ≤ 20000 := by omega
                obtain ⟨P1, hP1⟩ : ∃ P1, pre t (k + 1) = P1 := ⟨_, rfl⟩
                have HP1 := Lib.hid (show strV P1 = strV (pre t (k + 1)) by rw [hP1])
                by_cases hk0 : k = 0
                · have hadd := add_run (x := P) (y := u) (z := P1) (by omega) (by omega) (by rw [← hP, ← hu, ← hP1, hk0]; exact pre_first t)
                  have i4 : ¬ ((k : Int) > 0) := by omega
                  have i4' : ¬ (0 < k) := by omega
                  clear hP hP1 hu hk0 hpl hul hb hel
                  go_wp2_with fail
                  refine HLN.out.mono ?_
                  rintro e w4 ⟨rfl, rfl⟩
                  go_wp2_with fail
                  refine HLI.out.mono ?_
                  rintro e w5 ⟨rfl, hf5⟩
                  have HF5 := Lib.hid (ff HF.out hf5)
                  have HF65 := Lib.hid (ff HF6k.out hf5)
                  clear hf5
                  go_wp2_with fail
                  go_roundw
                  case measure => simp [intOf]; omega
                  case rel => exact ⟨k + 1, by omega, by go_num, HP1.out, HF5.out, HF65.out⟩
                · obtain ⟨Q, hQ⟩ : ∃ Q, P ++ [10] = Q := ⟨_, rfl⟩
                  have hadd := add_run (x := P) (y := [10]) (z := Q) (by omega) (by decide) hQ
                  have hadd2 := add_run (x := Q) (y := u) (z := P1) (by rw [← hQ, List.length_append, List.length_singleton]; omega) (by omega) (by
                    obtain ⟨j, rfl⟩ : ∃ j, k = j + 1 := ⟨k - 1, by omega⟩
                    rw [← hQ, ← hP, ← hu, ← hP1]
                    exact pre_next (by omega))
                  have i4 : (k : Int) > 0 := by omega
                  have i4' : 0 < k := by omega
                  clear hP hP1 hu hk0 hpl hul hb hel hQ
                  go_wp2_with fail
                  refine HLN.out.mono ?_
                  rintro e w4 ⟨rfl, rfl⟩
                  go_wp2_with fail
                  refine HLI.out.mono ?_
                  rintro e w5 ⟨rfl, hf5⟩
                  have HF5 := Lib.hid (ff HF.out hf5)
                  have HF65 := Lib.hid (ff HF6k.out hf5)
                  clear hf5
                  go_wp2_with fail
                  go_roundw
                  case measure => simp [intOf]; omega
                  case rel => exact ⟨k + 1, by omega, by go_num, HP1.out, HF5.out, HF65.out⟩
              · have hke : k = feeds t + 1 := by omega
                have hPt : P = t := by rw [← hP, hke]; exact pre_all t
                have i1 : ¬ ((k : Int) < ((feeds t + 1 : Nat) : Int)) := by omega
                have i1' : ¬ ((k : Int) < (feeds t : Int) + 1) := by omega
                clear hP hke
                subst hPt
                go_wp2_with fail
                refine HLN.out.mono ?_
                rintro e w4 ⟨rfl, rfl⟩
                go_wp2_with fail
                refine (Text_any HR7.out htl).mono ?_
                rintro e w5 ⟨rfl, hf5⟩
                have HF5 := Lib.hid (ff HF.out hf5)
                clear hf5
                go_wp2_with fail
                refine (alive_any _).mono ?_
                rintro e w9 ⟨rfl, hf9⟩
                have HF9 := Lib.hid (ff HF5.out hf9)
                clear hf9
                go_wp2_with fail
                go_ret
                exact ⟨rfl, HF9.out⟩
          · have e2 : ((j : Int) == 0) = false := by simp [hj]
            clear hi hj
            go_wp2_with fail
            go_loopw [20, 21] (fun v20 v21 wr => ∃ k : Nat, k ≤ feeds t + 1 ∧ v21 = .int .i64 (k : Int) ∧ v20 = strV (pre t k) ∧ Fr w wr (fun _ => False) ∧ Fr w6 wr (fun _ => False)) (fun _ v21 _ => feeds t + 1 - (intOf v21).toNat)
            case atStart => exact ⟨0, by omega, rfl, rfl, HF6.out, Fr.refl _ _⟩
            case round =>
              obtain ⟨k, hk, rfl, rfl, hf, hf6⟩ := hrel
              have HR7 := Lib.hid (HR6.out.keep hf6)
              have HF := Lib.hid hf
              have HF6k := Lib.hid hf6
              clear hf hf6
              have b1 := feeds_le t
              obtain ⟨P, hP⟩ : ∃ P, pre t k = P := ⟨_, rfl⟩
              rw [hP]
              have hpl := pre_len t k
              rw [hP] at hpl
              have szP := str_size P
              have HLN := Lib.hid (Lines_any HR7.out htl)
              by_cases hlt : k < feeds t + 1
              · have hb := begin_end (l := t) (i := k) (by omega)
                have hel := endOf_le t k
                obtain ⟨u, hu⟩ : ∃ u, cut t (behind t k) (endOf t k) = u := ⟨_, rfl⟩
                have hul : u.length ≤ t.length := by rw [← hu, cut_len hb hel]; omega
                have HLI := Lib.hid (Line_any HR7.out htl (k : Int) u 0 (by unfold lineD; rw [if_pos ⟨by omega, by omega⟩, Int.toNat_natCast, hu]))
                have i1 : (k : Int) < ((feeds t + 1 : Nat) : Int) := by omega
                have i1' : (k : Int) < (feeds t : Int) + 1 := by omega
                have i3 : (k : Int) ≤ 20000 := by omega
                obtain ⟨P1, hP1⟩ : ∃ P1, pre t (k + 1) = P1 := ⟨_, rfl⟩
                have HP1 := Lib.hid (show strV P1 = strV (pre t (k + 1)) by rw [hP1])
                by_cases hk0 : k = 0
                · have hadd := add_run (x := P) (y := u) (z := P1) (by omega) (by omega) (by rw [← hP, ← hu, ← hP1, hk0]; exact pre_first t)
                  have i4 : ¬ ((k : Int) > 0) := by omega
                  have i4' : ¬ (0 < k) := by omega
                  clear hP hP1 hu hk0 hpl hul hb hel
                  go_wp2_with fail
                  refine HLN.out.mono ?_
                  rintro e w4 ⟨rfl, rfl⟩
                  go_wp2_with fail
                  refine HLI.out.mono ?_
                  rintro e w5 ⟨rfl, hf5⟩
                  have HF5 := Lib.hid (ff HF.out hf5)
                  have HF65 := Lib.hid (ff HF6k.out hf5)
                  clear hf5
                  go_wp2_with fail
                  go_roundw
                  case measure => simp [intOf]; omega
                  case rel => exact ⟨k + 1, by omega, by go_num, HP1.out, HF5.out, HF65.out⟩
                · obtain ⟨Q, hQ⟩ : ∃ Q, P ++ [10] = Q := ⟨_, rfl⟩
                  have hadd := add_run (x := P) (y := [10]) (z := Q) (by omega) (by decide) hQ
                  have hadd2 := add_run (x := Q) (y := u) (z := P1) (by rw [← hQ, List.length_append, List.length_singleton]; omega) (by omega) (by
                    obtain ⟨j, rfl⟩ : ∃ j, k = j + 1 := ⟨k - 1, by omega⟩
                    rw [← hQ, ← hP, ← hu, ← hP1]
                    exact pre_next (by omega))
                  have i4 : (k : Int) > 0 := by omega
                  have i4' : 0 < k := by omega
                  clear hP hP1 hu hk0 hpl hul hb hel hQ
                  go_wp2_with fail
                  refine HLN.out.mono ?_
                  rintro e w4 ⟨rfl, rfl⟩
                  go_wp2_with fail
                  refine HLI.out.mono ?_
                  rintro e w5 ⟨rfl, hf5⟩
                  have HF5 := Lib.hid (ff HF.out hf5)
                  have HF65 := Lib.hid (ff HF6k.out hf5)
                  clear hf5
                  go_wp2_with fail
                  go_roundw
                  case measure => simp [intOf]; omega
                  case rel => exact ⟨k + 1, by omega, by go_num, HP1.out, HF5.out, HF65.out⟩
              · have hke : k = feeds t + 1 := by omega
                have hPt : P = t := by rw [← hP, hke]; exact pre_all t
                have i1 : ¬ ((k : Int) < ((feeds t + 1 : Nat) : Int)) := by omega
                have i1' : ¬ ((k : Int) < (feeds t : Int) + 1) := by omega
                clear hP hke
                subst hPt
                go_wp2_with fail
                refine HLN.out.mono ?_
                rintro e w4 ⟨rfl, rfl⟩
                go_wp2_with fail
                refine (Text_any HR7.out htl).mono ?_
                rintro e w5 ⟨rfl, hf5⟩
                have HF5 := Lib.hid (ff HF.out hf5)
                clear hf5
                go_wp2_with fail
                refine (alive_any _).mono ?_
                rintro e w9 ⟨rfl, hf9⟩
                have HF9 := Lib.hid (ff HF5.out hf9)
                clear hf9
                go_wp2_with fail
                go_ret
                exact ⟨rfl, HF9.out⟩
        · have e1 : ((i : Int) == 0) = false := by simp [hi]
          clear hi
          go_wp2_with fail
          go_loopw [20, 21] (fun v20 v21 wr => ∃ k : Nat, k ≤ feeds t + 1 ∧ v21 = .int .i64 (k : Int) ∧ v20 = strV (pre t k) ∧ Fr w wr (fun _ => False) ∧ Fr w6 wr (fun _ => False)) (fun _ v21 _ => feeds t + 1 - (intOf v21).toNat)
          case atStart => exact ⟨0, by omega, rfl, rfl, HF6.out, Fr.refl _ _⟩
          case round =>
            obtain ⟨k, hk, rfl, rfl, hf, hf6⟩ := hrel
            have HR7 := Lib.hid (HR6.out.keep hf6)
            have HF := Lib.hid hf
            have HF6k := Lib.hid hf6
            clear hf hf6
            have b1 := feeds_le t
            obtain ⟨P, hP⟩ : ∃ P, pre t k = P := ⟨_, rfl⟩
            rw [hP]
            have hpl := pre_len t k
            rw [hP] at hpl
            have szP := str_size P
            have HLN := Lib.hid (Lines_any HR7.out htl)
            by_cases hlt : k < feeds t + 1
            · have hb := begin_end (l := t) (i := k) (by omega)
              have hel := endOf_le t k
              obtain ⟨u, hu⟩ : ∃ u, cut t (behind t k) (endOf t k) = u := ⟨_, rfl⟩
              have hul : u.length ≤ t.length := by rw [← hu, cut_len hb hel]; omega
              have HLI := Lib.hid (Line_any HR7.out htl (k : Int) u 0 (by unfold lineD; rw [if_pos ⟨by omega, by omega⟩, Int.toNat_natCast, hu]))
              have i1 : (k : Int) < ((feeds t + 1 : Nat) : Int) := by omega
              have i1' : (k : Int) < (feeds t : Int) + 1 := by omega
              have i3 : (k : Int) ≤ 20000 := by omega
              obtain ⟨P1, hP1⟩ : ∃ P1, pre t (k + 1) = P1 := ⟨_, rfl⟩
              have HP1 := Lib.hid (show strV P1 = strV (pre t (k + 1)) by rw [hP1])
              by_cases hk0 : k = 0
              · have hadd := add_run (x := P) (y := u) (z := P1) (by omega) (by omega) (by rw [← hP, ← hu, ← hP1, hk0]; exact pre_first t)
                have i4 : ¬ ((k : Int) > 0) := by omega
                have i4' : ¬ (0 < k) := by omega
                clear hP hP1 hu hk0 hpl hul hb hel
                go_wp2_with fail
                refine HLN.out.mono ?_
                rintro e w4 ⟨rfl, rfl⟩
                go_wp2_with fail
                refine HLI.out.mono ?_
                rintro e w5 ⟨rfl, hf5⟩
                have HF5 := Lib.hid (ff HF.out hf5)
                have HF65 := Lib.hid (ff HF6k.out hf5)
                clear hf5
                go_wp2_with fail
                go_roundw
                case measure => simp [intOf]; omega
                case rel => exact ⟨k + 1, by omega, by go_num, HP1.out, HF5.out, HF65.out⟩
              · obtain ⟨Q, hQ⟩ : ∃ Q, P ++ [10] = Q := ⟨_, rfl⟩
                have hadd := add_run (x := P) (y := [10]) (z := Q) (by omega) (by decide) hQ
                have hadd2 := add_run (x := Q) (y := u) (z := P1) (by rw [← hQ, List.length_append, List.length_singleton]; omega) (by omega) (by
                  obtain ⟨j, rfl⟩ : ∃ j, k = j + 1 := ⟨k - 1, by omega⟩
                  rw [← hQ, ← hP, ← hu, ← hP1]
                  exact pre_next (by omega))
                have i4 : (k : Int) > 0 := by omega
                have i4' : 0 < k := by omega
                clear hP hP1 hu hk0 hpl hul hb hel hQ
                go_wp2_with fail
                refine HLN.out.mono ?_
                rintro e w4 ⟨rfl, rfl⟩
                go_wp2_with fail
                refine HLI.out.mono ?_
                rintro e w5 ⟨rfl, hf5⟩
                have HF5 := Lib.hid (ff HF.out hf5)
                have HF65 := Lib.hid (ff HF6k.out hf5)
                clear hf5
                go_wp2_with fail
                go_roundw
                case measure => simp [intOf]; omega
                case rel => exact ⟨k + 1, by omega, by go_num, HP1.out, HF5.out, HF65.out⟩
            · have hke : k = feeds t + 1 := by omega
              have hPt : P = t := by rw [← hP, hke]; exact pre_all t
              have i1 : ¬ ((k : Int) < ((feeds t + 1 : Nat) : Int)) := by omega
              have i1' : ¬ ((k : Int) < (feeds t : Int) + 1) := by omega
              clear hP hke
              subst hPt
              go_wp2_with fail
              refine HLN.out.mono ?_
              rintro e w4 ⟨rfl, rfl⟩
              go_wp2_with fail
              refine (Text_any HR7.out htl).mono ?_
              rintro e w5 ⟨rfl, hf5⟩
              have HF5 := Lib.hid (ff HF.out hf5)
              clear hf5
              go_wp2_with fail
              refine (alive_any _).mono ?_
              rintro e w9 ⟨rfl, hf9⟩
              have HF9 := Lib.hid (ff HF5.out hf9)
              clear hf9
              go_wp2_with fail
              go_ret
              exact ⟨rfl, HF9.out⟩
    · have t0 : ((l.length : Int) > 2000) := by omega
      have t0' : (2000 < (l.length : Int)) := by omega
      clear hr hE hs
      go_enter Try.func7, Try.ntmps7
      go_wp2_with fail
      refine HLT.out.mono ?_
      rintro e w2 ⟨rfl, rfl⟩
      go_wp2_with fail
      refine (alive_any _).mono ?_
      rintro e w9 ⟨rfl, hf9⟩
      have HF9 := Lib.hid hf9
      clear hf9
      go_wp2_with fail
      go_ret
      exact ⟨rfl, HF9.out⟩
  · have HLT := Lib.hid (light_any l A n cap es w hr hl hn hs false (by simp [hE]))
    clear hr hE hs
    go_enter Try.func7, Try.ntmps7
    go_wp2_with fail
    refine HLT.out.mono ?_
    rintro e w2 ⟨rfl, rfl⟩
    go_wp2_with fail
    refine (alive_any _).mono ?_
    rintro e w9 ⟨rfl, hf9⟩
    have HF9 := Lib.hid hf9
    clear hf9
    go_wp2_with fail
    go_ret
    exact ⟨rfl, HF9.out⟩
end Go.Proofs.Ytffljhieijnakaa
