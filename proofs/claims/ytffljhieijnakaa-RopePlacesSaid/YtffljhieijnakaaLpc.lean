import Derived.Test.YtffljhieijnakaaPly
namespace Go.Proofs.Ytffljhieijnakaa
open Go.RowKit Go.Mem Go.Rope

set_option maxHeartbeats 4000000 in
set_option maxRecDepth 100000 in
theorem places_walk (l : Bs) (A : Option Addr) (n cap : Nat) (es : List Ed) (a b : Int) (w : World) (hr : EdsAt w A n es) (hl : l.length ≤ maxLen) (hn : n ≤ maxLen) (hs : ∀ e ∈ es, e.s.length ≤ maxLen) :
    Calls Try.prog 4 #[strV l, .slice A n cap, .int .i64 a, .int .i64 b] w fun e w' => e = .returned (.bool true) ∧ Fr w w' (fun _ => False) := by
  have hlen := hr.1
  have hz := str_size l
  by_cases hE : LightE l es
  · have HLT := Lib.hid (light_any l A n cap es w hr hl hn hs true (by simp [hE]))
    by_cases hbig : l.length ≤ 2000
    · have HP := Lib.hid (play_any l A n cap es w hr hE (by omega))
      have t0 : ¬ ((l.length : Int) > 2000) := by omega
      have t0' : ¬ (2000 < (l.length : Int)) := by omega
      clear hr hE hs hl
      go_enter Try.func4, Try.ntmps4
      go_wp2_with fail
      refine HLT.out.mono ?_
      rintro e w2 ⟨rfl, rfl⟩
      go_wp2_with fail
      refine HP.out.mono ?_
      rintro e w3 ⟨v3, x3, h3, t, rfl, ro3, htl, hf3⟩
      have HF3 := Lib.hid hf3
      have HR3 := Lib.hid ro3
      clear hf3 ro3 HLT HP
      obtain ⟨⟨s1, k1⟩, hs1⟩ : ∃ q, sliceD t a b = q := ⟨_, rfl⟩
      obtain ⟨⟨o2, k2⟩, hs2⟩ : ∃ q, offsetD t a b = q := ⟨_, rfl⟩
      obtain ⟨⟨p3, q3, k3⟩, hs3⟩ : ∃ q, placeD t a = q := ⟨_, rfl⟩
      obtain ⟨⟨z4, k4⟩, hs4⟩ : ∃ q, lineD t a = q := ⟨_, rfl⟩
      have H1 := Lib.hid hs1
      have H2 := Lib.hid hs2
      have H3 := Lib.hid hs3
      have H4 := Lib.hid hs4
      clear hs1 hs2 hs3 hs4
      go_wp2_with fail
      refine (Slice_any HR3.out htl a b _ _ H1.out).mono ?_
      rintro e w4 ⟨rfl, hf4⟩
      have HF4 := Lib.hid (ff HF3.out hf4)
      have HR4 := Lib.hid (HR3.out.keep hf4)
      clear hf4
      go_wp2_with fail
      refine (rSlice_any t a b _ htl _ _ H1.out).mono ?_
      rintro e w4 ⟨rfl, rfl⟩
      go_wp2_with fail
      refine (Offset_any HR4.out htl a b _ _ H2.out).mono ?_
      rintro e w4 ⟨rfl, rfl⟩
      go_wp2_with fail
      refine (rOffset_any t a b _ htl _ _ H2.out).mono ?_
      rintro e w4 ⟨rfl, hf4⟩
      have HF5 := Lib.hid (ff HF4.out hf4)
      have HR5 := Lib.hid (HR4.out.keep hf4)
      clear hf4
      go_wp2_with fail
      refine (Place_any HR5.out htl a _ _ _ H3.out).mono ?_
      rintro e w4 ⟨rfl, rfl⟩
      go_wp2_with fail
      refine (rPlace_any t a _ htl _ _ _ H3.out).mono ?_
      rintro e w4 ⟨rfl, hf4⟩
      have HF6 := Lib.hid (ff HF5.out hf4)
      have HR6 := Lib.hid (HR5.out.keep hf4)
      clear hf4
      go_wp2_with fail
      refine (rLines_any t _ htl).mono ?_
      rintro e w4 ⟨v10, rfl, hst10, hf10⟩
      obtain ⟨A10, cp10, rfl, -, -, hrd10⟩ := strs_rd hst10
      have hll := lines_len t
      have HRD := Lib.hid hrd10
      have HF7 := Lib.hid (ff HF6.out hf10)
      have HR7 := Lib.hid (HR6.out.keep hf10)
      rw [hll]
      rw [hll] at HRD
      clear hst10 hrd10 hf10 hll
      go_wp2_with fail
      refine (Line_any HR7.out htl a _ _ H4.out).mono ?_
      rintro e w5 ⟨rfl, hf5⟩
      have HF8 := Lib.hid (ff HF7.out hf5)
      have HRD5 := Lib.hid (HRD.out.fr hf5 (fun _ _ _ _ h => h))
      clear hf5
      have h4 := H4.out
      unfold lineD at h4
      by_cases hin : 0 ≤ a ∧ a ≤ (feeds t : Int)
      · rw [if_pos hin] at h4
        obtain ⟨rfl, rfl⟩ := Prod.mk.inj h4
        obtain ⟨m, rfl⟩ : ∃ m : Nat, a = (m : Int) := ⟨a.toNat, by omega⟩
        have hla := line_at (l := t) (i := m) (by omega)
        obtain ⟨b5, off5, y5, rfl, hy5, hc5⟩ := strs_at HRD5.out (k := m) (by omega)
        rw [hla] at hy5
        obtain rfl := Option.some.inj hy5
        simp only [Int.toNat_natCast]
        generalize cut t (behind t m) (endOf t m) = y at *
        have i0 : ¬ ((m : Int) < 0) := by omega
        have i1 : ¬ ((m : Int) ≥ ((feeds t + 1 : Nat) : Int)) := by omega
        have i1' : ¬ (feeds t + 1 ≤ m) := by omega
        have i2 : (0 : Int) ≤ (m : Int) := by omega
        have i3 : (m : Int) < ((feeds t + 1 : Nat) : Int) := by omega
        have i3' : (m : Int) < (feeds t : Int) + 1 := by omega
        clear h4 hla hy5 H4 hin
        go_wp2_with fail
        refine (alive_any _).mono ?_
        rintro e w9 ⟨rfl, hf9⟩
        have HF9 := Lib.hid (ff HF8.out hf9)
        clear hf9
        go_wp2_with fail
        go_ret
        exact ⟨rfl, HF9.out⟩
      · rw [if_neg hin] at h4
        obtain ⟨rfl, rfl⟩ := Prod.mk.inj h4
        by_cases ha : a < 0
        · clear h4 H4 hin
          go_wp2_with fail
          refine (alive_any _).mono ?_
          rintro e w9 ⟨rfl, hf9⟩
          have HF9 := Lib.hid (ff HF8.out hf9)
          clear hf9
          go_wp2_with fail
          go_ret
          exact ⟨rfl, HF9.out⟩
        · have i1 : (a ≥ ((feeds t + 1 : Nat) : Int)) := by omega
          have i1' : (feeds t : Int) + 1 ≤ a := by omega
          clear h4 H4 hin
          go_wp2_with fail
          refine (alive_any _).mono ?_
          rintro e w9 ⟨rfl, hf9⟩
          have HF9 := Lib.hid (ff HF8.out hf9)
          clear hf9
          go_wp2_with fail
          go_ret
          exact ⟨rfl, HF9.out⟩
    · have t0 : ((l.length : Int) > 2000) := by omega
      have t0' : (2000 < (l.length : Int)) := by omega
      clear hr hE hs
      go_enter Try.func4, Try.ntmps4
      go_wp2_with fail
      refine HLT.out.mono ?_
      rintro e w2 ⟨rfl, rfl⟩
      go_wp2_with fail
      refine (alive_any _).mono ?_
      rintro e w9 ⟨rfl, hf9⟩
      have HF9 := Lib.hid hf9
      clear hf9
      go_wp2_with fail
      go_ret
      exact ⟨rfl, HF9.out⟩
  · have HLT := Lib.hid (light_any l A n cap es w hr hl hn hs false (by simp [hE]))
    clear hr hE hs
    go_enter Try.func4, Try.ntmps4
    go_wp2_with fail
    refine HLT.out.mono ?_
    rintro e w2 ⟨rfl, rfl⟩
    go_wp2_with fail
    refine (alive_any _).mono ?_
    rintro e w9 ⟨rfl, hf9⟩
    have HF9 := Lib.hid hf9
    clear hf9
    go_wp2_with fail
    go_ret
    exact ⟨rfl, HF9.out⟩
end Go.Proofs.Ytffljhieijnakaa
