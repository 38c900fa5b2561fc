import Derived.Test.YtffljhieijnakaaPly
namespace Go.Proofs.Ytffljhieijnakaa
open Go.RowKit Go.Mem Go.Rope

theorem place_offset {t : Bs} {a p q : Int} (h : placeD t a = (p, q, 0)) : offsetD t p q = (a, 0) := by
  unfold placeD at h
  by_cases hin : 0 ≤ a ∧ a ≤ (t.length : Int)
  · rw [if_pos hin] at h
    obtain ⟨rfl, h2⟩ := Prod.mk.inj h
    obtain ⟨rfl, -⟩ := Prod.mk.inj h2
    obtain ⟨m, rfl⟩ : ∃ m : Nat, a = (m : Int) := ⟨a.toNat, by omega⟩
    simp only [Int.toNat_natCast]
    obtain ⟨h1, h3⟩ := place_ends t m (by omega)
    have hle := feeds_take_le t m
    unfold offsetD
    simp only [Int.toNat_natCast]
    rw [if_pos ⟨by omega, by omega, by omega, by omega⟩]
    congr 1
    omega
  · rw [if_neg hin] at h
    obtain ⟨-, h2⟩ := Prod.mk.inj h
    obtain ⟨-, h3⟩ := Prod.mk.inj h2
    omega
theorem offset_place {t : Bs} {a c n : Int} (h : offsetD t a c = (n, 0)) : placeD t n = (a, c, 0) := by
  unfold offsetD at h
  by_cases hin : 0 ≤ a ∧ a ≤ (feeds t : Int) ∧ 0 ≤ c ∧ c ≤ (endOf t a.toNat : Int) - (behind t a.toNat : Int)
  · rw [if_pos hin] at h
    obtain ⟨rfl, -⟩ := Prod.mk.inj h
    obtain ⟨h1, h2, h3, h4⟩ := hin
    obtain ⟨m, rfl⟩ : ∃ m : Nat, a = (m : Int) := ⟨a.toNat, by omega⟩
    obtain ⟨d, rfl⟩ : ∃ d : Nat, c = (d : Int) := ⟨c.toNat, by omega⟩
    simp only [Int.toNat_natCast] at h4 ⊢
    have hel := endOf_le t m
    have hb := place_back (l := t) (i := m) (n := behind t m + d) (by omega) (by omega) (by omega)
    unfold placeD
    rw [show (behind t m : Int) + (d : Int) = ((behind t m + d : Nat) : Int) by omega]
    simp only [Int.toNat_natCast]
    rw [if_pos ⟨by omega, by omega⟩, hb]
    congr 2
    omega
  · rw [if_neg hin] at h
    obtain ⟨-, h2⟩ := Prod.mk.inj h
    omega
theorem place_kind {t : Bs} {a p q k : Int} (h : placeD t a = (p, q, k)) : (k = 0 ∧ 0 ≤ a ∧ a ≤ (t.length : Int)) ∨ (k ≠ 0 ∧ ¬ (0 ≤ a ∧ a ≤ (t.length : Int))) := by
  unfold placeD at h
  by_cases hin : 0 ≤ a ∧ a ≤ (t.length : Int)
  · rw [if_pos hin] at h
    exact .inl ⟨(Prod.mk.inj (Prod.mk.inj h).2).2.symm, hin⟩
  · rw [if_neg hin] at h
    exact .inr ⟨by have := (Prod.mk.inj (Prod.mk.inj h).2).2; omega, hin⟩

set_option maxHeartbeats 4000000 in
set_option maxRecDepth 100000 in
theorem back_walk (l : Bs) (A : Option Addr) (n cap : Nat) (es : List Ed) (a c : Int) (w : World) (hr : EdsAt w A n es) (hl : l.length ≤ maxLen) (hn : n ≤ maxLen) (hs : ∀ e ∈ es, e.s.length ≤ maxLen) :
    Calls Try.prog 5 #[strV l, .slice A n cap, .int .i64 a, .int .i64 c] w fun e w' => e = .returned (.bool true) ∧ Fr w w' (fun _ => False) := by
  have hlen := hr.1
  have hz := str_size l
  by_cases hE : LightE l es
  · have HLT := Lib.hid (light_any l A n cap es w hr hl hn hs true (by simp [hE]))
    by_cases hbig : l.length ≤ 2000
    · have HP := Lib.hid (play_any l A n cap es w hr hE (by omega))
      have t0 : ¬ ((l.length : Int) > 2000) := by omega
      have t0' : ¬ (2000 < (l.length : Int)) := by omega
      clear hr hE hs hl
      go_enter Try.func5, Try.ntmps5
      go_wp2_with fail
      refine HLT.out.mono ?_
      rintro e w2 ⟨rfl, rfl⟩
      go_wp2_with fail
      refine HP.out.mono ?_
      rintro e w3 ⟨v3, x3, h3, t, rfl, ro3, htl, hf3⟩
      have HF3 := Lib.hid hf3
      have HR3 := Lib.hid ro3
      clear hf3 ro3 HLT HP
      obtain ⟨⟨p1, q1, k1⟩, hs1⟩ : ∃ q, placeD t a = q := ⟨_, rfl⟩
      obtain ⟨⟨n2, j2⟩, hs2⟩ : ∃ q, offsetD t a c = q := ⟨_, rfl⟩
      have H1 := Lib.hid hs1
      have H2 := Lib.hid hs2
      clear hs2
      go_wp2_with fail
      refine (Place_any HR3.out htl a _ _ _ H1.out).mono ?_
      rintro e w4 ⟨rfl, rfl⟩
      rcases place_kind hs1 with ⟨rfl, ha, hb⟩ | ⟨hk, hin⟩
      · have H1' := Lib.hid (place_offset hs1)
        clear hs1
        go_wp2_with fail
        refine (Offset_any HR3.out htl p1 q1 _ _ H1'.out).mono ?_
        rintro e w4 ⟨rfl, rfl⟩
        go_wp2_with fail
        refine (Offset_any HR3.out htl a c _ _ H2.out).mono ?_
        rintro e w4 ⟨rfl, rfl⟩
        by_cases hj : j2 = 0
        · have e2 : ((j2 : Int) == 0) = true := by simp [hj]
          have H2' := Lib.hid (offset_place (hj ▸ H2.out))
          clear hj
          go_wp2_with fail
          refine (Place_any HR3.out htl n2 _ _ _ H2'.out).mono ?_
          rintro e w4 ⟨rfl, rfl⟩
          go_wp2_with fail
          refine (Len_any HR3.out).mono ?_
          rintro e w4 ⟨rfl, rfl⟩
          go_wp2_with fail
          refine (alive_any _).mono ?_
          rintro e w9 ⟨rfl, hf9⟩
          have HF9 := Lib.hid (ff HF3.out hf9)
          clear hf9
          go_wp2_with fail
          go_ret
          exact ⟨rfl, HF9.out⟩
        · have e2 : ((j2 : Int) == 0) = false := by simp [hj]
          clear hj
          go_wp2_with fail
          refine (Len_any HR3.out).mono ?_
          rintro e w4 ⟨rfl, rfl⟩
          go_wp2_with fail
          refine (alive_any _).mono ?_
          rintro e w9 ⟨rfl, hf9⟩
          have HF9 := Lib.hid (ff HF3.out hf9)
          clear hf9
          go_wp2_with fail
          go_ret
          exact ⟨rfl, HF9.out⟩
      · have e1 : ((k1 : Int) == 0) = false := by simp [hk]
        by_cases ha : 0 ≤ a
        · have hb : ¬ (a ≤ (t.length : Int)) := fun h => hin ⟨ha, h⟩
          have hb' : (t.length : Int) < a := by omega
          clear hs1 hin hk
          go_wp2_with fail
          refine (Offset_any HR3.out htl a c _ _ H2.out).mono ?_
          rintro e w4 ⟨rfl, rfl⟩
          by_cases hj : j2 = 0
          · have e2 : ((j2 : Int) == 0) = true := by simp [hj]
            have H2' := Lib.hid (offset_place (hj ▸ H2.out))
            clear hj
            go_wp2_with fail
            refine (Place_any HR3.out htl n2 _ _ _ H2'.out).mono ?_
            rintro e w4 ⟨rfl, rfl⟩
            go_wp2_with fail
            refine (Len_any HR3.out).mono ?_
            rintro e w4 ⟨rfl, rfl⟩
            go_wp2_with fail
            refine (alive_any _).mono ?_
            rintro e w9 ⟨rfl, hf9⟩
            have HF9 := Lib.hid (ff HF3.out hf9)
            clear hf9
            go_wp2_with fail
            go_ret
            exact ⟨by show Ending.returned (.bool (!decide _)) = _; rw [decide_eq_false (by omega)]; rfl, HF9.out⟩
          · have e2 : ((j2 : Int) == 0) = false := by simp [hj]
            clear hj
            go_wp2_with fail
            refine (Len_any HR3.out).mono ?_
            rintro e w4 ⟨rfl, rfl⟩
            go_wp2_with fail
            refine (alive_any _).mono ?_
            rintro e w9 ⟨rfl, hf9⟩
            have HF9 := Lib.hid (ff HF3.out hf9)
            clear hf9
            go_wp2_with fail
            go_ret
            exact ⟨by show Ending.returned (.bool (!decide _)) = _; rw [decide_eq_false (by omega)]; rfl, HF9.out⟩
        · have ha' : a < 0 := by omega
          clear hs1 hin hk
          go_wp2_with fail
          refine (Offset_any HR3.out htl a c _ _ H2.out).mono ?_
          rintro e w4 ⟨rfl, rfl⟩
          by_cases hj : j2 = 0
          · have e2 : ((j2 : Int) == 0) = true := by simp [hj]
            have H2' := Lib.hid (offset_place (hj ▸ H2.out))
            clear hj
            go_wp2_with fail
            refine (Place_any HR3.out htl n2 _ _ _ H2'.out).mono ?_
            rintro e w4 ⟨rfl, rfl⟩
            go_wp2_with fail
            refine (alive_any _).mono ?_
            rintro e w9 ⟨rfl, hf9⟩
            have HF9 := Lib.hid (ff HF3.out hf9)
            clear hf9
            go_wp2_with fail
            go_ret
            exact ⟨rfl, HF9.out⟩
          · have e2 : ((j2 : Int) == 0) = false := by simp [hj]
            clear hj
            go_wp2_with fail
            refine (alive_any _).mono ?_
            rintro e w9 ⟨rfl, hf9⟩
            have HF9 := Lib.hid (ff HF3.out hf9)
            clear hf9
            go_wp2_with fail
            go_ret
            exact ⟨rfl, HF9.out⟩
    · have t0 : ((l.length : Int) > 2000) := by omega
      have t0' : (2000 < (l.length : Int)) := by omega
      clear hr hE hs
      go_enter Try.func5, Try.ntmps5
      go_wp2_with fail
      refine HLT.out.mono ?_
      rintro e w2 ⟨rfl, rfl⟩
      go_wp2_with fail
      refine (alive_any _).mono ?_
      rintro e w9 ⟨rfl, hf9⟩
      have HF9 := Lib.hid hf9
      clear hf9
      go_wp2_with fail
      go_ret
      exact ⟨rfl, HF9.out⟩
  · have HLT := Lib.hid (light_any l A n cap es w hr hl hn hs false (by simp [hE]))
    clear hr hE hs
    go_enter Try.func5, Try.ntmps5
    go_wp2_with fail
    refine HLT.out.mono ?_
    rintro e w2 ⟨rfl, rfl⟩
    go_wp2_with fail
    refine (alive_any _).mono ?_
    rintro e w9 ⟨rfl, hf9⟩
    have HF9 := Lib.hid hf9
    clear hf9
    go_wp2_with fail
    go_ret
    exact ⟨rfl, HF9.out⟩
end Go.Proofs.Ytffljhieijnakaa
