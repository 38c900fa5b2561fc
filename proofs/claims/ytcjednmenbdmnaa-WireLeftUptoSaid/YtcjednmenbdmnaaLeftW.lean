import Derived.Test.YtcjednmenbdmnaaJ
namespace Go.Wire

/-- what is left is an end of the stream, and of it the same is left, and nothing told -/
theorem split_left (n : Nat) : ∀ b : List Int, b.length ≤ n → (∃ u, b = u ++ (splitW b).2) ∧ splitW (splitW b).2 = ([], (splitW b).2) := by
  induction n with
  | zero =>
    intro b hb
    have : b = [] := List.eq_nil_of_length_eq_zero (by omega)
    subst this
    rw [splitW_nil]
    exact ⟨⟨[], rfl⟩, splitW_nil⟩
  | succ n ih =>
    intro b hb
    by_cases hnil : b = []
    · subst hnil
      rw [splitW_nil]
      exact ⟨⟨[], rfl⟩, splitW_nil⟩
    have hpos : 0 < b.length := List.length_pos_iff.2 hnil
    have step : ∀ k, 1 ≤ k → (∃ u, b = u ++ (splitW (b.drop k)).2) ∧ splitW (splitW (b.drop k)).2 = ([], (splitW (b.drop k)).2) := fun k hk => by
      obtain ⟨⟨u, hu⟩, h2⟩ := ih (b.drop k) (by simp; omega)
      refine ⟨⟨b.take k ++ u, ?_⟩, h2⟩
      rw [List.append_assoc, ← hu, List.take_append_drop]
    have h2 := firstW_le b
    have h3 : (firstW b).1 = 0 ∨ (firstW b).1 = 1 ∨ (firstW b).1 = 2 := by omega
    rcases h3 with h | h | h
    · have e := splitW_left b hnil h
      rw [e]
      exact ⟨⟨[], rfl⟩, e⟩
    · rw [splitW_whole b hnil h]
      exact step _ (firstW_whole b h).1
    · by_cases hl : b.length ≤ lineW b (firstW b).2.1
      · rw [splitW_bad_end b hnil h hl]
        exact ⟨⟨b, by simp⟩, splitW_nil⟩
      · rw [splitW_bad b hnil h (by omega)]
        exact step _ (by omega)
end Go.Wire
namespace Go.Proofs.Ytcjednmenbdmnaa
open Go.RowKit Go.Mem Go.Wire

theorem feed_nil (A : Option Addr) (n cap : Nat) (w : World) : Calls Try.prog 13 #[.pointer none, .slice A n cap] w fun e w' => e = .returned (.slice none 0 0) ∧ w = w' := by
  go_enter Try.func13, Try.ntmps13
  go_wp2
  go_ret
  exact ⟨rfl, rfl⟩

theorem left_walk (A : Option Addr) (n cap : Nat) (bs : List Int) (W : World) (hb : ∀ x ∈ bs, 0 ≤ x ∧ x ≤ 255) (hbn : bs.length = n) (hr : Rd W 1 A n (bs.map u8v)) (hnc : n ≤ cap) (hn : n ≤ 1099511627776) :
    Calls Try.prog 5 #[.slice A n cap] W fun e w' => e = .returned (.bool true) ∧ Fr W w' (fun _ => False) := by
  obtain ⟨⟨u, hu⟩, hag⟩ := split_left bs.length bs (Nat.le_refl _)
  obtain ⟨-, hs2⟩ := split_same bs
  obtain ⟨r, hrr⟩ : ∃ r, r = (splitW bs).2 := ⟨_, rfl⟩
  rw [← hrr] at hu hag hs2
  obtain ⟨hr1, hr2⟩ := split_same r
  rw [hag] at hr1 hr2
  have hlr : r.length ≤ n := by rw [← hbn, hu]; simp
  have hrb : ∀ x ∈ r, 0 ≤ x ∧ x ≤ 255 := fun x hx => hb x (by rw [hu]; simp [hx])
  have hdrop : bs.drop (n - r.length) = r := by
    rw [← hbn, hu]
    simp
  have HU := Lib.hid hu
  have HB := Lib.hid hb
  have HRB := Lib.hid hrb
  have HN := Lib.hid hbn
  have HR := Lib.hid hr
  have HS2 := Lib.hid hs2
  have HR1 := Lib.hid hr1
  have HR2 := Lib.hid hr2
  have HD := Lib.hid hdrop
  obtain ⟨m, hm⟩ : ∃ m, r.length = m := ⟨_, rfl⟩
  rw [hm] at hlr
  have HM := Lib.hid hm
  clear hb hbn hr hs2 hr1 hr2 hu hag hrr hdrop hrb hm
  go_enter Try.func5, Try.ntmps5
  go_wp2_with fail
  refine (split_any A n cap bs W HB.out HN.out HR.out hn).mono ?_
  rintro e w1 ⟨v1, r1, rfl, hi1, ho1, hf1⟩
  rw [show (runW st0 bs).1.held = r from HS2.out, HM.out] at ho1
  obtain ⟨A1, c1, rfl, hc1, -, hrd1, -⟩ := own_rd ho1
  have HO1 := Lib.hid ho1
  have HRD1 := Lib.hid hrd1
  have HF1 := Lib.hid hf1
  have HCUT := Lib.hid (drop_ok HR.out hnc HN.out (k := n - m) (by omega))
  clear hi1 ho1 hf1 hrd1
  have ht : decide ((n : Int) < (m : Int)) = false := by simp; omega
  have hsl : ∀ w, (Instr.slice 22 (.slice A n cap) (some (.int .i64 ((n : Int) - (m : Int)))) none none).run Try.prog w = .ok (.slice (cutA A cap (n - m) 1) (n - (n - m)) (cap - (n - m))) w := fun w => by
    have := run_cut_lo (P := Try.prog) w 22 5 1 Try.underlying22 size5 A n cap (n - m) (by omega)
    rw [show ((n - m : Nat) : Int) = (n : Int) - (m : Int) by omega] at this
    exact this
  go_wp2_with fail
  rw [show n - (n - m) = m by omega]
  refine (same_true A1 _ m c1 _ r w1 HRD1.out ?_ (by omega)).mono ?_
  · have h := HCUT.out.fr HF1.out (fun _ _ _ _ h => h)
    have hd := HD.out
    rw [HM.out] at hd
    rw [show n - (n - m) = m by omega, hd] at h
    exact h
  rintro e w2 ⟨rfl, m2, hw2⟩
  have HF2 := Lib.hid (show Fr w1 w2 (fun _ => False) by rw [hw2]; exact Fr.drewN _ _ _)
  have HRD2 := Lib.hid (HRD1.out.fr HF2.out (fun _ _ _ _ h => h))
  clear hw2 hsl
  go_wp2_with fail
  refine (split_any A1 m c1 r w2 HRB.out HM.out HRD2.out (by omega)).mono ?_
  rintro e w3 ⟨v3, r3, rfl, hi3, ho3, hf3⟩
  rw [show (runW st0 r).2 = [] from HR1.out] at hi3
  rw [show (runW st0 r).1.held = r from HR2.out, HM.out] at ho3
  obtain ⟨A3, c3, rfl, -, -⟩ := hi3.tells
  obtain ⟨A4, c4, rfl, -, -, hrd4, -⟩ := own_rd ho3
  have HRD4 := Lib.hid hrd4
  have HF3 := Lib.hid hf3
  have HRD3 := Lib.hid (HRD2.out.fr hf3 (fun _ _ _ _ h => h))
  clear hi3 ho3 hf3 hrd4
  go_wp2_with fail
  refine (same_true A4 A1 m c4 c1 r w3 HRD4.out HRD3.out (by omega)).mono ?_
  rintro e w4 ⟨rfl, m4, hw4⟩
  have HF4 := Lib.hid (show Fr w3 w4 (fun _ => False) by rw [hw4]; exact Fr.drewN _ _ _)
  clear hw4
  go_wp2_with fail
  refine (feed_nil A n cap w4).mono ?_
  rintro e w5 ⟨rfl, rfl⟩
  go_wp2_with fail
  refine (rest_nil w4).mono ?_
  rintro e w6 ⟨rfl, rfl⟩
  go_wp2_with fail
  refine (alive_true w4).mono ?_
  rintro e w7 ⟨rfl, hf7⟩
  have HF7 := Lib.hid hf7
  clear hf7
  go_wp2_with fail
  go_ret
  have t : ∀ {a b c : World}, Fr a b (fun _ => False) → Fr b c (fun _ => False) → Fr a c (fun _ => False) := fun h k => h.trans k (fun _ _ h => h) (fun _ _ h => h)
  exact ⟨rfl, t (t (t (t HF1.out HF2.out) HF3.out) HF4.out) HF7.out⟩
end Go.Proofs.Ytcjednmenbdmnaa
