import Derived.Test.YtcjednmenbdmnaaH
import Derived.Test.YtcjednmenbdmnaaI
import Derived.Test.YtcjednmenbdmnaaEqv
namespace Go.Proofs.Ytcjednmenbdmnaa
open Go.RowKit Go.Mem Go.Wire

theorem run_item_len (l : List Int) (σ : St) (i : Inv σ) (hb : ∀ x ∈ l, 0 ≤ x ∧ x ≤ 255) : ∀ it ∈ (runW σ l).2, (bytesOf it).length ≤ 30000 := by
  induction l generalizing σ with
  | nil => intro it h; simp [runW] at h
  | cons c l ih =>
    intro it h
    have hc := hb c (by simp)
    simp only [runW, List.mem_append] at h
    rcases h with h | h
    · unfold outW at h
      split at h
      · rename_i hw
        simp only [List.mem_singleton] at h
        subst h
        rw [(whole_iff hw).2.2]
        simp only [bytesOf, List.length_drop]
        have := i.held
        omega
      · split at h
        · simp at h
          subst h
          simp [bytesOf]
        · simp at h
    · exact ih _ (i.out hc.1 hc.2) (fun x hx => hb x (by simp [hx])) it h
theorem st0_inv : Inv st0 := by constructor <;> simp [st0]

theorem splits_walk (A : Option Addr) (n cap : Nat) (bs : List Int) (W : World) (hb : ∀ x ∈ bs, 0 ≤ x ∧ x ≤ 255) (hbn : bs.length = n) (hr : Rd W 1 A n (bs.map u8v)) (hnc : n ≤ cap) (hn : n ≤ 1099511627776) :
    Calls Try.prog 3 #[.slice A n cap] W fun e w' => e = .returned (.bool true) ∧ Fr W w' (fun _ => False) := by
  obtain ⟨hsame1, hsame2⟩ := split_same bs
  have HB := Lib.hid hb
  have HN := Lib.hid hbn
  have HR := Lib.hid hr
  have HS1 := Lib.hid hsame1
  have HS2 := Lib.hid hsame2
  have HL : Hid (∀ it ∈ (splitW bs).1, (bytesOf it).length ≤ 1099511627776) := fun it h => by
    have := run_item_len bs st0 st0_inv hb it (by rw [show (runW st0 bs).2 = (splitW bs).1 from hsame1]; exact h)
    omega
  have hsl : (splitW bs).2.length ≤ 30000 := by
    rw [← hsame2]
    exact (st0_inv.run bs hb).held
  have hil : (splitW bs).1.length ≤ n := by rw [← hsame1, ← hbn]; exact runW_len _ _
  clear hb hbn hr hsame1 hsame2
  go_enter Try.func3, Try.ntmps3
  go_wp2_with fail
  refine (split_any A n cap bs W HB.out HN.out HR.out hn).mono ?_
  rintro e w1 ⟨v1, r1, rfl, hi1, ho1, hf1⟩
  rw [show (runW st0 bs).2 = (splitW bs).1 from HS1.out] at hi1
  rw [show (runW st0 bs).1.held = (splitW bs).2 from HS2.out] at ho1
  have HI1 := Lib.hid hi1
  have HO1 := Lib.hid ho1
  have HF1 := Lib.hid hf1
  have HR1 := Lib.hid (HR.out.fr hf1 (fun _ _ _ _ h => h))
  clear hi1 ho1 hf1
  go_wp2_with fail
  refine (rsplit_any A n cap bs w1 HB.out HN.out HR1.out hnc hn).mono ?_
  rintro e w2 ⟨v2, A2, c2, rfl, hi2, hr2, hf2⟩
  have HI2 := Lib.hid hi2
  have HR2 := Lib.hid (hr2.fr hf2 (fun _ _ _ _ h => h))
  have HF2 := Lib.hid hf2
  clear hi2 hr2 hf2
  go_wp2_with fail
  refine (back_any (HI1.out.fr HF2.out (fun _ _ h => h) (fun _ _ h => h) (fun _ _ h => h)) (by omega)).mono ?_
  rintro e w3 ⟨v3, rfl, hi3, hf3⟩
  obtain ⟨A3, c3, rfl, ht3, -⟩ := hi3.tells
  obtain ⟨A4, c4, rfl, ht4⟩ := HI2.out.tells HF2.out
  have HT3 := Lib.hid ht3
  have HT4 := Lib.hid (ht4.fr hf3)
  have HF3 := Lib.hid hf3
  clear hi3 hf3 ht3 ht4
  go_wp2_with fail
  refine (items_true A3 A4 _ c3 c4 (splitW bs).1 w3 HT3.out HT4.out (by omega) HL.out).mono ?_
  rintro e w4 ⟨rfl, m4, hw4⟩
  have HF4 := Lib.hid (show Fr w3 w4 (fun _ => False) by rw [hw4]; exact Fr.drewN _ _ _)
  clear hw4
  obtain ⟨A5, c5, rfl, -, -, hr5, -⟩ := own_rd HO1.out
  have HR5 := Lib.hid (((hr5.fr HF2.out (fun _ _ _ _ h => h)).fr HF3.out (fun _ _ _ _ h => h)).fr HF4.out (fun _ _ _ _ h => h))
  have HR6 := Lib.hid ((HR2.out.fr HF3.out (fun _ _ _ _ h => h)).fr HF4.out (fun _ _ _ _ h => h))
  clear hr5
  go_wp2_with fail
  refine (same_true A5 A2 _ c5 c2 (splitW bs).2 w4 HR5.out HR6.out (by omega)).mono ?_
  rintro e w5 ⟨rfl, m5, hw5⟩
  have HF5 := Lib.hid (show Fr w4 w5 (fun _ => False) by rw [hw5]; exact Fr.drewN _ _ _)
  clear hw5
  go_wp2_with fail
  refine (alive_true w5).mono ?_
  rintro e w6 ⟨rfl, hf6⟩
  have HF6 := Lib.hid hf6
  clear hf6
  go_wp2_with fail
  go_ret
  have t : ∀ {a b c : World}, Fr a b (fun _ => False) → Fr b c (fun _ => False) → Fr a c (fun _ => False) := fun h k => h.trans k (fun _ _ h => h) (fun _ _ h => h)
  exact ⟨rfl, t (t (t (t (t HF1.out HF2.out) HF3.out) HF4.out) HF5.out) HF6.out⟩
end Go.Proofs.Ytcjednmenbdmnaa
