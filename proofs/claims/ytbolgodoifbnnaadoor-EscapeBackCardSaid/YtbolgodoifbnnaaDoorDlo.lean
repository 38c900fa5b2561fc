import Derived.Test.YtbolgodoifbnnaaDoorDlw
namespace Go.Proofs.YtbolgodoifbnnaaDoor
open Go.RowKit Go.Mem Go.Esc Go.Sort

theorem itoa_head (n : Int) : ∃ c r, Lib.itoa n = c :: r ∧ ((c.toNat : Int) == 45) = decide (n < 0) := by
  by_cases h : n < 0
  · rw [itoa_neg h]
    exact ⟨45, _, rfl, by simp [h]⟩
  · obtain ⟨c, r, e⟩ := dec_ne n.toNat
    rw [itoa_pos h]
    refine ⟨c, r, e, ?_⟩
    have := dec_head e
    simp [h]
    omega
theorem itoa_small {n : Int} (h1 : -10 < n) (h2 : n < 10) : (Lib.itoa n).length = if n < 0 then 2 else 1 := by
  by_cases h : n < 0
  · rw [itoa_neg h, Lib.decDigits_one (by omega), if_pos h]; rfl
  · rw [itoa_pos h, Lib.decDigits_one (by omega), if_neg h]; rfl
theorem cut_last (l : Bs) : (⟨l.toArray⟩ : ByteArray).extract 0 (l.length - 1) = ⟨l.dropLast.toArray⟩ := by
  have := extract_str ⟨l.toArray⟩ 0 (l.length - 1)
  rw [Nat.zero_add] at this
  rw [this, list_str, List.drop_zero, List.dropLast_eq_take]
theorem head_at {s : ByteArray} {c : UInt8} {r : Bs} (h : s.data.toList = c :: r) : ∃ hs : 0 < s.size, s[0] = c := by
  obtain ⟨hs, hc, -⟩ := drop_cons (s := s) (a := 0) (by rw [List.drop_zero, h])
  exact ⟨hs, hc⟩
theorem cut_byte (s : ByteArray) (l : Bs) (h : s.data.toList = l) : s.extract 0 (s.size - 1) = ⟨l.dropLast.toArray⟩ := by
  have e : s.size = l.length := by rw [← bytes_len, h]
  have := extract_str s 0 (s.size - 1)
  rw [Nat.zero_add, h, List.drop_zero, e] at this
  rw [e, this, List.dropLast_eq_take]
set_option maxHeartbeats 800000 in
theorem order_walk (n : Int) (W : World) (hn : inRange n) (hg : GOk W.heap.size W) :
    Calls Tryd.prog 6 #[.int .i64 n] W fun e w' => e = .returned (.bool true) ∧ Fr W w' (fun _ => False) := by
  obtain ⟨s, hsl⟩ : ∃ s : ByteArray, s.data.toList = Lib.itoa n := ⟨⟨(Lib.itoa n).toArray⟩, by simp⟩
  have hst : strV (Lib.itoa n) = .string s := by rw [← hsl]
  have hsz : s.size = (Lib.itoa n).length := by rw [← bytes_len, hsl]
  have HI := Int_any W.heap.size n W hn (Nat.le_refl _) hg
  rw [hst] at HI
  have HI := Lib.hid HI
  have hil := itoa_len n hn
  obtain ⟨c, r, hcr, hc⟩ := itoa_head n
  obtain ⟨h0s, hs0⟩ := head_at (hsl.trans hcr)
  rw [← hs0] at hc
  have HP := fun (w : World) (h : Fr W w (fun _ => False)) => ParseInt_any W.heap.size (Lib.itoa n).dropLast w (by rw [List.length_dropLast]; omega) h.size (hg.fr (Nat.le_refl _) h)
  have hcut : strV (Lib.itoa n).dropLast = .string (s.extract 0 (s.size - 1)) := by rw [cut_byte s _ hsl]
  rw [hcut] at HP
  have HP := Lib.hid HP
  have e0 : ((s.size : Int) == 0) = false := beq_eq_false_iff_ne.2 (by omega)
  have b1 := hn.1
  have b2 := hn.2
  have b3 : s.size ≤ 20 := by omega
  have b4 : (1 : Int) ≤ (s.size : Int) := by omega
  have hsmall := @itoa_small n
  have hshort := itoa_short n
  have HN := Lib.hid hn
  clear hg hil hs0 hst hsl hcut hn
  by_cases hs : -10 < n ∧ n < 10
  · obtain ⟨h1, h2⟩ := hs
    have hl := hsmall h1 h2
    rw [← hsz] at hl
    generalize parsed (Lib.itoa n).dropLast = mk at HP
    obtain ⟨m, k⟩ := mk
    clear hsz hsmall hshort hcr
    by_cases h0 : n < 0
    · rw [if_pos h0] at hl
      rw [decide_eq_true h0] at hc
      have e1 : ((s.size : Int) == 1) = false := beq_eq_false_iff_ne.2 (by omega)
      have e2 : ((s.size : Int) == 2) = true := beq_iff_eq.2 (by omega)
      clear hl
      go_enter Tryd.func6, Tryd.ntmps6
      go_wp2_with fail
      refine HI.out.mono ?_
      rintro e w2 ⟨rfl, hf2⟩
      have HF2 := Lib.hid hf2
      have HP2 := Lib.hid (HP.out w2 hf2)
      clear hf2
      go_wp2_with fail
      refine HP2.out.mono ?_
      rintro e w3 ⟨rfl, hf3⟩
      have HF3 := Lib.hid (ff HF2.out hf3)
      clear hf3
      go_wp2_with fail
      go_ret
      exact ⟨rfl, HF3.out⟩
    · rw [if_neg h0] at hl
      rw [decide_eq_false h0] at hc
      have h0' : 0 ≤ n := by omega
      have e1 : ((s.size : Int) == 1) = true := beq_iff_eq.2 (by omega)
      clear hl h0
      go_enter Tryd.func6, Tryd.ntmps6
      go_wp2_with fail
      refine HI.out.mono ?_
      rintro e w2 ⟨rfl, hf2⟩
      have HF2 := Lib.hid hf2
      have HP2 := Lib.hid (HP.out w2 hf2)
      clear hf2
      go_wp2_with fail
      refine HP2.out.mono ?_
      rintro e w3 ⟨rfl, hf3⟩
      have HF3 := Lib.hid (ff HF2.out hf3)
      clear hf3
      go_wp2_with fail
      go_ret
      exact ⟨rfl, HF3.out⟩
  · have h10 : n ≤ -10 ∨ 10 ≤ n := by omega
    have hp : parsed (Lib.itoa n).dropLast = (n.tdiv 10, 0) := by
      rw [hshort h10]
      refine parsed_itoa _ ?_
      have := HN.out
      unfold inRange at this ⊢
      by_cases h0 : n < 0
      · rw [tdiv_neg h0]; omega
      · rw [tdiv_pos h0]; omega
    rw [hp] at HP
    clear hsz hsmall hshort hcr hp hs
    rcases h10 with h | h
    · have h0 : n < 0 := by omega
      rw [decide_eq_true h0] at hc
      clear h0
      have e5 : (n.tdiv 10 == n.tdiv 10) = true := by simp
      have h0 : n < 0 := by omega
      go_enter Tryd.func6, Tryd.ntmps6
      go_wp2_with fail
      refine HI.out.mono ?_
      rintro e w2 ⟨rfl, hf2⟩
      have HF2 := Lib.hid hf2
      have HP2 := Lib.hid (HP.out w2 hf2)
      clear hf2
      go_wp2_with fail
      refine HP2.out.mono ?_
      rintro e w3 ⟨rfl, hf3⟩
      have HF3 := Lib.hid (ff HF2.out hf3)
      clear hf3
      go_wp2_with fail
      refine (alive_any _).mono ?_
      rintro e w4 ⟨rfl, hf4⟩
      have HF4 := Lib.hid (ff HF3.out hf4)
      clear hf4
      go_wp2_with fail
      go_ret
      exact ⟨rfl, HF4.out⟩
    · rw [decide_eq_false (show ¬ n < 0 by omega)] at hc
      rw [tdiv_pos (show ¬ n < 0 by omega)] at HP
      have e5 : (n / 10 == n / 10) = true := by simp
      go_enter Tryd.func6, Tryd.ntmps6
      go_wp2_with fail
      refine HI.out.mono ?_
      rintro e w2 ⟨rfl, hf2⟩
      have HF2 := Lib.hid hf2
      have HP2 := Lib.hid (HP.out w2 hf2)
      clear hf2
      go_wp2_with fail
      refine HP2.out.mono ?_
      rintro e w3 ⟨rfl, hf3⟩
      have HF3 := Lib.hid (ff HF2.out hf3)
      clear hf3
      go_wp2_with fail
      refine (alive_any _).mono ?_
      rintro e w4 ⟨rfl, hf4⟩
      have HF4 := Lib.hid (ff HF3.out hf4)
      clear hf4
      go_wp2_with fail
      go_ret
      exact ⟨rfl, HF4.out⟩
end Go.Proofs.YtbolgodoifbnnaaDoor
