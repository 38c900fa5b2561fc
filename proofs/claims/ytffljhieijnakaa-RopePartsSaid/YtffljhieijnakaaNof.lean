import Derived.Test.YtffljhieijnakaaJoi
namespace Go.Proofs.Ytffljhieijnakaa
open Go.RowKit Go.Mem Go.Rope

theorem NodeAt.height_le' {w : World} {B : Nat} {v : Value} {s : Bs} {h : Nat} (n : NodeAt w B v s h) (hs : s.length ≤ 100000) : h ≤ 25 := by
  rcases Nat.eq_zero_or_pos h with h0 | h0
  · omega
  · have h1 := n.few.2 h0
    rcases Nat.lt_or_ge 25 h with h3 | h3
    · have := least_mono (show 26 ≤ h from h3)
      have e : least 26 = 196418 := by decide +kernel
      omega
    · exact h3
def GivesN (w : World) (s : Bs) (e : Ending) (w' : World) : Prop := ∃ h, Gives w s h e w'
theorem str_ext (l : Bs) (a b : Nat) : (⟨l.toArray⟩ : ByteArray).extract a b = ⟨(cut l a b).toArray⟩ := by
  apply ByteArray.ext
  apply Array.toList_inj.1
  simp [cut, List.extract, List.drop_take]

set_option maxHeartbeats 1000000 in
theorem nodeOf_step (l : Bs) (w : World) (h1 : 128 < l.length) (hz : l.length ≤ 100000) (IH : ∀ (k : Bs) (w : World), k.length < l.length → Calls Try.prog 27 #[strV k] w (GivesN w k)) : Calls Try.prog 27 #[strV l] w (GivesN w l) := by
  have hs := str_size l
  have hne := str_ne (l := l) (by intro e; rw [e] at h1; simp at h1)
  obtain ⟨m, hm⟩ : ∃ m : Nat, m = l.length / 2 := ⟨_, rfl⟩
  have hmid : Int.tdiv (l.length : Int) 2 = (m : Int) := by rw [hm, Int.tdiv_eq_ediv_of_nonneg (by omega)]; omega
  have hm0 : (0 : Int) ≤ (m : Int) := by omega
  have hm1 : (m : Int) ≤ (l.length : Int) := by omega
  have HA := Lib.hid (fun w => IH (cut l 0 m) w (by rw [cut_len (by omega) (by omega)]; omega))
  have HB := Lib.hid (fun w => IH (cut l m l.length) w (by rw [cut_len (by omega) (by omega)]; omega))
  have hw : wrap64 (m : Int) = (m : Int) := by unfold wrap64; omega
  rw [show strV (cut l 0 m) = .string ((⟨l.toArray⟩ : ByteArray).extract 0 m) by rw [str_ext]] at HA
  rw [show strV (cut l m l.length) = .string ((⟨l.toArray⟩ : ByteArray).extract m l.length) by rw [str_ext]] at HB
  have h128 : (128 : Int) < (l.length : Int) := by omega
  have HZ : Hid ((cut l 0 m).length + (cut l m l.length).length ≤ 100000 ∧ (cut l 0 m).length ≤ 100000 ∧ (cut l m l.length).length ≤ 100000) := by
    rw [cut_len (by omega) (by omega), cut_len (by omega) (by omega)]
    exact Lib.hid ⟨by omega, by omega, by omega⟩
  clear IH hm h1 hz
  go_enter Try.func27, Try.ntmps27
  go_wp2_with fail
  go_region_held3 (fun w' => Fr w w' (fun _ => False))
    (first | with_reducible exact Fr.drew _ _ | with_reducible exact ff hS hf5 | with_reducible exact ff hS hf6 | with_reducible exact ff hS hf7 | with_reducible assumption)
    ((first
      | (go_at_call 27; rename_i hS _ _; first
          | ((with_reducible refine (HA.out _).mono ?_); rintro e w5 ⟨h5, hf5, v5, rfl, n5⟩)
          | ((with_reducible refine (HB.out _).mono ?_); rintro e w6 ⟨h6, hf6, v6, rfl, n6⟩))
      | (go_at_call 39; rename_i hS _ _; refine (join_any (n5.keepo hf6) n6 HZ.out.1 (Nat.le_trans (n5.height_le' HZ.out.2.1) (by omega)) (Nat.le_trans (n6.height_le' HZ.out.2.2) (by omega))).mono ?_; rintro e w7 ⟨h7, l7, u7, hf7, v7, rfl, n7⟩)))
  rename_i hS
  have HS := Lib.hid hS
  have HN := Lib.hid n7
  clear hS n7
  go_wp2_with fail
  go_ret
  exact ⟨h7, HS.out, _, rfl, HN.out.cast (by rw [cut_join (by omega) (by omega), cut_all])⟩

theorem nodeOf_any (l : Bs) (hz : l.length ≤ 100000) (w : World) : Calls Try.prog 27 #[strV l] w (GivesN w l) := by
  obtain ⟨n, hn⟩ : ∃ n, l.length ≤ n := ⟨_, Nat.le_refl _⟩
  induction n generalizing l w with
  | zero =>
    obtain rfl : l = [] := List.length_eq_zero_iff.1 (by omega)
    exact (nodeOf_nil w).mono fun e w' h => ⟨0, h⟩
  | succ n ih =>
    by_cases h0 : l = []
    · subst h0
      exact (nodeOf_nil w).mono fun e w' h => ⟨0, h⟩
    · rcases Nat.lt_or_ge 128 l.length with h | h
      · exact nodeOf_step l w h hz fun k w hk => ih k (by omega) w (by omega)
      · exact (nodeOf_leaf l w h0 h).mono fun e w' h => ⟨1, h⟩
end Go.Proofs.Ytffljhieijnakaa
