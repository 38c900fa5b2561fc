import Derived.Test.YtffljhieijnakaaMth
import Derived.LoopTactic
import Derived.Deep.LoopGhost
namespace Go.Proofs.Ytffljhieijnakaa
open Go.RowKit Go.Mem Go.Rope

theorem index_behind : ∀ {l : Bs}, 1 ≤ feeds l → Lib.indexByte l 10 + 1 = (behind l 1 : Int) := by
  have key : ∀ {l : Bs}, 1 ≤ feeds l → 0 ≤ Lib.indexByte l 10 ∧ Lib.indexByte l 10 + 1 = (behind l 1 : Int) := by
    intro l
    induction l with
    | nil => intro h; simp [feeds] at h
    | cons c r ih =>
      intro h
      by_cases hc : c = 10
      · subst hc
        simp [Lib.indexByte, behind, behind_zero]
      · rw [feeds_cons hc] at h
        obtain ⟨h1, h2⟩ := ih h
        have e : (Lib.indexByte r 10 == -1) = false := by simp; omega
        have e2 : (c == 10) = false := by simpa using hc
        simp only [Lib.indexByte, e, e2, behind, if_neg hc]
        simp
        omega
  intro l h
  exact (key h).2
theorem behind_step {l : Bs} {k : Nat} (h : k < feeds l) : behind l (k + 1) = behind l k + behind (l.drop (behind l k)) 1 ∧ 1 ≤ feeds (l.drop (behind l k)) := by
  have hp := (behind_pos h).1
  have hle := behind_le l k
  have hf := feeds_take (l := l) (k := k) (n := behind l k) (by omega) (Nat.le_refl _) (fun _ => hp)
  have happ := List.take_append_drop (behind l k) l
  have hfa := feeds_app (l.take (behind l k)) (l.drop (behind l k))
  rw [happ] at hfa
  refine ⟨?_, by omega⟩
  have hr := behind_right (a := l.take (behind l k)) (k := k + 1) (l.drop (behind l k)) (by omega)
  rw [happ, hf, List.length_take, Nat.min_eq_left hle, show k + 1 - k = 1 by omega] at hr
  exact hr

theorem breaksIn_any {w : World} {B : Nat} {v : Value} {s : Bs} {h : Nat} (n : NodeAt w B v s h) (hh : h ≤ 1) (k : Nat) (hk : k ≤ s.length) :
    Calls Try.prog 37 #[v, .int .i64 (k : Int)] w fun e w' => e = .returned (.int .i64 (feeds (s.take k) : Int)) ∧ w = w' := by
  rcases Nat.eq_zero_or_pos h with h0 | h0
  · obtain ⟨rfl, rfl⟩ := n.nil h0
    have e : feeds (List.take k ([] : Bs)) = 0 := by simp [feeds]
    rw [e]
    clear n
    go_enter Try.func37, Try.ntmps37
    go_wp2_with fail
    go_ret
    exact ⟨rfl, rfl⟩
  · obtain ⟨g, rfl, kg, -, -, -⟩ := n.one (by omega)
    have c2 := cell_at kg 2
    simp at c2
    have hs := str_size s
    have hne := fun w => eq_nil_ptr w g
    have HC := Lib.hid (fun w => Try.strings_Count_one ((⟨s.toArray⟩ : ByteArray).extract 0 k) 10 w)
    have e : ((⟨s.toArray⟩ : ByteArray).extract 0 k).data.toList = s.take k := by rw [str_ext, str_list, cut]; simp
    rw [e] at HC
    have i0 : (0 : Int) ≤ (k : Int) := by omega
    have i1 : (k : Int) ≤ (s.length : Int) := by omega
    clear n kg e
    go_enter Try.func37, Try.ntmps37
    go_wp2_with fail
    refine (HC.out _).mono ?_
    rintro e w' ⟨rfl, rfl⟩
    go_wp2_with fail
    go_ret
    exact ⟨rfl, rfl⟩

theorem behindBreak_any {w : World} {B : Nat} {v : Value} {s : Bs} {h : Nat} (n : NodeAt w B v s h) (hh : h = 1) (i : Nat) (hi : i ≤ feeds s) :
    Calls Try.prog 45 #[v, .int .i64 (i : Int)] w fun e w' => e = .returned (.int .i64 (behind s i : Int)) ∧ w = w' := by
  obtain ⟨g, rfl, kg, -, hs128, -⟩ := n.one hh
  have c2 := cell_at kg 2
  simp at c2
  have hs := str_size s
  have hfl := feeds_le s
  clear n kg
  go_enter Try.func45, Try.ntmps45
  go_wp2_with fail
  go_loop [5, 7] (fun v5 v7 => ∃ k : Nat, k ≤ i ∧ v7 = .int .i64 (k : Int) ∧ v5 = .int .i64 (behind s k : Int)) (fun _ v7 => i - (intOf v7).toNat)
  case atStart => exact ⟨0, Nat.zero_le _, rfl, by rw [behind_zero]; rfl⟩
  case round =>
    obtain ⟨k, hk, rfl, rfl⟩ := hrel
    by_cases hlt : k < i
    · have hst := behind_step (l := s) (k := k) (by omega)
      have hix := index_behind hst.2
      have hle := behind_le s k
      have hle2 := behind_le s (k + 1)
      have hst1 := hst.1
      obtain ⟨m, hm⟩ : ∃ m, behind s k = m := ⟨_, rfl⟩
      rw [hm] at hst1 hix hle ⊢
      have HI := Lib.hid (Try.strings_IndexByte ((⟨s.toArray⟩ : ByteArray).extract m s.length) 10 w)
      have e : ((⟨s.toArray⟩ : ByteArray).extract m s.length).data.toList = s.drop m := by rw [str_ext, str_list, cut]; simp
      rw [e] at HI
      rw [show (10 : Int).toNat.toUInt8 = 10 from rfl] at HI
      obtain ⟨j, hj⟩ : ∃ j, Lib.indexByte (s.drop m) 10 = j := ⟨_, rfl⟩
      rw [hj] at HI hix
      have HN : Hid ((m : Int) + (j + 1) = (behind s (k + 1) : Int)) := Lib.hid (by omega)
      have HM := Lib.hid hm
      have b0 : (0 : Int) ≤ (m : Int) := by omega
      have b1 : (m : Int) ≤ (s.length : Int) := by omega
      have b2 : -1 ≤ j := by omega
      have b3 : j ≤ 128 := by omega
      have b4 : (m : Int) ≤ 128 := by omega
      clear hst hst1 hix hle hle2 hj e hm
      go_wp2_with fail
      refine HI.out.mono ?_
      rintro e w' ⟨rfl, rfl⟩
      go_wp2_with fail
      go_round
      case rel => exact ⟨k + 1, by omega, by go_num, by rw [← HN.out]⟩
      case measure => simp [intOf]; omega
    · obtain rfl : k = i := by omega
      go_wp2_with fail
      go_ret
      exact ⟨rfl, rfl⟩
end Go.Proofs.Ytffljhieijnakaa
