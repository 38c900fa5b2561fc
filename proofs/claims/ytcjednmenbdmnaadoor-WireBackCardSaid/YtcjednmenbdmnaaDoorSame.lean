import Derived.Test.YtcjednmenbdmnaaDoorD
import Derived.BigQuiet
import Derived.Deep.QuietTactic
namespace Go.Proofs.YtcjednmenbdmnaaDoor
open Go.RowKit Go.Mem Go.Wire

theorem same_true (A B : Option Addr) (n ca cb : Nat) (xs : List Int) (w : World) (ha : Rd w 1 A n (xs.map u8v)) (hb : Rd w 1 B n (xs.map u8v)) (hn : n ≤ 1099511627776) :
    Calls Tryd.prog 8 #[.slice A n ca, .slice B n cb] w fun e w' => e = .returned (.bool true) ∧ ∃ m, w' = w.drewN m := by
  have HA := Lib.hid ha
  have HB := Lib.hid hb
  clear ha hb
  have hx : xs.length = n := by simpa using HA.out.1
  have HN := Lib.hid hx
  clear hx
  have hz : ((n : Int) != (n : Int)) = false := by simp
  go_enter Tryd.func8, Tryd.ntmps8
  go_wp2
  go_loopw [5] (fun v5 wr => ∃ k : Nat, k ≤ n ∧ v5 = .int .i64 k ∧ ∃ m, wr = w.drewN m) (fun v5 _ => n - (intOf v5).toNat)
  case atStart => exact ⟨0, Nat.zero_le _, rfl, 0, rfl⟩
  case round =>
    obtain ⟨k, hk, rfl, m, rfl⟩ := hrel
    by_cases hlt : k < n
    · obtain ⟨b, off, u, rfl, hu, hc⟩ := HA.out.at_ hlt
      obtain ⟨b', off', u', rfl, hu', hc'⟩ := HB.out.at_ hlt
      obtain ⟨x, rfl, hx⟩ : ∃ x, u8v x = u ∧ xs[k]? = some x := by
        rw [List.getElem?_map] at hu
        cases h : xs[k]? with
        | none => rw [h] at hu; cases hu
        | some x => rw [h] at hu; exact ⟨x, by simpa using hu, rfl⟩
      have e1 : u' = u8v x := by
        rw [List.getElem?_map, hx] at hu'
        simpa using hu'.symm
      subst e1
      unfold u8v at hc hc'
      clear hu hu' hx
      go_wp2
      go_quiet (fail)
      go_wp2
      go_roundw
      case rel => exact ⟨k + 1, by omega, by go_num, m + nq, rfl⟩
      case measure => simp [intOf]; omega
    · have hkn : k = n := by omega
      subst hkn
      go_wp2
      go_ret
      exact ⟨rfl, m, rfl⟩

end Go.Proofs.YtcjednmenbdmnaaDoor
