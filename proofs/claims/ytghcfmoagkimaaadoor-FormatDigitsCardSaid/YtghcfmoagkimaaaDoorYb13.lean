import Derived.Test.YtghcfmoagkimaaaDoorYb12
import Derived.Shelf.Strings.BuilderK
import Derived.Lib.FrozenHead2
import Derived.Lib.OthersKept
import Derived.Lib.Hide
import Derived.Lib.MinMax
namespace Go.Proofs.YtghcfmoagkimaaaDoor
open Go.RowKit Go.Mem Go.Lin Go.Fmx

theorem sl_idx {P : Program} (w : World) (t : TypeId) (ht : P.underlying t = some .string) (s : Bs) (i : Nat) (c : UInt8) (hc : s[i]? = some c) : (Instr.index t (strV s) (.int .i64 (i : Int))).run P w = .ok (.int .u8 (c.toNat : Int)) w := by
  obtain ⟨hi, e⟩ := List.getElem?_eq_some_iff.1 hc
  have hz : (⟨s.toArray⟩ : ByteArray).size = s.length := S6.str_size s
  have h0 : (0 : Int) ≤ (i : Int) := by omega
  have h1 : (i : Int) < ((⟨s.toArray⟩ : ByteArray).size : Int) := by omega
  have hg : (⟨s.toArray⟩ : ByteArray)[i]'(by omega) = c := e
  simp [go_sem, ht, h0, hz, hi, hg]
theorem plainN_yes {n : Nat} (h : 97 ≤ n ∧ n ≤ 122 ∨ 65 ≤ n ∧ n ≤ 90 ∨ 48 ≤ n ∧ n ≤ 57 ∨ n = 43 ∨ n = 45) : plainN n = true := decide_eq_true h
theorem plainN_no {n : Nat} (h : ¬ (97 ≤ n ∧ n ≤ 122 ∨ 65 ≤ n ∧ n ≤ 90 ∨ 48 ≤ n ∧ n ≤ 57 ∨ n = 43 ∨ n = 45)) : plainN n = false := decide_eq_false h
set_option maxHeartbeats 3200000 in
theorem r16Plain_any (s : Bs) (w : World) (hs : s.length ≤ 1000000) : Calls Tryd.prog 16 #[strV s] w fun e w' => e = .returned (.bool (plainB s)) ∧ w' = w := by
  by_cases hl : 3 ≤ s.length ∧ s.length ≤ 6
  · have HGd := Lib.hid (plain_good hl)
    go_enter Tryd.func16, Tryd.ntmps16
    obtain ⟨l1, l2⟩ := hl
    go_wp2_with fail
    go_loopg [3, 4] s.length (fun g v3 _ wr => ∃ i : Nat, v3 = intV i ∧ i + g = s.length ∧ (∀ (j : Nat) (c : UInt8), j < i → s[j]? = some c → plainN c.toNat = true) ∧ wr = w)
    case atStart => exact ⟨0, rfl, by omega, fun k c hk => by omega, rfl⟩
    case round =>
      obtain ⟨i, rfl, hg, hno, rfl⟩ := hrel
      have HNo := Lib.hid hno
      clear hno
      by_cases hlt : i < s.length
      · have i0 : (i : Int) < (s.length : Int) := by omega
        obtain ⟨c, hc⟩ : ∃ c, s[i]? = some c := ⟨s[i], List.getElem?_eq_getElem hlt⟩
        have HI := fun w => sl_idx (P := Tryd.prog) w 9 Tryd.underlying9 s i c hc
        have HBd := Lib.hid (plain_bad hc)
        have HSt := Lib.hid (fun (h : plainN c.toNat = true) (j : Nat) (x : UInt8) (hj : j < i + 1) (hx : s[j]? = some x) => (show plainN x.toNat = true by
          by_cases e : j = i
          · subst e
            rw [hc] at hx
            cases hx
            exact h
          · exact HNo.out j x (by omega) hx))
        have hn : c.toNat < 256 := c.toNat_lt
        obtain ⟨n, hnc⟩ : ∃ n, c.toNat = n := ⟨_, rfl⟩
        rw [hnc] at HI HBd HSt hn
        clear hc hnc
        have hseg : n < 43 ∨ n = 43 ∨ n = 44 ∨ n = 45 ∨ (46 ≤ n ∧ n < 48) ∨ (48 ≤ n ∧ n ≤ 57) ∨ (58 ≤ n ∧ n < 65) ∨ (65 ≤ n ∧ n ≤ 90) ∨ (91 ≤ n ∧ n < 97) ∨ (97 ≤ n ∧ n ≤ 122) ∨ 122 < n := by omega
        rcases hseg with h | h | h | h | h | h | h | h | h | h | h
        · have HR := Lib.hid (HBd.out (plainN_no (by omega)))
          have p0 : (n : Int) < 97 := by omega
          have d0 : decide (97 ≤ (n : Int)) = false := decide_eq_false (by omega)
          have p1 : (n : Int) ≤ 122 := by omega
          have d1 : decide ((n : Int) ≤ 122) = true := decide_eq_true (by omega)
          have p2 : (n : Int) < 65 := by omega
          have d2 : decide (65 ≤ (n : Int)) = false := decide_eq_false (by omega)
          have p3 : (n : Int) ≤ 90 := by omega
          have d3 : decide ((n : Int) ≤ 90) = true := decide_eq_true (by omega)
          have p4 : (n : Int) < 48 := by omega
          have d4 : decide (48 ≤ (n : Int)) = false := decide_eq_false (by omega)
          have p5 : (n : Int) ≤ 57 := by omega
          have d5 : decide ((n : Int) ≤ 57) = true := decide_eq_true (by omega)
          have q43 : ((n : Int) == 43) = false := by rw [beq_eq_false_iff_ne]; omega
          have q45 : ((n : Int) == 45) = false := by rw [beq_eq_false_iff_ne]; omega
          clear h
          go_wp2_with fail
          go_ret
          exact ⟨by rw [HR.out]; rfl, rfl⟩
        · have HN := Lib.hid (HSt.out (plainN_yes (by omega)))
          have p0 : (n : Int) < 97 := by omega
          have d0 : decide (97 ≤ (n : Int)) = false := decide_eq_false (by omega)
          have p1 : (n : Int) ≤ 122 := by omega
          have d1 : decide ((n : Int) ≤ 122) = true := decide_eq_true (by omega)
          have p2 : (n : Int) < 65 := by omega
          have d2 : decide (65 ≤ (n : Int)) = false := decide_eq_false (by omega)
          have p3 : (n : Int) ≤ 90 := by omega
          have d3 : decide ((n : Int) ≤ 90) = true := decide_eq_true (by omega)
          have p4 : (n : Int) < 48 := by omega
          have d4 : decide (48 ≤ (n : Int)) = false := decide_eq_false (by omega)
          have p5 : (n : Int) ≤ 57 := by omega
          have d5 : decide ((n : Int) ≤ 57) = true := decide_eq_true (by omega)
          have q43 : ((n : Int) == 43) = true := by rw [beq_iff_eq]; omega
          have q45 : ((n : Int) == 45) = false := by rw [beq_eq_false_iff_ne]; omega
          clear h
          go_wp2_with fail
          clear HI
          go_roundg (s.length - (i + 1))
          case measure => omega
          case rel => exact ⟨i + 1, by go_num, by omega, HN.out, rfl⟩
        · have HR := Lib.hid (HBd.out (plainN_no (by omega)))
          have p0 : (n : Int) < 97 := by omega
          have d0 : decide (97 ≤ (n : Int)) = false := decide_eq_false (by omega)
          have p1 : (n : Int) ≤ 122 := by omega
          have d1 : decide ((n : Int) ≤ 122) = true := decide_eq_true (by omega)
          have p2 : (n : Int) < 65 := by omega
          have d2 : decide (65 ≤ (n : Int)) = false := decide_eq_false (by omega)
          have p3 : (n : Int) ≤ 90 := by omega
          have d3 : decide ((n : Int) ≤ 90) = true := decide_eq_true (by omega)
          have p4 : (n : Int) < 48 := by omega
          have d4 : decide (48 ≤ (n : Int)) = false := decide_eq_false (by omega)
          have p5 : (n : Int) ≤ 57 := by omega
          have d5 : decide ((n : Int) ≤ 57) = true := decide_eq_true (by omega)
          have q43 : ((n : Int) == 43) = false := by rw [beq_eq_false_iff_ne]; omega
          have q45 : ((n : Int) == 45) = false := by rw [beq_eq_false_iff_ne]; omega
          clear h
          go_wp2_with fail
          go_ret
          exact ⟨by rw [HR.out]; rfl, rfl⟩
        · have HN := Lib.hid (HSt.out (plainN_yes (by omega)))
          have p0 : (n : Int) < 97 := by omega
          have d0 : decide (97 ≤ (n : Int)) = false := decide_eq_false (by omega)
          have p1 : (n : Int) ≤ 122 := by omega
          have d1 : decide ((n : Int) ≤ 122) = true := decide_eq_true (by omega)
          have p2 : (n : Int) < 65 := by omega
          have d2 : decide (65 ≤ (n : Int)) = false := decide_eq_false (by omega)
          have p3 : (n : Int) ≤ 90 := by omega
          have d3 : decide ((n : Int) ≤ 90) = true := decide_eq_true (by omega)
          have p4 : (n : Int) < 48 := by omega
          have d4 : decide (48 ≤ (n : Int)) = false := decide_eq_false (by omega)
          have p5 : (n : Int) ≤ 57 := by omega
          have d5 : decide ((n : Int) ≤ 57) = true := decide_eq_true (by omega)
          have q43 : ((n : Int) == 43) = false := by rw [beq_eq_false_iff_ne]; omega
          have q45 : ((n : Int) == 45) = true := by rw [beq_iff_eq]; omega
          clear h
          go_wp2_with fail
          clear HI
          go_roundg (s.length - (i + 1))
          case measure => omega
          case rel => exact ⟨i + 1, by go_num, by omega, HN.out, rfl⟩
        · have HR := Lib.hid (HBd.out (plainN_no (by omega)))
          have p0 : (n : Int) < 97 := by omega
          have d0 : decide (97 ≤ (n : Int)) = false := decide_eq_false (by omega)
          have p1 : (n : Int) ≤ 122 := by omega
          have d1 : decide ((n : Int) ≤ 122) = true := decide_eq_true (by omega)
          have p2 : (n : Int) < 65 := by omega
          have d2 : decide (65 ≤ (n : Int)) = false := decide_eq_false (by omega)
          have p3 : (n : Int) ≤ 90 := by omega
          have d3 : decide ((n : Int) ≤ 90) = true := decide_eq_true (by omega)
          have p4 : (n : Int) < 48 := by omega
          have d4 : decide (48 ≤ (n : Int)) = false := decide_eq_false (by omega)
          have p5 : (n : Int) ≤ 57 := by omega
          have d5 : decide ((n : Int) ≤ 57) = true := decide_eq_true (by omega)
          have q43 : ((n : Int) == 43) = false := by rw [beq_eq_false_iff_ne]; omega
          have q45 : ((n : Int) == 45) = false := by rw [beq_eq_false_iff_ne]; omega
          clear h
          go_wp2_with fail
          go_ret
          exact ⟨by rw [HR.out]; rfl, rfl⟩
        · have HN := Lib.hid (HSt.out (plainN_yes (by omega)))
          have p0 : (n : Int) < 97 := by omega
          have d0 : decide (97 ≤ (n : Int)) = false := decide_eq_false (by omega)
          have p1 : (n : Int) ≤ 122 := by omega
          have d1 : decide ((n : Int) ≤ 122) = true := decide_eq_true (by omega)
          have p2 : (n : Int) < 65 := by omega
          have d2 : decide (65 ≤ (n : Int)) = false := decide_eq_false (by omega)
          have p3 : (n : Int) ≤ 90 := by omega
          have d3 : decide ((n : Int) ≤ 90) = true := decide_eq_true (by omega)
          have p4 : 48 ≤ (n : Int) := by omega
          have d4 : decide (48 ≤ (n : Int)) = true := decide_eq_true (by omega)
          have p5 : (n : Int) ≤ 57 := by omega
          have d5 : decide ((n : Int) ≤ 57) = true := decide_eq_true (by omega)
          have q43 : ((n : Int) == 43) = false := by rw [beq_eq_false_iff_ne]; omega
          have q45 : ((n : Int) == 45) = false := by rw [beq_eq_false_iff_ne]; omega
          clear h
          go_wp2_with fail
          clear HI
          go_roundg (s.length - (i + 1))
          case measure => omega
          case rel => exact ⟨i + 1, by go_num, by omega, HN.out, rfl⟩
        · have HR := Lib.hid (HBd.out (plainN_no (by omega)))
          have p0 : (n : Int) < 97 := by omega
          have d0 : decide (97 ≤ (n : Int)) = false := decide_eq_false (by omega)
          have p1 : (n : Int) ≤ 122 := by omega
          have d1 : decide ((n : Int) ≤ 122) = true := decide_eq_true (by omega)
          have p2 : (n : Int) < 65 := by omega
          have d2 : decide (65 ≤ (n : Int)) = false := decide_eq_false (by omega)
          have p3 : (n : Int) ≤ 90 := by omega
          have d3 : decide ((n : Int) ≤ 90) = true := decide_eq_true (by omega)
          have p4 : 48 ≤ (n : Int) := by omega
          have d4 : decide (48 ≤ (n : Int)) = true := decide_eq_true (by omega)
          have p5 : 57 < (n : Int) := by omega
          have d5 : decide ((n : Int) ≤ 57) = false := decide_eq_false (by omega)
          have q43 : ((n : Int) == 43) = false := by rw [beq_eq_false_iff_ne]; omega
          have q45 : ((n : Int) == 45) = false := by rw [beq_eq_false_iff_ne]; omega
          clear h
          go_wp2_with fail
          go_ret
          exact ⟨by rw [HR.out]; rfl, rfl⟩
        · have HN := Lib.hid (HSt.out (plainN_yes (by omega)))
          have p0 : (n : Int) < 97 := by omega
          have d0 : decide (97 ≤ (n : Int)) = false := decide_eq_false (by omega)
          have p1 : (n : Int) ≤ 122 := by omega
          have d1 : decide ((n : Int) ≤ 122) = true := decide_eq_true (by omega)
          have p2 : 65 ≤ (n : Int) := by omega
          have d2 : decide (65 ≤ (n : Int)) = true := decide_eq_true (by omega)
          have p3 : (n : Int) ≤ 90 := by omega
          have d3 : decide ((n : Int) ≤ 90) = true := decide_eq_true (by omega)
          have p4 : 48 ≤ (n : Int) := by omega
          have d4 : decide (48 ≤ (n : Int)) = true := decide_eq_true (by omega)
          have p5 : 57 < (n : Int) := by omega
          have d5 : decide ((n : Int) ≤ 57) = false := decide_eq_false (by omega)
          have q43 : ((n : Int) == 43) = false := by rw [beq_eq_false_iff_ne]; omega
          have q45 : ((n : Int) == 45) = false := by rw [beq_eq_false_iff_ne]; omega
          clear h
          go_wp2_with fail
          clear HI
          go_roundg (s.length - (i + 1))
          case measure => omega
          case rel => exact ⟨i + 1, by go_num, by omega, HN.out, rfl⟩
        · have HR := Lib.hid (HBd.out (plainN_no (by omega)))
          have p0 : (n : Int) < 97 := by omega
          have d0 : decide (97 ≤ (n : Int)) = false := decide_eq_false (by omega)
          have p1 : (n : Int) ≤ 122 := by omega
          have d1 : decide ((n : Int) ≤ 122) = true := decide_eq_true (by omega)
          have p2 : 65 ≤ (n : Int) := by omega
          have d2 : decide (65 ≤ (n : Int)) = true := decide_eq_true (by omega)
          have p3 : 90 < (n : Int) := by omega
          have d3 : decide ((n : Int) ≤ 90) = false := decide_eq_false (by omega)
          have p4 : 48 ≤ (n : Int) := by omega
          have d4 : decide (48 ≤ (n : Int)) = true := decide_eq_true (by omega)
          have p5 : 57 < (n : Int) := by omega
          have d5 : decide ((n : Int) ≤ 57) = false := decide_eq_false (by omega)
          have q43 : ((n : Int) == 43) = false := by rw [beq_eq_false_iff_ne]; omega
          have q45 : ((n : Int) == 45) = false := by rw [beq_eq_false_iff_ne]; omega
          clear h
          go_wp2_with fail
          go_ret
          exact ⟨by rw [HR.out]; rfl, rfl⟩
        · have HN := Lib.hid (HSt.out (plainN_yes (by omega)))
          have p0 : 97 ≤ (n : Int) := by omega
          have d0 : decide (97 ≤ (n : Int)) = true := decide_eq_true (by omega)
          have p1 : (n : Int) ≤ 122 := by omega
          have d1 : decide ((n : Int) ≤ 122) = true := decide_eq_true (by omega)
          have p2 : 65 ≤ (n : Int) := by omega
          have d2 : decide (65 ≤ (n : Int)) = true := decide_eq_true (by omega)
          have p3 : 90 < (n : Int) := by omega
          have d3 : decide ((n : Int) ≤ 90) = false := decide_eq_false (by omega)
          have p4 : 48 ≤ (n : Int) := by omega
          have d4 : decide (48 ≤ (n : Int)) = true := decide_eq_true (by omega)
          have p5 : 57 < (n : Int) := by omega
          have d5 : decide ((n : Int) ≤ 57) = false := decide_eq_false (by omega)
          have q43 : ((n : Int) == 43) = false := by rw [beq_eq_false_iff_ne]; omega
          have q45 : ((n : Int) == 45) = false := by rw [beq_eq_false_iff_ne]; omega
          clear h
          go_wp2_with fail
          clear HI
          go_roundg (s.length - (i + 1))
          case measure => omega
          case rel => exact ⟨i + 1, by go_num, by omega, HN.out, rfl⟩
        · have HR := Lib.hid (HBd.out (plainN_no (by omega)))
          have p0 : 97 ≤ (n : Int) := by omega
          have d0 : decide (97 ≤ (n : Int)) = true := decide_eq_true (by omega)
          have p1 : 122 < (n : Int) := by omega
          have d1 : decide ((n : Int) ≤ 122) = false := decide_eq_false (by omega)
          have p2 : 65 ≤ (n : Int) := by omega
          have d2 : decide (65 ≤ (n : Int)) = true := decide_eq_true (by omega)
          have p3 : 90 < (n : Int) := by omega
          have d3 : decide ((n : Int) ≤ 90) = false := decide_eq_false (by omega)
          have p4 : 48 ≤ (n : Int) := by omega
          have d4 : decide (48 ≤ (n : Int)) = true := decide_eq_true (by omega)
          have p5 : 57 < (n : Int) := by omega
          have d5 : decide ((n : Int) ≤ 57) = false := decide_eq_false (by omega)
          have q43 : ((n : Int) == 43) = false := by rw [beq_eq_false_iff_ne]; omega
          have q45 : ((n : Int) == 45) = false := by rw [beq_eq_false_iff_ne]; omega
          clear h
          go_wp2_with fail
          go_ret
          exact ⟨by rw [HR.out]; rfl, rfl⟩
      · have HR := Lib.hid (HGd.out (fun j c hj hc => HNo.out j c (by omega) hc))
        have i0 : ¬ (i : Int) < (s.length : Int) := by omega
        go_wp2_with fail
        go_ret
        exact ⟨by rw [HR.out]; rfl, rfl⟩
  · have HR := Lib.hid (plain_len hl)
    by_cases h3 : s.length < 3
    · have h3 : (s.length : Int) < 3 := by omega
      clear hl
      go_enter Tryd.func16, Tryd.ntmps16
      go_wp2_with fail
      go_ret
      exact ⟨by rw [HR.out]; rfl, rfl⟩
    · have h3 : 3 ≤ (s.length : Int) := by omega
      have h6 : 6 < (s.length : Int) := by omega
      clear hl
      go_enter Tryd.func16, Tryd.ntmps16
      go_wp2_with fail
      go_ret
      exact ⟨by rw [HR.out]; rfl, rfl⟩
end Go.Proofs.YtghcfmoagkimaaaDoor
namespace Go.Proofs.YtghcfmoagkimaaaDoor
open Go.RowKit Go.Mem Go.Lin Go.Fmx

set_option maxHeartbeats 1600000 in
theorem f16fits_any (n : Nat) (hn : n < 256) (w : World) : Calls Tryd.prog 21 #[.int .u8 (n : Int)] w fun e w' => e = .returned (.bool (plainN n)) ∧ w' = w := by
  have hseg : n < 43 ∨ n = 43 ∨ n = 44 ∨ n = 45 ∨ (46 ≤ n ∧ n < 48) ∨ (48 ≤ n ∧ n ≤ 57) ∨ (58 ≤ n ∧ n < 65) ∨ (65 ≤ n ∧ n ≤ 90) ∨ (91 ≤ n ∧ n < 97) ∨ (97 ≤ n ∧ n ≤ 122) ∨ 122 < n := by omega
  rcases hseg with h | h | h | h | h | h | h | h | h | h | h
  · have HN : plainN n = false := plainN_no (by omega)
    rw [HN]
    clear HN
    have p0 : (n : Int) < 97 := by omega
    have d0 : decide (97 ≤ (n : Int)) = false := decide_eq_false (by omega)
    have p1 : (n : Int) ≤ 122 := by omega
    have d1 : decide ((n : Int) ≤ 122) = true := decide_eq_true (by omega)
    have p2 : (n : Int) < 65 := by omega
    have d2 : decide (65 ≤ (n : Int)) = false := decide_eq_false (by omega)
    have p3 : (n : Int) ≤ 90 := by omega
    have d3 : decide ((n : Int) ≤ 90) = true := decide_eq_true (by omega)
    have p4 : (n : Int) < 48 := by omega
    have d4 : decide (48 ≤ (n : Int)) = false := decide_eq_false (by omega)
    have p5 : (n : Int) ≤ 57 := by omega
    have d5 : decide ((n : Int) ≤ 57) = true := decide_eq_true (by omega)
    have q43 : ((n : Int) == 43) = false := by rw [beq_eq_false_iff_ne]; omega
    have q45 : ((n : Int) == 45) = false := by rw [beq_eq_false_iff_ne]; omega
    clear h
    go_enter Tryd.func21, Tryd.ntmps21
    go_wp2_with fail
    go_ret
    exact ⟨rfl, rfl⟩
  · have HN : plainN n = true := plainN_yes (by omega)
    rw [HN]
    clear HN
    have p0 : (n : Int) < 97 := by omega
    have d0 : decide (97 ≤ (n : Int)) = false := decide_eq_false (by omega)
    have p1 : (n : Int) ≤ 122 := by omega
    have d1 : decide ((n : Int) ≤ 122) = true := decide_eq_true (by omega)
    have p2 : (n : Int) < 65 := by omega
    have d2 : decide (65 ≤ (n : Int)) = false := decide_eq_false (by omega)
    have p3 : (n : Int) ≤ 90 := by omega
    have d3 : decide ((n : Int) ≤ 90) = true := decide_eq_true (by omega)
    have p4 : (n : Int) < 48 := by omega
    have d4 : decide (48 ≤ (n : Int)) = false := decide_eq_false (by omega)
    have p5 : (n : Int) ≤ 57 := by omega
    have d5 : decide ((n : Int) ≤ 57) = true := decide_eq_true (by omega)
    have q43 : ((n : Int) == 43) = true := by rw [beq_iff_eq]; omega
    have q45 : ((n : Int) == 45) = false := by rw [beq_eq_false_iff_ne]; omega
    clear h
    go_enter Tryd.func21, Tryd.ntmps21
    go_wp2_with fail
    go_ret
    exact ⟨rfl, rfl⟩
  · have HN : plainN n = false := plainN_no (by omega)
    rw [HN]
    clear HN
    have p0 : (n : Int) < 97 := by omega
    have d0 : decide (97 ≤ (n : Int)) = false := decide_eq_false (by omega)
    have p1 : (n : Int) ≤ 122 := by omega
    have d1 : decide ((n : Int) ≤ 122) = true := decide_eq_true (by omega)
    have p2 : (n : Int) < 65 := by omega
    have d2 : decide (65 ≤ (n : Int)) = false := decide_eq_false (by omega)
    have p3 : (n : Int) ≤ 90 := by omega
    have d3 : decide ((n : Int) ≤ 90) = true := decide_eq_true (by omega)
    have p4 : (n : Int) < 48 := by omega
    have d4 : decide (48 ≤ (n : Int)) = false := decide_eq_false (by omega)
    have p5 : (n : Int) ≤ 57 := by omega
    have d5 : decide ((n : Int) ≤ 57) = true := decide_eq_true (by omega)
    have q43 : ((n : Int) == 43) = false := by rw [beq_eq_false_iff_ne]; omega
    have q45 : ((n : Int) == 45) = false := by rw [beq_eq_false_iff_ne]; omega
    clear h
    go_enter Tryd.func21, Tryd.ntmps21
    go_wp2_with fail
    go_ret
    exact ⟨rfl, rfl⟩
  · have HN : plainN n = true := plainN_yes (by omega)
    rw [HN]
    clear HN
    have p0 : (n : Int) < 97 := by omega
    have d0 : decide (97 ≤ (n : Int)) = false := decide_eq_false (by omega)
    have p1 : (n : Int) ≤ 122 := by omega
    have d1 : decide ((n : Int) ≤ 122) = true := decide_eq_true (by omega)
    have p2 : (n : Int) < 65 := by omega
    have d2 : decide (65 ≤ (n : Int)) = false := decide_eq_false (by omega)
    have p3 : (n : Int) ≤ 90 := by omega
    have d3 : decide ((n : Int) ≤ 90) = true := decide_eq_true (by omega)
    have p4 : (n : Int) < 48 := by omega
    have d4 : decide (48 ≤ (n : Int)) = false := decide_eq_false (by omega)
    have p5 : (n : Int) ≤ 57 := by omega
    have d5 : decide ((n : Int) ≤ 57) = true := decide_eq_true (by omega)
    have q43 : ((n : Int) == 43) = false := by rw [beq_eq_false_iff_ne]; omega
    have q45 : ((n : Int) == 45) = true := by rw [beq_iff_eq]; omega
    clear h
    go_enter Tryd.func21, Tryd.ntmps21
    go_wp2_with fail
    go_ret
    exact ⟨rfl, rfl⟩
  · have HN : plainN n = false := plainN_no (by omega)
    rw [HN]
    clear HN
    have p0 : (n : Int) < 97 := by omega
    have d0 : decide (97 ≤ (n : Int)) = false := decide_eq_false (by omega)
    have p1 : (n : Int) ≤ 122 := by omega
    have d1 : decide ((n : Int) ≤ 122) = true := decide_eq_true (by omega)
    have p2 : (n : Int) < 65 := by omega
    have d2 : decide (65 ≤ (n : Int)) = false := decide_eq_false (by omega)
    have p3 : (n : Int) ≤ 90 := by omega
    have d3 : decide ((n : Int) ≤ 90) = true := decide_eq_true (by omega)
    have p4 : (n : Int) < 48 := by omega
    have d4 : decide (48 ≤ (n : Int)) = false := decide_eq_false (by omega)
    have p5 : (n : Int) ≤ 57 := by omega
    have d5 : decide ((n : Int) ≤ 57) = true := decide_eq_true (by omega)
    have q43 : ((n : Int) == 43) = false := by rw [beq_eq_false_iff_ne]; omega
    have q45 : ((n : Int) == 45) = false := by rw [beq_eq_false_iff_ne]; omega
    clear h
    go_enter Tryd.func21, Tryd.ntmps21
    go_wp2_with fail
    go_ret
    exact ⟨rfl, rfl⟩
  · have HN : plainN n = true := plainN_yes (by omega)
    rw [HN]
    clear HN
    have p0 : (n : Int) < 97 := by omega
    have d0 : decide (97 ≤ (n : Int)) = false := decide_eq_false (by omega)
    have p1 : (n : Int) ≤ 122 := by omega
    have d1 : decide ((n : Int) ≤ 122) = true := decide_eq_true (by omega)
    have p2 : (n : Int) < 65 := by omega
    have d2 : decide (65 ≤ (n : Int)) = false := decide_eq_false (by omega)
    have p3 : (n : Int) ≤ 90 := by omega
    have d3 : decide ((n : Int) ≤ 90) = true := decide_eq_true (by omega)
    have p4 : 48 ≤ (n : Int) := by omega
    have d4 : decide (48 ≤ (n : Int)) = true := decide_eq_true (by omega)
    have p5 : (n : Int) ≤ 57 := by omega
    have d5 : decide ((n : Int) ≤ 57) = true := decide_eq_true (by omega)
    have q43 : ((n : Int) == 43) = false := by rw [beq_eq_false_iff_ne]; omega
    have q45 : ((n : Int) == 45) = false := by rw [beq_eq_false_iff_ne]; omega
    clear h
    go_enter Tryd.func21, Tryd.ntmps21
    go_wp2_with fail
    go_ret
    exact ⟨rfl, rfl⟩
  · have HN : plainN n = false := plainN_no (by omega)
    rw [HN]
    clear HN
    have p0 : (n : Int) < 97 := by omega
    have d0 : decide (97 ≤ (n : Int)) = false := decide_eq_false (by omega)
    have p1 : (n : Int) ≤ 122 := by omega
    have d1 : decide ((n : Int) ≤ 122) = true := decide_eq_true (by omega)
    have p2 : (n : Int) < 65 := by omega
    have d2 : decide (65 ≤ (n : Int)) = false := decide_eq_false (by omega)
    have p3 : (n : Int) ≤ 90 := by omega
    have d3 : decide ((n : Int) ≤ 90) = true := decide_eq_true (by omega)
    have p4 : 48 ≤ (n : Int) := by omega
    have d4 : decide (48 ≤ (n : Int)) = true := decide_eq_true (by omega)
    have p5 : 57 < (n : Int) := by omega
    have d5 : decide ((n : Int) ≤ 57) = false := decide_eq_false (by omega)
    have q43 : ((n : Int) == 43) = false := by rw [beq_eq_false_iff_ne]; omega
    have q45 : ((n : Int) == 45) = false := by rw [beq_eq_false_iff_ne]; omega
    clear h
    go_enter Tryd.func21, Tryd.ntmps21
    go_wp2_with fail
    go_ret
    exact ⟨rfl, rfl⟩
  · have HN : plainN n = true := plainN_yes (by omega)
    rw [HN]
    clear HN
    have p0 : (n : Int) < 97 := by omega
    have d0 : decide (97 ≤ (n : Int)) = false := decide_eq_false (by omega)
    have p1 : (n : Int) ≤ 122 := by omega
    have d1 : decide ((n : Int) ≤ 122) = true := decide_eq_true (by omega)
    have p2 : 65 ≤ (n : Int) := by omega
    have d2 : decide (65 ≤ (n : Int)) = true := decide_eq_true (by omega)
    have p3 : (n : Int) ≤ 90 := by omega
    have d3 : decide ((n : Int) ≤ 90) = true := decide_eq_true (by omega)
    have p4 : 48 ≤ (n : Int) := by omega
    have d4 : decide (48 ≤ (n : Int)) = true := decide_eq_true (by omega)
    have p5 : 57 < (n : Int) := by omega
    have d5 : decide ((n : Int) ≤ 57) = false := decide_eq_false (by omega)
    have q43 : ((n : Int) == 43) = false := by rw [beq_eq_false_iff_ne]; omega
    have q45 : ((n : Int) == 45) = false := by rw [beq_eq_false_iff_ne]; omega
    clear h
    go_enter Tryd.func21, Tryd.ntmps21
    go_wp2_with fail
    go_ret
    exact ⟨rfl, rfl⟩
  · have HN : plainN n = false := plainN_no (by omega)
    rw [HN]
    clear HN
    have p0 : (n : Int) < 97 := by omega
    have d0 : decide (97 ≤ (n : Int)) = false := decide_eq_false (by omega)
    have p1 : (n : Int) ≤ 122 := by omega
    have d1 : decide ((n : Int) ≤ 122) = true := decide_eq_true (by omega)
    have p2 : 65 ≤ (n : Int) := by omega
    have d2 : decide (65 ≤ (n : Int)) = true := decide_eq_true (by omega)
    have p3 : 90 < (n : Int) := by omega
    have d3 : decide ((n : Int) ≤ 90) = false := decide_eq_false (by omega)
    have p4 : 48 ≤ (n : Int) := by omega
    have d4 : decide (48 ≤ (n : Int)) = true := decide_eq_true (by omega)
    have p5 : 57 < (n : Int) := by omega
    have d5 : decide ((n : Int) ≤ 57) = false := decide_eq_false (by omega)
    have q43 : ((n : Int) == 43) = false := by rw [beq_eq_false_iff_ne]; omega
    have q45 : ((n : Int) == 45) = false := by rw [beq_eq_false_iff_ne]; omega
    clear h
    go_enter Tryd.func21, Tryd.ntmps21
    go_wp2_with fail
    go_ret
    exact ⟨rfl, rfl⟩
  · have HN : plainN n = true := plainN_yes (by omega)
    rw [HN]
    clear HN
    have p0 : 97 ≤ (n : Int) := by omega
    have d0 : decide (97 ≤ (n : Int)) = true := decide_eq_true (by omega)
    have p1 : (n : Int) ≤ 122 := by omega
    have d1 : decide ((n : Int) ≤ 122) = true := decide_eq_true (by omega)
    have p2 : 65 ≤ (n : Int) := by omega
    have d2 : decide (65 ≤ (n : Int)) = true := decide_eq_true (by omega)
    have p3 : 90 < (n : Int) := by omega
    have d3 : decide ((n : Int) ≤ 90) = false := decide_eq_false (by omega)
    have p4 : 48 ≤ (n : Int) := by omega
    have d4 : decide (48 ≤ (n : Int)) = true := decide_eq_true (by omega)
    have p5 : 57 < (n : Int) := by omega
    have d5 : decide ((n : Int) ≤ 57) = false := decide_eq_false (by omega)
    have q43 : ((n : Int) == 43) = false := by rw [beq_eq_false_iff_ne]; omega
    have q45 : ((n : Int) == 45) = false := by rw [beq_eq_false_iff_ne]; omega
    clear h
    go_enter Tryd.func21, Tryd.ntmps21
    go_wp2_with fail
    go_ret
    exact ⟨rfl, rfl⟩
  · have HN : plainN n = false := plainN_no (by omega)
    rw [HN]
    clear HN
    have p0 : 97 ≤ (n : Int) := by omega
    have d0 : decide (97 ≤ (n : Int)) = true := decide_eq_true (by omega)
    have p1 : 122 < (n : Int) := by omega
    have d1 : decide ((n : Int) ≤ 122) = false := decide_eq_false (by omega)
    have p2 : 65 ≤ (n : Int) := by omega
    have d2 : decide (65 ≤ (n : Int)) = true := decide_eq_true (by omega)
    have p3 : 90 < (n : Int) := by omega
    have d3 : decide ((n : Int) ≤ 90) = false := decide_eq_false (by omega)
    have p4 : 48 ≤ (n : Int) := by omega
    have d4 : decide (48 ≤ (n : Int)) = true := decide_eq_true (by omega)
    have p5 : 57 < (n : Int) := by omega
    have d5 : decide ((n : Int) ≤ 57) = false := decide_eq_false (by omega)
    have q43 : ((n : Int) == 43) = false := by rw [beq_eq_false_iff_ne]; omega
    have q45 : ((n : Int) == 45) = false := by rw [beq_eq_false_iff_ne]; omega
    clear h
    go_enter Tryd.func21, Tryd.ntmps21
    go_wp2_with fail
    go_ret
    exact ⟨rfl, rfl⟩
set_option maxHeartbeats 3200000 in
theorem f16PlainW (s : Bs) (w : World) (hs : s.length ≤ 1000000) : Calls Tryd.prog 12 #[strV s] w fun e w' => e = .returned (.bool (plainB s)) ∧ w' = w := by
  by_cases hl : 3 ≤ s.length ∧ s.length ≤ 6
  · have HGd := Lib.hid (plain_good hl)
    go_enter Tryd.func12, Tryd.ntmps12
    obtain ⟨l1, l2⟩ := hl
    go_wp2_with fail
    go_loopg [3, 14] s.length (fun g _ v14 wr => ∃ i : Nat, v14 = intV i ∧ i + g = s.length ∧ (∀ (j : Nat) (c : UInt8), j < i → s[j]? = some c → plainN c.toNat = true) ∧ wr = w)
    case atStart => exact ⟨0, rfl, by omega, fun k c hk => by omega, rfl⟩
    case round =>
      obtain ⟨i, rfl, hg, hno, rfl⟩ := hrel
      have HNo := Lib.hid hno
      clear hno
      by_cases hlt : i < s.length
      · have i0 : (i : Int) < (s.length : Int) := by omega
        obtain ⟨c, hc⟩ : ∃ c, s[i]? = some c := ⟨s[i], List.getElem?_eq_getElem hlt⟩
        have HI := fun w => sl_idx (P := Tryd.prog) w 9 Tryd.underlying9 s i c hc
        have HBd := Lib.hid (plain_bad hc)
        have HSt := Lib.hid (fun (h : plainN c.toNat = true) (j : Nat) (x : UInt8) (hj : j < i + 1) (hx : s[j]? = some x) => (show plainN x.toNat = true by
          by_cases e : j = i
          · subst e
            rw [hc] at hx
            cases hx
            exact h
          · exact HNo.out j x (by omega) hx))
        have HF := Lib.hid (fun w => f16fits_any c.toNat c.toNat_lt w)
        generalize c.toNat = n at *
        clear hc
        generalize plainN n = b at *
        cases b with
        | true =>
          have HN := Lib.hid (HSt.out rfl)
          clear HBd HSt
          go_wp2_with fail
          refine (HF.out _).mono ?_
          rintro e w1 ⟨rfl, rfl⟩
          go_wp2_with fail
          clear HI
          go_roundg (s.length - (i + 1))
          case measure => omega
          case rel => exact ⟨i + 1, by go_num, by omega, HN.out, rfl⟩
        | false =>
          have HR := Lib.hid (HBd.out rfl)
          clear HBd HSt
          go_wp2_with fail
          refine (HF.out _).mono ?_
          rintro e w1 ⟨rfl, rfl⟩
          go_wp2_with fail
          go_ret
          exact ⟨by rw [HR.out]; rfl, rfl⟩
      · have HR := Lib.hid (HGd.out (fun j c hj hc => HNo.out j c (by omega) hc))
        have i0 : ¬ (i : Int) < (s.length : Int) := by omega
        go_wp2_with fail
        go_ret
        exact ⟨by rw [HR.out]; rfl, rfl⟩
  · have HR := Lib.hid (plain_len hl)
    by_cases h3 : s.length < 3
    · have h3 : (s.length : Int) < 3 := by omega
      clear hl
      go_enter Tryd.func12, Tryd.ntmps12
      go_wp2_with fail
      go_ret
      exact ⟨by rw [HR.out]; rfl, rfl⟩
    · have h4 : 6 < (s.length : Int) := by omega
      have h3 : ¬ (s.length : Int) < 3 := by omega
      clear hl
      go_enter Tryd.func12, Tryd.ntmps12
      go_wp2_with fail
      go_ret
      exact ⟨by rw [HR.out]; rfl, rfl⟩
end Go.Proofs.YtghcfmoagkimaaaDoor
/- strings.Builder in a block of any type that is laid out as one -/
namespace Go.Proofs.YtghcfmoagkimaaaDoor
open Go.RowKit Go.Mem Go.Lin

theorem b16_u8 : (Tryd.prog.info? 5).map (fun i => (i.zero, i.size, i.bytes)) = some (some (.int .u8 0), 1, 1) := by kernel_rfl
theorem b16_sb : (Tryd.prog.info? 57).map (fun i => i.size) = some 2 := by kernel_rfl

/-- block b, of type T, is a Builder that holds the bytes l -/
def IsT (T : TypeId) (w : World) (b : Nat) (l : Bs) : Prop := Lib.IsBuilderF T 5 b b (Lib.byteCells l) w
/-- a variable of type T begins with a Builder -/
def LieT (T : TypeId) : Prop := liesAt Tryd.prog Tryd.prog.depth T (2 / Tryd.prog.cellsOf T) 0 57 1 = true ∧ T ≠ 5
theorem IsT.lt {T : TypeId} {w : World} {b : Nat} {l : Bs} (h : IsT T w b l) : b < w.heap.size := h.elim (fun x => x.lt) (fun x => x.lt)
theorem IsT.fr {T : TypeId} {w w' : World} {b : Nat} {l : Bs} {S : Nat → Prop} (h : IsT T w b l) (hf : Fr w w' S) (hs : ∀ k, b ≤ k → ¬ S k) : IsT T w' b l := by
  have each : ∀ p, Lib.BuilderAtF T 5 b b p (Lib.byteCells l) w → Lib.BuilderAtF T 5 b b p (Lib.byteCells l) w' := by
    rintro p ⟨hB, v, hb, hown, hne⟩
    refine ⟨hB, v, (hf.block b (Array.getElem?_eq_some_iff.1 hb).1 (hs b (Nat.le_refl _))).trans hb, ?_, hne⟩
    refine ⟨hown.1, ?_⟩
    rcases hown.2 with hn | ⟨g, cap, cur, fz, rfl, hbg, hgg, rest⟩
    · exact .inl hn
    · exact .inr ⟨g, cap, cur, fz, rfl, hbg, (hf.block g (Array.getElem?_eq_some_iff.1 hgg).1 (hs g hbg)).trans hgg, rest⟩
  exact h.imp (each _) (each _)
theorem isT_new (T : TypeId) (w : World) : IsT T (w.alloc (.cells #[.pointer none, .slice none 0 0] T)) w.heap.size [] :=
  .inl ⟨Nat.le_refl _, _, heap_alloc_new w _, ⟨rfl, .inl ⟨rfl, rfl⟩⟩, by simp [Value.ownBlock]⟩

theorem checkT_any (T : TypeId) (hT : LieT T) (B b : Nat) (bs : List Value) (w : World) (h : Lib.IsBuilderF T 5 B b bs w) :
    Calls Tryd.prog 36 #[.pointer (some ⟨b, 0, none⟩)] w fun e w' => e = .returned (.tuple #[]) ∧ (Lib.BuilderAtF T 5 B b (.pointer (some ⟨b, 0, none⟩)) bs w' ∧ Below B w w') := by
  obtain ⟨j, hj, hjs⟩ : ∃ j, Tryd.prog.info? 57 = some j ∧ j.size = 2 := by
    have := b16_sb
    cases hi : Tryd.prog.info? 57 with
    | none => rw [hi] at this; cases this
    | some j => rw [hi] at this; exact ⟨j, rfl, by simpa using this⟩
  rcases h with h | h
  · have c0 := h.cell0
    have f0 := h.frozen0
    have hsh := h.shape
    have he : ∀ w, (binOp .eql 54 (.pointer none) (.pointer none)).run Tryd.prog w = .ok (.bool true) w := fun w => by kernel_rfl
    have hto := Lib.run_to_unsafe (P := Tryd.prog) w (src := 54) (dst := 79) ⟨b, 0, none⟩ Tryd.underlying54 Tryd.underlying79 hj (by omega) hsh (by show (0 : Nat) < 2; decide)
    have hfrom := Lib.run_from_unsafe (P := Tryd.prog) w (src := 79) (dst := 54) ⟨b, 0, none⟩ Tryd.underlying79 Tryd.underlying54 hj hsh hT.1
    have hne : ∀ w, (callFunc 45 #[.pointer (some ⟨b, 0, none⟩)]).run Tryd.prog w = .ok (.value (.pointer (some ⟨b, 0, none⟩))) w := fun w => by kernel_rfl
    have hb2 := h.used (.pointer (some ⟨b, 0, none⟩))
    have c2 := hb2.cell0
    have hs2 := fun (w : World) => Lib.run_neq_ptr_same (P := Tryd.prog) w (tp := 54) ⟨b, 0, none⟩ Tryd.underlying54 hj
    have HX := Lib.hid hb2
    have HB := Lib.hid h.1
    clear hb2 h
    go_enter Tryd.func36, Tryd.ntmps36
    go_wp2
    go_end0
    exact ⟨rfl, HX.out, (Below.refl B w).setCell (p := ⟨b, 0, none⟩) HB.out _⟩
  · have c0 := h.cell0
    have hs2 := fun (w : World) => Lib.run_neq_ptr_same (P := Tryd.prog) w (tp := 54) ⟨b, 0, none⟩ Tryd.underlying54 hj
    have he : ∀ w, (binOp .eql 54 (.pointer (some ⟨b, 0, none⟩)) (.pointer none)).run Tryd.prog w = .ok (.bool false) w := fun w => by kernel_rfl
    have HX := Lib.hid h
    clear h
    go_enter Tryd.func36, Tryd.ntmps36
    go_wp2
    go_end0
    exact ⟨rfl, HX.out, Below.refl B _⟩

set_option maxHeartbeats 400000 in
theorem byteT_any (T : TypeId) (hT : LieT T) (b : Nat) (l : Bs) (c : UInt8) (n : Int) (w : World) (h : IsT T w b l) (hlen : l.length ≤ 1000000) (hn : n = (c.toNat : Int)) :
    Calls Tryd.prog 39 #[.pointer (some ⟨b, 0, none⟩), .int .u8 n] w fun e w' => e = .returned .nilIface ∧ IsT T w' b (l ++ [c]) ∧ Fr w w' (fun k => b ≤ k) := by
  subst hn
  obtain ⟨i0, hi, hz0, hz1, hz2⟩ := info_parts b16_u8
  have hl : (Lib.byteCells l).length = l.length := by simp [Lib.byteCells]
  have HBC := Lib.hid (show Lib.byteCells (l ++ [c]) = Lib.byteCells l ++ [.int .u8 c.toNat] by simp [Lib.byteCells])
  have hlt := h.lt
  have h' : Lib.IsBuilderF T 5 b b (Lib.byteCells l) w := h
  clear h
  generalize Lib.byteCells l = bs at h' hl HBC
  rw [← hl] at hlen
  have HL := Lib.hid hl
  clear hl
  go_enter Tryd.func39, Tryd.ntmps39
  go_wp2_with fail
  refine (checkT_any T hT b b bs w h').mono ?_
  rintro e w1 ⟨rfl, h1, hb1⟩
  obtain ⟨hB, v, hbk, hown, hne⟩ := h1
  have c1 : w1.cell? ⟨b, 1, none⟩ = some v := by rw [Lib.cell_of_heap hbk]; rfl
  have hsz := hb1.size
  go_wp2_with (at_builtin; refine wpList_append_ownF _ rfl _ _ 55 rfl b 5 i0 (.int .u8 0) 1 1 Tryd.underlying55 hi hz0 hz1 hz2 rfl (by decide) _ _ _ rfl (hown.alloc _) ⟨w1.heap.size, 0, none⟩ 1 1 [.int .u8 c.toNat] rfl rfl ?c1 ?c2 ?c3 ?c4 ?c5 ?_)
  case c1 =>
    intro j u hj
    match j, hj with
    | 0, hj => simp at hj; subst hj; simp [Addr.add]
  case c2 => intro u hu; simp at hu; subst hu; rfl
  case c3 => unfold maxLen; omega
  case c4 => omega
  case c5 => simp; omega
  intro v' w2 hown' hgrow _
  have hlt1 : b < w1.heap.size := by omega
  have hb2 : w2.heap[b]? = some (.cells #[.pointer (some ⟨b, 0, none⟩), v] T (0, 0)) := by
    rw [hgrow.block b (by simp; omega) (fun e => hne e.symm), Lib.alloc_old w1 _ b hlt1]
    exact hbk
  have d0 : w2.cell? ⟨b, 0, none⟩ = some (.pointer (some ⟨b, 0, none⟩)) := by rw [Lib.cell_of_heap hb2]; rfl
  have d1 : w2.cell? ⟨b, 1, none⟩ = some v := by rw [Lib.cell_of_heap hb2]; rfl
  have f1 : w2.frozen? ⟨b, 1, none⟩ = false := Lib.frozen_of_heap hb2 1
  obtain ⟨g, cap, rfl⟩ : ∃ g cap, v' = .slice (some ⟨g, 0, none⟩) (bs.length + 1) cap := by
    rcases hown'.2 with ⟨_, h0⟩ | ⟨g, cap, cur, fz, hv, _⟩
    · omega
    · exact ⟨g, cap, hv⟩
  go_wp2
  go_ret
  refine ⟨rfl, ?_, ?_⟩
  · exact .inr (HBC.out ▸ Lib.BuilderAtF.put (T := T) (e := 5) hB hb2 (bs' := bs ++ [.int .u8 c.toNat]) (by simpa using hown') hT.2)
  · exact Fr.ofBelow (((hb1.alloc (by omega) _).grown hgrow (by simp; omega) (fun k hk => (hown.lt k hk).1)).setCell (p := ⟨b, 1, none⟩) hB _)

set_option maxHeartbeats 1000000 in
set_option maxRecDepth 100000 in
/-- the text of a builder that holds a byte -/
theorem stringT_any (T : TypeId) (b : Nat) (l : Bs) (w : World) (h : IsT T w b l) (h0 : l ≠ []) :
    Calls Tryd.prog 28 #[.pointer (some ⟨b, 0, none⟩)] w fun e w' => e = .returned (strV l) ∧ Fr w w' (fun k => b ≤ k) := by
  obtain ⟨p, hp, hAt⟩ : ∃ p, (p = .pointer none ∨ p = .pointer (some ⟨b, 0, none⟩)) ∧ Lib.BuilderAtF T 5 b b p (Lib.byteCells l) w := by
    rcases h with h | h
    · exact ⟨_, .inl rfl, h⟩
    · exact ⟨_, .inr rfl, h⟩
  obtain ⟨hB, v, hbk, hown, hne⟩ := hAt
  have hl0 : l.length ≠ 0 := by simpa using h0
  rw [Lib.byteCells_length] at hown
  obtain ⟨g, cap, cur, fz, rfl, hbg, hg, hfz, hnc, hcm, hcs, htake⟩ : ∃ g cap cur fz, v = .slice (some ⟨g, 0, none⟩) l.length cap ∧ b ≤ g ∧ w.heap[g]? = some (.cells cur 5 fz) ∧ fz.2 ≤ l.length * 1 ∧ l.length ≤ cap ∧ cap ≤ maxLen ∧ cur.size = cap * 1 ∧ cur.toList.take (l.length * 1) = Lib.byteCells l := by
    rcases hown.2 with ⟨_, hz⟩ | ⟨g, cap, cur, fz, hv, r⟩
    · exact absurd hz hl0
    · exact ⟨g, cap, cur, fz, hv, r⟩
  have c1 : w.drew.cell? ⟨b, 1, none⟩ = some (.slice (some ⟨g, 0, none⟩) l.length cap) := by
    have : w.drew.heap[b]? = some (.cells #[p, .slice (some ⟨g, 0, none⟩) l.length cap] T (0, 0)) := hbk
    rw [Lib.cell_of_heap this]; rfl
  have hSD : (Builtin.unsafeSliceData_ #[55] 76 #[.slice (some ⟨g, 0, none⟩) l.length cap]).run Tryd.prog w.drew = .ok (.pointer (some ⟨g, 0, none⟩)) w.drew :=
    Lib.run_unsafeSliceData_row _ _ _ _ _ _ (by omega)
  have hUS : (Builtin.unsafeString_ #[76, 3] 9 #[.pointer (some ⟨g, 0, none⟩), .int .i64 l.length]).run Tryd.prog w.drew = .ok (.string ⟨l.toArray⟩) (w.drew.freeze ⟨g, 0, none⟩ l.length) := by
    refine Lib.run_unsafeString_row w.drew 76 3 9 5 Tryd.underlying76 (by kernel_rfl) g cur.size (by have hg' : w.drew.heap[g]? = some (.cells cur 5 fz) := hg; simp [World.shape?, hg']) l h0 (by omega) (by unfold maxLen at hcm; omega) ?_
    intro j x hx
    have := hown.cells (g := g) rfl j (.int .u8 x.toNat) (by simp [Lib.byteCells, hx])
    exact this
  have hmx : Tryd.prog.follows .mixedOrders = true := by kernel_rfl
  have HBG := Lib.hid hbg
  clear h hbk hown hne hg hfz hnc hcm hcs htake hp hB hbg
  go_enter Tryd.func28, Tryd.ntmps28
  go_wp2
  go_region_o
  all_goals (go_wp2; go_ret; exact ⟨rfl, Fr.ofBelow (Lib.below_freeze (Below.drew (Below.refl b w)) (p := ⟨g, 0, none⟩) HBG.out _)⟩)
end Go.Proofs.YtghcfmoagkimaaaDoor
namespace Go.Proofs.YtghcfmoagkimaaaDoor
open Go.RowKit Go.Mem Go.Lin Go.Fmx

theorem lie_bld : LieT 69 := ⟨by kernel_rfl, by decide⟩
theorem chr16 {n : Nat} (h : n < 10) : ((48 + n : Nat) : Int) = ((Go.Clk.chr n).toNat : Int) := by
  have : ∀ n : Fin 10, ((48 + n.1 : Nat) : Int) = ((Go.Clk.chr n.1).toNat : Int) := by decide
  exact this ⟨n, h⟩
theorem f16sign_any (b : Nat) (l : Bs) (n : Int) (c : UInt8) (hc : c = if n < 0 then 45 else 43) (w : World) (h : IsT 69 w b l) (hl : l.length ≤ 1000) :
    Calls Tryd.prog 29 #[.pointer (some ⟨b, 0, none⟩), intV n] w fun e w' => e = .returned (.tuple #[]) ∧ IsT 69 w' b (l ++ [c]) ∧ Fr w w' (fun k => b ≤ k) := by
  by_cases hn : n < 0
  · rw [if_pos hn] at hc
    subst hc
    have HB := Lib.hid (fun w h => byteT_any 69 lie_bld b l 45 45 w h (by omega) rfl)
    have HH := Lib.hid h
    clear h hl
    go_enter Tryd.func29, Tryd.ntmps29
    go_wp2_with fail
    refine (HB.out _ HH.out).mono ?_
    rintro e w2 ⟨rfl, h2, hf2⟩
    have H2 := Lib.hid (And.intro h2 hf2)
    clear h2 hf2
    go_wp2_with fail
    refine bodyPost_ret (results_none rfl _ _ _) rfl ?_
    exact ⟨rfl, H2.out⟩
  · rw [if_neg hn] at hc
    subst hc
    have HB := Lib.hid (fun w h => byteT_any 69 lie_bld b l 43 43 w h (by omega) rfl)
    have HH := Lib.hid h
    clear h hl
    go_enter Tryd.func29, Tryd.ntmps29
    go_wp2_with fail
    refine (HB.out _ HH.out).mono ?_
    rintro e w2 ⟨rfl, h2, hf2⟩
    have H2 := Lib.hid (And.intro h2 hf2)
    clear h2 hf2
    go_wp2_with fail
    go_end0
    exact ⟨rfl, H2.out⟩
theorem f16pair_any (b : Nat) (l : Bs) (a : Nat) (n : Int) (hn : n = (a : Int)) (ha : a < 100) (w : World) (h : IsT 69 w b l) (hl : l.length ≤ 1000) :
    Calls Tryd.prog 30 #[.pointer (some ⟨b, 0, none⟩), .int .i64 n] w fun e w' => e = .returned (.tuple #[]) ∧ IsT 69 w' b (l ++ Go.Clk.twoL a) ∧ Fr w w' (fun k => b ≤ k) := by
  have H1 := Lib.hid (fun w h => byteT_any 69 lie_bld b l (Go.Clk.chr (a / 10)) (48 + n / 10) w h (by omega) ((show 48 + n / 10 = ((48 + a / 10 : Nat) : Int) by omega).trans (chr16 (by omega))))
  have H2 := Lib.hid (fun w h => byteT_any 69 lie_bld b (l ++ [Go.Clk.chr (a / 10)]) (Go.Clk.chr (a % 10)) (48 + n % 10) w h (by simp; omega) ((show 48 + n % 10 = ((48 + a % 10 : Nat) : Int) by omega).trans (chr16 (by omega))))
  have HH := Lib.hid h
  have HT := Lib.hid (show (l ++ [Go.Clk.chr (a / 10)]) ++ [Go.Clk.chr (a % 10)] = l ++ Go.Clk.twoL a by rw [List.append_assoc]; rfl)
  have b1 : 0 ≤ n := by omega
  have b2 : n < 100 := by omega
  clear h hl hn ha
  go_enter Tryd.func30, Tryd.ntmps30
  go_wp2_with fail
  refine (H1.out _ HH.out).mono ?_
  rintro e w2 ⟨rfl, h2, hf2⟩
  have K2 := Lib.hid h2
  have F2 := Lib.hid hf2
  clear h2 hf2
  go_wp2_with fail
  refine (H2.out _ K2.out).mono ?_
  rintro e w3 ⟨rfl, h3, hf3⟩
  have K3 := Lib.hid h3
  have F3 := Lib.hid (F2.out.trans hf3 (fun _ _ h => h) (fun _ _ h => h))
  clear h3 hf3
  go_wp2_with fail
  go_end0
  exact ⟨rfl, HT.out ▸ K3.out, F3.out⟩
theorem f16told_any (x0 x1 x2 : Int) (k : Nat) (hk : k = 3 ∧ x2 ≠ 0 ∨ k = 2 ∧ x2 = 0 ∧ x1 ≠ 0 ∨ k = 1 ∧ x2 = 0 ∧ x1 = 0) (w : World) :
    Calls Tryd.prog 31 #[.agg #[intV x0, intV x1, intV x2]] w fun e w' => e = .returned (intV (k : Int)) ∧ Fr w w' (fun _ => False) := by
  have HB := Blk.made w 66 #[intV x0, intV x1, intV x2]
  have HF := Fr.new w (.cells #[intV x0, intV x1, intV x2] 66) (fun _ => False)
  have e2 : w.alloc (.cells #[.int .i64 x0, .int .i64 x1, .int .i64 x2] 66) = w.alloc (.cells #[intV x0, intV x1, intV x2] 66) := rfl
  obtain ⟨w2, hw2⟩ : ∃ w2, w.alloc (.cells #[intV x0, intV x1, intV x2] 66) = w2 := ⟨_, rfl⟩
  rw [hw2] at e2 HB HF
  have c1 : w2.cell? ⟨w.heap.size, 1, none⟩ = some (.int .i64 x1) := blkc HB 1 _ rfl
  have c2 : w2.cell? ⟨w.heap.size, 2, none⟩ = some (.int .i64 x2) := blkc HB 2 _ rfl
  have HK := Lib.hid hk
  have HF2 := Lib.hid HF
  clear HB HF hk
  go_enter Tryd.func31, Tryd.ntmps31
  go_wp2_with fail
  go_loop [3] (fun v3 => v3 = .int .i64 3 ∨ (v3 = .int .i64 2 ∧ x2 = 0) ∨ (v3 = .int .i64 1 ∧ x2 = 0 ∧ x1 = 0)) (fun v3 => (intOf v3).toNat)
  case atStart => exact .inl rfl
  case round =>
    rcases hrel with rfl | ⟨rfl, h2⟩ | ⟨rfl, h2, h1⟩
    · by_cases h2 : x2 = 0
      · have t2 : (x2 == 0) = true := by rw [beq_iff_eq]; exact h2
        have H2 := Lib.hid h2
        clear h2
        go_wp2_with fail
        go_round
        case measure => simp [intOf]
        case rel => exact .inr (.inl ⟨rfl, H2.out⟩)
      · have t2 : (x2 == 0) = false := by rw [beq_eq_false_iff_ne]; exact h2
        have HE := Lib.hid (show k = 3 by have := HK.out; omega)
        clear h2
        go_wp2_with fail
        go_ret
        exact ⟨by rw [HE.out]; rfl, HF2.out⟩
    · have H2 := Lib.hid h2
      clear h2
      by_cases h1 : x1 = 0
      · have t1 : (x1 == 0) = true := by rw [beq_iff_eq]; exact h1
        have H1 := Lib.hid h1
        clear h1
        go_wp2_with fail
        go_round
        case measure => simp [intOf]
        case rel => exact .inr (.inr ⟨rfl, H2.out, H1.out⟩)
      · have t1 : (x1 == 0) = false := by rw [beq_eq_false_iff_ne]; exact h1
        have HE := Lib.hid (show k = 2 by have := HK.out; have := H2.out; omega)
        clear h1
        go_wp2_with fail
        go_ret
        exact ⟨by rw [HE.out]; rfl, HF2.out⟩
    · have HE := Lib.hid (show k = 1 by have := HK.out; omega)
      clear h1 h2
      go_wp2_with fail
      go_ret
      exact ⟨by rw [HE.out]; rfl, HF2.out⟩
/-- the digits of so many parts -/
def partsL (p0 p1 p2 k : Nat) : Bs := (([p0, p1, p2].take k).map Go.Clk.twoL).flatten
theorem parts_next0 (p0 p1 p2 : Nat) : partsL p0 p1 p2 1 = partsL p0 p1 p2 0 ++ Go.Clk.twoL p0 := by simp [partsL]
theorem parts_next1 (p0 p1 p2 : Nat) : partsL p0 p1 p2 2 = partsL p0 p1 p2 1 ++ Go.Clk.twoL p1 := by simp [partsL]
theorem parts_next2 (p0 p1 p2 : Nat) : partsL p0 p1 p2 3 = partsL p0 p1 p2 2 ++ Go.Clk.twoL p2 := by simp [partsL]
theorem parts_dig (a k : Nat) (hk : k = 3 ∧ a % 60 ≠ 0 ∨ k = 2 ∧ a % 60 = 0 ∧ a % 3600 / 60 ≠ 0 ∨ k = 1 ∧ a % 60 = 0 ∧ a % 3600 / 60 = 0) : partsL (a / 3600) (a % 3600 / 60) (a % 60) k = digN a := by
  have e : a % 3600 / 60 = a / 60 % 60 := by omega
  rcases hk with ⟨rfl, h⟩ | ⟨rfl, h, h1⟩ | ⟨rfl, h, h1⟩
  · rw [digN_2 (by omega) h, e]
    simp [partsL]
  · rw [digN_1 (by omega) h, e]
    simp [partsL]
  · rw [digN_0 (by omega)]
    simp [partsL]
theorem parts_len (p0 p1 p2 k : Nat) : (partsL p0 p1 p2 k).length ≤ 6 := by
  have l2 : ∀ x, (Go.Clk.twoL x).length = 2 := fun _ => rfl
  match k with
  | 0 => simp [partsL]
  | 1 => simp [partsL, l2]
  | 2 => simp [partsL, l2]
  | k + 3 => simp [partsL, l2]
end Go.Proofs.YtghcfmoagkimaaaDoor
namespace Go.Proofs.YtghcfmoagkimaaaDoor
open Go.RowKit Go.Mem Go.Lin Go.Fmx

def DigRel (w : World) (c : UInt8) (p0 p1 p2 k : Nat) (g : Nat) (_ v32 : Value) (wr : World) : Prop :=
  ∃ i : Nat, v32 = intV i ∧ i + g = k ∧ Fr w wr (fun _ => False) ∧ Blk wr w.heap.size 66 #[intV p0, intV p1, intV p2] ∧ IsT 69 wr (w.heap.size + 1) (c :: partsL p0 p1 p2 i)
set_option maxHeartbeats 6400000 in
set_option maxRecDepth 100000 in
theorem f16digits_any (n : Int) (h1 : -180000 ≤ n) (h2 : n ≤ 180000) (w : World) : Calls Tryd.prog 19 #[.int .i64 n] w fun e w' => e = .returned (strV (digD n)) ∧ Fr w w' (fun _ => False) := by
  have hmf : ∀ (fn : Fn) (first cap : Array Value) (w : World), (Instr.makeFunc fn first cap).run Tryd.prog w = .ok (.func fn first cap) w := fun _ _ _ _ => rfl
  obtain ⟨a, ha⟩ : ∃ a, n.natAbs = a := ⟨_, rfl⟩
  obtain ⟨c, hc⟩ : ∃ c : UInt8, c = if n < 0 then 45 else 43 := ⟨_, rfl⟩
  have hD : digD n = c :: digN a := by unfold digD; rw [← hc, ha]
  have hmax : max n (-n) = (a : Int) := by omega
  have hwn : IntKind.i64.wrap (-n) = -n := by rw [IntKind.wrap_i64]; omega
  obtain ⟨p0, hp0⟩ : ∃ p, a / 3600 = p := ⟨_, rfl⟩
  obtain ⟨p1, hp1⟩ : ∃ p, a % 3600 / 60 = p := ⟨_, rfl⟩
  obtain ⟨p2, hp2⟩ : ∃ p, a % 60 = p := ⟨_, rfl⟩
  have e0 : (a : Int) / 3600 = (p0 : Int) := by omega
  have e1 : (a : Int) % 3600 / 60 = (p1 : Int) := by omega
  have e2 : (a : Int) % 60 = (p2 : Int) := by omega
  obtain ⟨k, hk⟩ : ∃ k : Nat, k = 3 ∧ p2 ≠ 0 ∨ k = 2 ∧ p2 = 0 ∧ p1 ≠ 0 ∨ k = 1 ∧ p2 = 0 ∧ p1 = 0 := by
    by_cases x : p2 = 0
    · by_cases y : p1 = 0
      · exact ⟨1, .inr (.inr ⟨rfl, x, y⟩)⟩
      · exact ⟨2, .inr (.inl ⟨rfl, x, y⟩)⟩
    · exact ⟨3, .inl ⟨rfl, x⟩⟩
  have hPD := parts_dig a k (by rw [hp1, hp2]; exact hk)
  rw [hp0, hp1, hp2] at hPD
  rw [hD, ← hPD]
  have HT := Lib.hid (fun w => f16told_any (p0 : Int) p1 p2 k (by omega) w)
  have k1 : 1 ≤ (k : Int) := by omega
  have k3 : (k : Int) ≤ 3 := by omega
  have q0 : p0 < 100 := by omega
  have q1 : p1 < 100 := by omega
  have q2 : p2 < 100 := by omega
  have Q := Lib.hid (And.intro q0 (And.intro q1 q2))
  have a0 : (0 : Int) ≤ (a : Int) := by omega
  have a9 : (a : Int) ≤ 180000 := by omega
  -- the memory
  obtain ⟨wa, hwa⟩ : ∃ x, w.alloc (.cells #[.int .i64 (p0 : Int), .int .i64 (p1 : Int), .int .i64 (p2 : Int)] 66) = x := ⟨_, rfl⟩
  obtain ⟨wb, hwb⟩ : ∃ x, wa.alloc (.cells #[.pointer none, .slice none 0 0] 69) = x := ⟨_, rfl⟩
  have hza : wa.heap.size = w.heap.size + 1 := by rw [← hwa]; simp
  have F1 : Fr w wb (fun _ => False) := ff4 (show Fr w wa _ by rw [← hwa]; exact Fr.new _ _ _) (show Fr wa wb _ by rw [← hwb]; exact Fr.new _ _ _)
  have B1 : Blk wb w.heap.size 66 #[intV p0, intV p1, intV p2] := by
    rw [← hwb]
    exact (Fr.new wa _ (fun _ => False)).blk (by rw [← hwa]; exact Blk.made w _ _) (fun h => h)
  have I1 : IsT 69 wb (w.heap.size + 1) [] := by rw [← hwb, ← hza]; exact isT_new _ _
  have hE : (w.alloc (.cells #[.int .i64 (p0 : Int), .int .i64 (p1 : Int), .int .i64 (p2 : Int)] 66)).alloc (.cells #[.pointer none, .slice none 0 0] 69) = wb := by rw [hwa, hwb]
  have HF1 := Lib.hid F1
  have HB1 := Lib.hid B1
  have HI1 := Lib.hid I1
  have HSg := Lib.hid (fun b w h => f16sign_any b [] n c hc w h (by simp))
  have HPr := Lib.hid (fun b l p (hp : p < 100) w h hl => f16pair_any b l p (p : Int) rfl hp w h hl)
  have HL := Lib.hid (parts_len p0 p1 p2)
  clear hD hPD hc ha hp0 hp1 hp2 hk q0 q1 q2 hwa hwb hza F1 B1 I1
  go_enter Tryd.func19, Tryd.ntmps19
  go_wp2_with fail
  refine (HSg.out (w.heap.size + 1) _ HI1.out).mono ?_
  rintro e w3 ⟨rfl, i3, f3⟩
  have b3 := f3.blk HB1.out (by omega)
  have HF3 := Lib.hid (HF1.out.fresh f3 (fun i e => by omega))
  have HB3 := Lib.hid b3
  have HI3 := Lib.hid i3
  have c0 : w3.cell? ⟨w.heap.size, 0, none⟩ = some (.int .i64 p0) := blkc b3 0 _ rfl
  have c1 : w3.cell? ⟨w.heap.size, 1, none⟩ = some (.int .i64 p1) := blkc b3 1 _ rfl
  have c2 : w3.cell? ⟨w.heap.size, 2, none⟩ = some (.int .i64 p2) := blkc b3 2 _ rfl
  clear i3 f3 b3 hE
  go_wp2_with fail
  refine (HT.out _).mono ?_
  rintro e w4 ⟨rfl, f4⟩
  have HF4 := Lib.hid (ff4 HF3.out f4)
  have HB4 := Lib.hid (f4.blk HB3.out (fun h => h))
  have HI4 := Lib.hid (HI3.out.fr f4 (fun _ _ h => h))
  clear f4 c0 c1 c2
  go_wp2_with fail
  go_loopg [8, 32] k (DigRel w c p0 p1 p2 k)
  case atStart => exact ⟨0, rfl, Nat.zero_add _, HF4.out, HB4.out, HI4.out⟩
  case round =>
    obtain ⟨i, rfl, hg, f5, b5, i5⟩ := hrel
    have HF5 := Lib.hid f5
    have HI5 := Lib.hid i5
    have HB5 := Lib.hid b5
    by_cases hik : i < k
    · have hi2 : i = 0 ∨ i = 1 ∨ i = 2 := by omega
      have c0 : wr.cell? ⟨w.heap.size, 0, none⟩ = some (.int .i64 p0) := blkc b5 0 _ rfl
      have c1 : wr.cell? ⟨w.heap.size, 1, none⟩ = some (.int .i64 p1) := blkc b5 1 _ rfl
      have c2 : wr.cell? ⟨w.heap.size, 2, none⟩ = some (.int .i64 p2) := blkc b5 2 _ rfl
      clear f5 b5 i5
      rcases hi2 with rfl | rfl | rfl
      · have k0 : (0 : Int) < (k : Int) := by omega
        have HX := Lib.hid (HPr.out (w.heap.size + 1) (c :: partsL p0 p1 p2 0) p0 Q.out.1 wr HI5.out (by have := HL.out 0; rw [List.length_cons]; omega))
        have hg := hg
        simp only [Int.cast_ofNat_Int] at *
        go_wp2_with fail
        refine HX.out.mono ?_
        rintro e w6 ⟨rfl, i6, f6⟩
        have HR := Lib.hid (show DigRel w c p0 p1 p2 k (k - (0 + 1)) (intV 0) (intV (1 : Int)) w6 from ⟨1, rfl, by omega, HF5.out.fresh f6 (fun j hj => by omega), f6.blk HB5.out (by omega), by rw [parts_next0]; exact i6⟩)
        clear i6 f6 c0 c1 c2
        go_wp2_with fail
        go_roundg (k - (0 + 1))
        case measure => omega
        case rel => exact HR.out
      · have k0 : (1 : Int) < (k : Int) := by omega
        have HX := Lib.hid (HPr.out (w.heap.size + 1) (c :: partsL p0 p1 p2 1) p1 Q.out.2.1 wr HI5.out (by have := HL.out 1; rw [List.length_cons]; omega))
        have hg := hg
        simp only [Int.cast_ofNat_Int] at *
        go_wp2_with fail
        refine HX.out.mono ?_
        rintro e w6 ⟨rfl, i6, f6⟩
        have HR := Lib.hid (show DigRel w c p0 p1 p2 k (k - (1 + 1)) (intV 0) (intV (2 : Int)) w6 from ⟨2, rfl, by omega, HF5.out.fresh f6 (fun j hj => by omega), f6.blk HB5.out (by omega), by rw [parts_next1]; exact i6⟩)
        clear i6 f6 c0 c1 c2
        go_wp2_with fail
        go_roundg (k - (1 + 1))
        case measure => omega
        case rel => exact HR.out
      · have k0 : (2 : Int) < (k : Int) := by omega
        have HX := Lib.hid (HPr.out (w.heap.size + 1) (c :: partsL p0 p1 p2 2) p2 Q.out.2.2 wr HI5.out (by have := HL.out 2; rw [List.length_cons]; omega))
        have hg := hg
        simp only [Int.cast_ofNat_Int] at *
        go_wp2_with fail
        refine HX.out.mono ?_
        rintro e w6 ⟨rfl, i6, f6⟩
        have HR := Lib.hid (show DigRel w c p0 p1 p2 k (k - (2 + 1)) (intV 0) (intV (3 : Int)) w6 from ⟨3, rfl, by omega, HF5.out.fresh f6 (fun j hj => by omega), f6.blk HB5.out (by omega), by rw [parts_next2]; exact i6⟩)
        clear i6 f6 c0 c1 c2
        go_wp2_with fail
        go_roundg (k - (2 + 1))
        case measure => omega
        case rel => exact HR.out
    · have e : i = k := by omega
      subst e
      have k0 : ¬ (i : Int) < (i : Int) := by omega
      have HS := Lib.hid (stringT_any 69 (w.heap.size + 1) (c :: partsL p0 p1 p2 i) wr i5 (by simp))
      clear f5 b5 i5
      go_wp2_with fail
      refine HS.out.mono ?_
      rintro e w6 ⟨rfl, f6⟩
      have HF6 := Lib.hid (HF5.out.fresh f6 (fun j hj => by omega))
      clear f6
      go_wp2_with fail
      go_ret
      exact ⟨rfl, HF6.out⟩
end Go.Proofs.YtghcfmoagkimaaaDoor
