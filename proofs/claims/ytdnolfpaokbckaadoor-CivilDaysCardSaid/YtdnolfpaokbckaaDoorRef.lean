import Derived.Test.YtdnolfpaokbckaaDoorRba
namespace Go.Proofs.YtdnolfpaokbckaaDoor
open Go.RowKit Go.Mem Go.Civil

theorem rYear_any (y : Int) (w : World) (hy : -9999 ≤ y ∧ y ≤ 10000) : Calls Tryd.prog 25 #[.int .i64 y] w fun e w' => e = .returned (.int .i64 (begD y)) ∧ w = w' := by
  go_enter Tryd.func25, Tryd.ntmps25
  go_wp2_with fail
  go_loop [3, 4] (fun v2 v3 => ∃ a : Int, 1970 ≤ a ∧ (a ≤ y ∨ a = 1970) ∧ v2 = .int .i64 (begD a) ∧ v3 = .int .i64 a) (fun _ v3 => (y - intOf v3).toNat)
  case atStart => exact ⟨1970, by omega, by omega, by rw [begD_0], rfl⟩
  case round =>
    obtain ⟨a, ha, ha2, rfl, rfl⟩ := hrel
    have hbr := begD_range (y := a) (by omega)
    by_cases hlt : a + 400 ≤ y
    · have HS := Lib.hid (begD_add a)
      generalize begD a = B at *
      go_wp2_with fail
      go_round
      case rel => exact ⟨a + 400, by omega, by omega, by rw [HS.out], rfl⟩
      case measure => simp [intOf]; omega
    · have hlo : y < a + 400 := by omega
      clear hlt ha
      have ha3 : a ≤ 10000 := by omega
      clear ha2 hbr
      go_wp2_with fail
      go_loop [3, 4] (fun v3 v4 => ∃ a : Int, y < a + 400 ∧ a ≤ 10000 ∧ v3 = .int .i64 (begD a) ∧ v4 = .int .i64 a) (fun _ v4 => (intOf v4 - y).toNat)
      case atStart => exact ⟨a, hlo, ha3, rfl, rfl⟩
      case round =>
        obtain ⟨b, hb, hb2, rfl, rfl⟩ := hrel
        clear hlo ha3
        have hbr := begD_wide (y := b) (by omega)
        by_cases hlt : y < b
        · have HS := Lib.hid (begD_sub b)
          generalize begD b = B at *
          go_wp2_with fail
          go_round
          case rel => exact ⟨b - 400, by omega, by omega, by rw [HS.out], rfl⟩
          case measure => simp [intOf]; omega
        · have hle : b ≤ y := by omega
          clear hlt hb2 hbr
          go_wp2_with fail
          go_loop [3, 4] (fun v3 v4 => ∃ a : Int, y < a + 400 ∧ a ≤ y ∧ v3 = .int .i64 (begD a) ∧ v4 = .int .i64 a) (fun _ v4 => (y - intOf v4).toNat)
          case atStart => exact ⟨b, hb, hle, rfl, rfl⟩
          case round =>
            obtain ⟨c, hc, hc2, rfl, rfl⟩ := hrel
            clear hb hle
            have hbr := begD_wide (y := c) (by omega)
            by_cases hlt : c < y
            · have hs := begD_succ c
              unfold leapI at hs
              have HS := Lib.hid hs
              clear hs
              have HL := Lib.hid (rLeap_any c w)
              generalize begD c = B at *
              generalize leapB c = L at *
              go_wp2_with fail
              refine HL.out.mono ?_
              rintro e w' ⟨rfl, rfl⟩
              cases L
              · go_wp2_with fail
                go_round
                case rel => exact ⟨c + 1, by omega, by omega, by rw [HS.out]; simp, rfl⟩
                case measure => simp [intOf]; omega
              · go_wp2_with fail
                go_round
                case rel => exact ⟨c + 1, by omega, by omega, by rw [HS.out]; simp, rfl⟩
                case measure => simp [intOf]; omega
            · obtain rfl : c = y := by omega
              go_wp2_with fail
              go_ret
              exact ⟨rfl, rfl⟩
end Go.Proofs.YtdnolfpaokbckaaDoor
