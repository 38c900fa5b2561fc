import Derived.Test.YtofabgllfjmaaaaDoorCbs
namespace Go.Proofs.YtofabgllfjmaaaaDoor
open Go.RowKit Go.Mem Go.Civil

theorem ret_int {a b : Int} {w : World} (h : a = b) : Ending.returned (.int .i64 a) = .returned (.int .i64 b) ∧ w = w := ⟨by rw [h], rfl⟩
theorem ret_bool {a b : Bool} {w : World} (h : a = b) : Ending.returned (.bool a) = .returned (.bool b) ∧ w = w := ⟨by rw [h], rfl⟩
theorem longI_out {y m : Int} (h : ¬ (1 ≤ m ∧ m ≤ 12)) : longI y m = 0 := by
  unfold longI
  rw [if_neg (by omega), if_neg (by omega), if_neg h]
theorem Right_any (y m d : Int) (w : World) (hg : LOk w) : Calls Tryd.prog 16 #[.int .i64 y, .int .i64 m, .int .i64 d] w fun e w' => e = .returned (.bool (rightB y m d)) ∧ w = w' := by
  have HL := Lib.hid (Long_any y m w hg)
  have HB := Lib.hid (rightB_iff (y := y) (m := m) (d := d))
  have HM := Lib.hid (longI_out (y := y) (m := m))
  generalize rightB y m d = b at HB ⊢
  generalize longI y m = L at HB HL HM
  clear hg
  go_enter Tryd.func16, Tryd.ntmps16
  go_wp2_with fail
  all_goals first
    | (refine HL.out.mono ?_
       rintro e w' ⟨rfl, rfl⟩
       go_wp2_with fail
       all_goals
         go_ret
         refine ret_bool ?_
         have hb := HB.out
         have hm := HM.out
         rw [Bool.eq_iff_iff, hb]
         simp
         omega)
    | (go_ret
       refine ret_bool ?_
       have hb := HB.out
       have hm := HM.out
       rw [Bool.eq_iff_iff, hb]
       simp
       try omega)
end Go.Proofs.YtofabgllfjmaaaaDoor
