import Derived.Test.YtdnolfpaokbckaaDoorDay
namespace Go.Proofs.YtdnolfpaokbckaaDoor
open Go.RowKit Go.Mem Go.Civil

theorem gg {a b c : World} (h : Fr a b (fun _ => False)) (k : Fr b c (fun _ => False)) : Fr a c (fun _ => False) := h.trans k (fun _ _ h => h) (fun _ _ h => h)
theorem gd {a b : World} (h : Fr a b (fun _ => False)) : Fr a b.drew (fun _ => False) := gg h (Fr.drew _ _)
theorem alive_k : daysK 2000 2 29 = 11016 := by decide
theorem alive_e : daysE 2000 2 29 = 0 := by decide
theorem alive_l : leapB 2000 = true := by decide
theorem alive_m : leapB 1900 = false := by decide
theorem alive_any (w : World) (hg : LOk w) : Calls Tryd.prog 15 #[] w fun e w' => e = .returned (.bool true) ∧ Fr w w' (fun _ => False) := by
  have HD := Lib.hid (Days_any 2000 2 29 w hg)
  rw [alive_k, alive_e] at HD
  have HW := Lib.hid (fun w => Week_any 11016 w (by unfold inRange; omega))
  rw [show ((11016 : Int) + 4) % 7 = 2 from rfl] at HW
  have H1 := Lib.hid (fun w => Leap_any 2000 w)
  rw [alive_l] at H1
  have H2 := Lib.hid (fun w => Leap_any 1900 w)
  rw [alive_m] at H2
  clear hg
  go_enter Tryd.func15, Tryd.ntmps15
  go_wp2_with fail
  refine HD.out.mono ?_
  rintro e w2 ⟨rfl, hf⟩
  have HF := Lib.hid hf
  clear hf
  go_wp2_with fail
  refine (HW.out _).mono ?_
  rintro e w3 ⟨rfl, rfl⟩
  go_wp2_with fail
  refine (H1.out _).mono ?_
  rintro e w3 ⟨rfl, rfl⟩
  go_wp2_with fail
  refine (H2.out _).mono ?_
  rintro e w3 ⟨rfl, rfl⟩
  go_wp2_with fail
  go_ret
  exact ⟨rfl, gd HF.out⟩
end Go.Proofs.YtdnolfpaokbckaaDoor
