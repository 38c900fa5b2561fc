import Derived.Test.YtdnolfpaokbckaaDoorRfd
namespace Go.Proofs.YtdnolfpaokbckaaDoor
open Go.RowKit Go.Mem Go.Civil

theorem months_walk (y m d : Int) (w : World) (hg : LOk w) : Calls Tryd.prog 3 #[.int .i64 y, .int .i64 m, .int .i64 d] w fun e w' => e = .returned (.bool true) ∧ Fr w w' (fun _ => False) := by
  have H1 := Lib.hid (Leap_any y w)
  have H2 := Lib.hid (rLeap_any y w)
  have H3 := Lib.hid (Long_any y m w hg)
  have H4 := Lib.hid (rLong_any y m w)
  have H5 := Lib.hid (Right_any y m d w hg)
  have H6 := Lib.hid (rRight_any y m d w)
  have H7 := Lib.hid (alive_any w hg)
  generalize leapB y = L at *
  generalize longI y m = M at *
  generalize rightB y m d = R at *
  have e1 : (L == L) = true := by simp
  have e2 : (M == M) = true := by simp
  have e3 : (R == R) = true := by simp
  clear hg
  go_enter Tryd.func3, Tryd.ntmps3
  go_wp2_with fail
  refine H1.out.mono ?_
  rintro e w2 ⟨rfl, rfl⟩
  go_wp2_with fail
  refine H2.out.mono ?_
  rintro e w2 ⟨rfl, rfl⟩
  go_wp2_with fail
  refine H3.out.mono ?_
  rintro e w2 ⟨rfl, rfl⟩
  go_wp2_with fail
  refine H4.out.mono ?_
  rintro e w2 ⟨rfl, rfl⟩
  go_wp2_with fail
  refine H5.out.mono ?_
  rintro e w2 ⟨rfl, rfl⟩
  go_wp2_with fail
  refine H6.out.mono ?_
  rintro e w2 ⟨rfl, rfl⟩
  go_wp2_with fail
  refine H7.out.mono ?_
  rintro e w2 ⟨rfl, hf⟩
  have HF := Lib.hid hf
  clear hf
  go_wp2_with fail
  go_ret
  exact ⟨rfl, HF.out⟩
theorem days_walk (y m d : Int) (w : World) (hg : LOk w) : Calls Tryd.prog 4 #[.int .i64 y, .int .i64 m, .int .i64 d] w fun e w' => e = .returned (.bool true) ∧ Fr w w' (fun _ => False) := by
  have H1 := Lib.hid (Days_any y m d w hg)
  have H2 := Lib.hid (fun w => rDays_any y m d w)
  have H7 := Lib.hid (fun w' (hf : Fr w w' (fun _ => False)) => alive_any w' (hg.fr hf))
  generalize daysK y m d = M at *
  generalize daysE y m d = R at *
  have e2 : (M == M) = true := by simp
  have e3 : (R == R) = true := by simp
  clear hg
  go_enter Tryd.func4, Tryd.ntmps4
  go_wp2_with fail
  refine H1.out.mono ?_
  rintro e w2 ⟨rfl, hf⟩
  have HF := Lib.hid hf
  clear hf
  go_wp2_with fail
  refine (H2.out _).mono ?_
  rintro e w2 ⟨rfl, rfl⟩
  go_wp2_with fail
  refine (H7.out _ HF.out).mono ?_
  rintro e w2 ⟨rfl, hf⟩
  have HG := Lib.hid (gg HF.out hf)
  clear hf
  go_wp2_with fail
  go_ret
  exact ⟨rfl, HG.out⟩
theorem dates_walk (n : Int) (w : World) (hn : inRange n) (hg : LOk w) : Calls Tryd.prog 5 #[.int .i64 n] w fun e w' => e = .returned (.bool true) ∧ Fr w w' (fun _ => False) := by
  obtain ⟨y, m, d, k, hd⟩ := date_of n
  have H1 := Lib.hid (Date_any n y m d k w hn hg hd)
  have H2 := Lib.hid (fun w => rDate_any n y m d k w hn hd)
  have H7 := Lib.hid (fun w' (hf : Fr w w' (fun _ => False)) => alive_any w' (hg.fr hf))
  have e1 : (y == y) = true := by simp
  have e2 : (m == m) = true := by simp
  have e3 : (d == d) = true := by simp
  have e4 : (k == k) = true := by simp
  clear hg hd hn
  go_enter Tryd.func5, Tryd.ntmps5
  go_wp2_with fail
  refine H1.out.mono ?_
  rintro e w2 ⟨rfl, hf⟩
  have HF := Lib.hid hf
  clear hf
  go_wp2_with fail
  refine (H2.out _).mono ?_
  rintro e w2 ⟨rfl, rfl⟩
  go_wp2_with fail
  refine (H7.out _ HF.out).mono ?_
  rintro e w2 ⟨rfl, hf⟩
  have HG := Lib.hid (gg HF.out hf)
  clear hf
  go_wp2_with fail
  go_ret
  exact ⟨rfl, HG.out⟩
theorem clocks_walk (n : Int) (w : World) (hn : inRange n) (hg : LOk w) : Calls Tryd.prog 6 #[.int .i64 n] w fun e w' => e = .returned (.bool true) ∧ Fr w w' (fun _ => False) := by
  have H1 := Lib.hid (Clock_any n w hn)
  have H2 := Lib.hid (fun w => rClock_any n w hn)
  have H3 := Lib.hid (fun w => Week_any n w hn)
  have H4 := Lib.hid (fun w => rWeek_any n w hn)
  have H7 := Lib.hid (fun w' (hf : Fr w w' (fun _ => False)) => alive_any w' (hg.fr hf))
  generalize n / 86400 = M at *
  generalize n % 86400 = R at *
  generalize (n + 4) % 7 = W at *
  have e2 : (M == M) = true := by simp
  have e3 : (R == R) = true := by simp
  have e4 : (W == W) = true := by simp
  clear hg hn
  go_enter Tryd.func6, Tryd.ntmps6
  go_wp2_with fail
  refine H1.out.mono ?_
  rintro e w2 ⟨rfl, rfl⟩
  go_wp2_with fail
  refine (H2.out _).mono ?_
  rintro e w2 ⟨rfl, rfl⟩
  go_wp2_with fail
  refine (H3.out _).mono ?_
  rintro e w2 ⟨rfl, rfl⟩
  go_wp2_with fail
  refine (H4.out _).mono ?_
  rintro e w2 ⟨rfl, rfl⟩
  go_wp2_with fail
  refine (H7.out _ (gd (Fr.drew w _))).mono ?_
  rintro e w2 ⟨rfl, hf⟩
  have HG := Lib.hid (gg (gd (Fr.drew w _)) hf)
  clear hf
  go_wp2_with fail
  go_ret
  exact ⟨rfl, HG.out⟩
end Go.Proofs.YtdnolfpaokbckaaDoor
