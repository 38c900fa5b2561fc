import Derived.Test.YtolmemdkklfdpaaRsh
import Derived.Test.YtolmemdkklfdpaaLjp
namespace Go.Proofs.Ytolmemdkklfdpaa
open Go.RowKit Go.Mem Go.Lxr

theorem joins_walk (a b : Bs) (w : World) (ha : a.length ≤ maxLen) (hb : b.length ≤ maxLen) : Calls Try.prog 8 #[strV a, strV b] w fun e w' => e = .returned (.bool true) ∧ Fr w w' (fun _ => False) := by
  by_cases h : a.length ≤ 90 ∧ b.length ≤ 90
  · obtain ⟨h1, h2⟩ := h
    by_cases h35 : (35 : UInt8) ∈ a
    · exact join_note a b w h1 h2 h35
    · obtain ⟨fs, ca, ka, hO⟩ : ∃ x y z, fieldsO a = (x, y, z) := ⟨_, _, _, rfl⟩
      obtain ⟨gs, cb, kb, hO2⟩ : ∃ x y z, fieldsO b = (x, y, z) := ⟨_, _, _, rfl⟩
      by_cases e1 : ka = 0
      · by_cases e2 : kb = 0
        · subst e1 e2
          exact join_ok a b w h1 h2 h35 fs gs ca cb hO hO2
        · exact join_bad a b w h1 h2 h35 fs gs ca cb ka kb hO hO2 (.inr ⟨by simpa using e1, by simpa using e2⟩)
      · exact join_bad a b w h1 h2 h35 fs gs ca cb ka kb hO hO2 (.inl (by simpa using e1))
  · exact join_out a b w ha hb h
theorem white_walk (l note : Bs) (n : Int) (w : World) (hl : l.length ≤ maxLen) (hn : note.length ≤ maxLen) : Calls Try.prog 6 #[strV l, strV note, .int .i64 n] w fun e w' => e = .returned (.bool true) ∧ Fr w w' (fun _ => False) := by
  by_cases h : l.length ≤ 100 ∧ note.length ≤ 50 ∧ 0 ≤ n ∧ n ≤ 20
  · obtain ⟨h1, h2, h3, h4⟩ := h
    obtain ⟨m, rfl⟩ : ∃ m : Nat, n = (m : Int) := ⟨n.toNat, by omega⟩
    obtain ⟨fs, c, k, hO⟩ : ∃ x y z, fieldsO l = (x, y, z) := ⟨_, _, _, rfl⟩
    by_cases e : k = 0
    · subst e
      have hc : c = 0 := by
        unfold fieldsO at hO
        split at hO
        · cases hO
        · split at hO
          · cases hO
          · injection hO with h1 h2
            injection h2 with h2 h3
            exact h2.symm
      subst hc
      exact white_ok l note m w h1 h2 (by omega) fs hO
    · exact white_bad l note m w h1 h2 (by omega) fs c k hO (by simpa using e)
  · exact white_out l note n w hl hn h
theorem shows_walk (A : Option Addr) (n cap : Nat) (ls : List Bs) (W : World) (hr : Rd W 1 A n (ls.map strV)) (hn : n ≤ maxLen) (hle : ∀ y ∈ ls, y.length ≤ maxLen) :
    Calls Try.prog 4 #[.slice A n cap] W fun e w' => e = .returned (.bool true) ∧ Fr W w' (fun _ => False) := by
  have HLI := Lib.hid (light_any A n cap ls W hr hn hle)
  have HR := Lib.hid hr
  clear hr hn hle
  by_cases hL : Light n ls
  · have HLT := Lib.hid (HLI.out true ⟨fun _ => hL, fun _ => rfl⟩)
    have HS := Lib.hid (fun (w : World) (h : Fr W w (fun _ => False)) => Show_any A n cap ls w (strs_fr HR.out h) hL)
    have HT := Lib.hid (fun (w : World) (h : Fr W w (fun _ => False)) => rShow_any A n cap ls w (strs_fr HR.out h) hL)
    obtain ⟨⟨t, k⟩, hD⟩ : ∃ D, showD ls = D := ⟨_, rfl⟩
    rw [hD] at HS HT
    have e1 : (t == t) = true := by simp
    have e2 : (k == k) = true := by simp
    clear hD hL
    go_enter Try.func4, Try.ntmps4
    go_wp2_with fail
    refine HLT.out.mono ?_
    rintro e w2 ⟨rfl, rfl⟩
    go_wp2_with fail
    refine (HS.out _ (Fr.refl _ _)).mono ?_
    rintro e w2 ⟨rfl, hf2⟩
    have HF2 := Lib.hid hf2
    have HT2 := Lib.hid (HT.out w2 hf2)
    clear hf2
    go_wp2_with fail
    refine HT2.out.mono ?_
    rintro e w3 ⟨rfl, hf3⟩
    have HF3 := Lib.hid (ff HF2.out hf3)
    clear hf3
    go_wp2_with fail
    refine (alive_any _).mono ?_
    rintro e w4 ⟨rfl, hf4⟩
    have HF4 := Lib.hid (ff HF3.out hf4)
    clear hf4
    go_wp2_with fail
    go_ret
    exact ⟨rfl, HF4.out⟩
  · have HLT := Lib.hid (HLI.out false ⟨(fun h => by cases h), fun h => absurd h hL⟩)
    clear hL
    go_enter Try.func4, Try.ntmps4
    go_wp2_with fail
    refine HLT.out.mono ?_
    rintro e w2 ⟨rfl, rfl⟩
    go_wp2_with fail
    refine (alive_any _).mono ?_
    rintro e w2 ⟨rfl, hf2⟩
    have HF2 := Lib.hid hf2
    clear hf2
    go_wp2_with fail
    go_ret
    exact ⟨rfl, HF2.out⟩
theorem showD_three (ls : List Bs) : (∃ k, showD ls = ([], k) ∧ (k == 0) = false) ∨ (∃ t fs, showD ls = (t, 0) ∧ t.length ≤ 200 ∧ fieldsO t = (fs, 0, 0) ∧ fs.map (·.1) = ls) := by
  cases hq : quoteAny ls with
  | true => exact .inl ⟨1, showD_bad hq, rfl⟩
  | false =>
    by_cases hl : 200 < (joinL ls).length
    · exact .inl ⟨17, showD_long hq hl, rfl⟩
    · have h34 : ∀ s ∈ ls, (34 : UInt8) ∉ s := fun s hs e => by
        have := List.any_eq_false.1 hq s hs
        exact this (List.elem_iff.2 e)
      obtain ⟨fs, h1, h2⟩ := fields_show ls 0 h34
      exact .inr ⟨joinL ls, fs, showD_ok hq (by omega), by omega, fieldsO_of (by omega) h1, h2⟩
theorem back_walk (A : Option Addr) (n cap : Nat) (ls : List Bs) (W : World) (hr : Rd W 1 A n (ls.map strV)) (hn : n ≤ maxLen) (hle : ∀ y ∈ ls, y.length ≤ maxLen) :
    Calls Try.prog 5 #[.slice A n cap] W fun e w' => e = .returned (.bool true) ∧ Fr W w' (fun _ => False) := by
  have HLI := Lib.hid (light_any A n cap ls W hr hn hle)
  have HR := Lib.hid hr
  have HLN := Lib.hid (strs_len hr)
  clear hr hn hle
  by_cases hL : Light n ls
  · have HLT := Lib.hid (HLI.out true ⟨fun _ => hL, fun _ => rfl⟩)
    have HS := Lib.hid (Show_any A n cap ls W HR.out hL)
    have hn := hL.1
    rcases showD_three ls with ⟨k, hD, hk⟩ | ⟨t, fs, hD, htl, hO, hm⟩
    · rw [hD] at HS
      clear hD hL
      go_enter Try.func5, Try.ntmps5
      go_wp2_with fail
      refine HLT.out.mono ?_
      rintro e w2 ⟨rfl, rfl⟩
      go_wp2_with fail
      refine HS.out.mono ?_
      rintro e w2 ⟨rfl, hf2⟩
      have HF2 := Lib.hid hf2
      clear hf2
      go_wp2_with fail
      refine (alive_any _).mono ?_
      rintro e w4 ⟨rfl, hf4⟩
      have HF4 := Lib.hid (ff HF2.out hf4)
      clear hf4
      go_wp2_with fail
      go_ret
      exact ⟨rfl, HF4.out⟩
    · rw [hD] at HS
      have HX := Lib.hid (fun w => Fields_list t w (by omega))
      rw [hO] at HX
      have hfl : fs.length = n := by
        have := congrArg List.length hm
        rw [List.length_map, HLN.out] at this
        exact this
      have HM := Lib.hid (fun (i : Nat) (x : FPair) (y : Bs) (h1 : fs[i]? = some x) (h2 : ls[i]? = some y) => show x.1 = y by
        rw [← hm, List.getElem?_map, h1] at h2
        injection h2)
      have HFL := Lib.hid hfl
      have eN : ((n : Int) == (n : Int)) = true := by simp
      have eN' : ((n : Int) != (n : Int)) = false := by simp
      clear hD hL hm hO hfl
      go_enter Try.func5, Try.ntmps5
      go_wp2_with fail
      refine HLT.out.mono ?_
      rintro e w2 ⟨rfl, rfl⟩
      go_wp2_with fail
      refine HS.out.mono ?_
      rintro e w2 ⟨rfl, hf2⟩
      have HF2 := Lib.hid hf2
      clear hf2
      go_wp2_with fail
      refine (HX.out w2).mono ?_
      rintro e w3 ⟨A3, c3, rfl, hr3, hf3⟩
      have HF3 := Lib.hid (ff HF2.out hf3)
      have HR3 := Lib.hid hr3
      have HAL := Lib.hid (fun m => alive_any (w3.drewN m))
      clear hf3 hr3
      simp only [HFL.out]
      go_wp2_with fail
      go_loopg [8] n (fun g v8 wx => ∃ m, wx = w3.drewN m ∧ ∃ i : Nat, i + g = n ∧ v8 = .int .i64 (i : Int))
      case atStart => exact ⟨0, rfl, 0, by omega, rfl⟩
      case round =>
        obtain ⟨m, hwx, i, hi, rfl⟩ := hrel
        have HWX := Lib.hid hwx
        by_cases hlt : i < n
        · obtain ⟨b, off, x, rfl, hx, c0, -⟩ := HR3.out.at_ (k := i) (by rw [HFL.out]; exact hlt)
          obtain ⟨b', off', y, rfl, hy, d0⟩ := strs_at HR.out hlt
          obtain rfl := HM.out i x y hx hy
          have d0 := HF3.out.cell0 d0
          have c0 : wr.cell? ⟨b, off + i * 2, none⟩ = some (strV x.1) := by rw [hwx]; exact c0
          have d0 : wr.cell? ⟨b', off' + i, none⟩ = some (strV x.1) := by rw [hwx]; exact d0
          have i0 : (0 : Int) ≤ (i : Int) := by omega
          have i1 : (i : Int) < (n : Int) := by omega
          have e1 : (x.1 == x.1) = true := by simp
          clear hx hy hwx
          go_wp2_with fail
          go_quiet (fail)
          go_wp2_with fail
          go_roundg (n - (i + 1))
          case measure => omega
          case rel => exact ⟨m + nq, by rw [HWX.out, World.drewN_drewN], i + 1, by omega, by go_num⟩
        · subst hwx
          go_wp2_with fail
          refine (HAL.out m).mono ?_
          rintro e w5 ⟨rfl, hf5⟩
          have HF5 := Lib.hid (ff HF3.out (ff (Fr.drewN _ _ _) hf5))
          clear hf5
          go_wp2_with fail
          go_ret
          exact ⟨rfl, HF5.out⟩
  · have HLT := Lib.hid (HLI.out false ⟨(fun h => by cases h), fun h => absurd h hL⟩)
    clear hL
    go_enter Try.func5, Try.ntmps5
    go_wp2_with fail
    refine HLT.out.mono ?_
    rintro e w2 ⟨rfl, rfl⟩
    go_wp2_with fail
    refine (alive_any _).mono ?_
    rintro e w2 ⟨rfl, hf2⟩
    have HF2 := Lib.hid hf2
    clear hf2
    go_wp2_with fail
    go_ret
    exact ⟨rfl, HF2.out⟩
end Go.Proofs.Ytolmemdkklfdpaa
