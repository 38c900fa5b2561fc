import Derived.Test.YtolmemdkklfdpaaBck
namespace Go.Proofs.Ytolmemdkklfdpaa
open Go.RowKit Go.Mem Go.Lxr

theorem fields_len : ∀ (l : Bs) (p : Nat) (fs : List FPair), fieldsD p l = .ok fs → fs.length ≤ l.length := by
  refine fields_ind ?_ ?_ ?_ ?_ ?_
  · intro p fs h
    rw [fields_nil] at h
    injection h with h
    subst h
    simp
  · intro p r fs h
    rw [fields_note] at h
    injection h with h
    subst h
    simp
  · intro p c r hw ih fs h
    rw [fields_white hw] at h
    have := ih fs h
    simp
    omega
  · intro p c r k hs hf fs h
    rw [fields_bad hs p k r hf] at h
    cases h
  · intro p c r t r' hs hf hlt ih fs h
    rw [fields_one hs p r t r' hf] at h
    cases hg : fieldsD (p + ((c :: r).length - r'.length)) r' with
    | error j => rw [hg] at h; cases h
    | ok x =>
      rw [hg] at h
      injection h with h
      subst h
      have := ih x hg
      simp at hlt ⊢
      omega
/-- what Fields answers -/
def fieldsO (l : Bs) : List FPair × Int × Int := if 200 < l.length then ([], 0, 17) else match fieldsD 0 l with
  | .error k => ([], (k : Int), 9)
  | .ok fs => (fs, 0, 0)
theorem fieldsO_len (l : Bs) : (fieldsO l).1.length ≤ 200 := by
  unfold fieldsO
  split
  · simp
  · split
    · simp
    · rename_i fs h
      have := fields_len _ _ _ h
      show fs.length ≤ 200
      omega
def FOut (o : List FPair × Int × Int) (w : World) (e : Ending) (w' : World) : Prop :=
  ∃ A c, e = .returned (.tuple #[.slice A o.1.length c, .int .i64 o.2.1, .int .i64 o.2.2]) ∧ FdAt w' A o.1 ∧ Fr w w' (fun _ => False)
theorem fout_of {t : TypeId} {l : Bs} {w : World} {e : Ending} {w' : World} (hl : ¬ 200 < l.length) (h : FieldsRan t (fieldsD 0 l) w e w') : FOut (fieldsO l) w e w' := by
  unfold fieldsO
  rw [if_neg hl]
  cases hf : fieldsD 0 l with
  | error k =>
    rw [hf] at h
    obtain ⟨rfl, h2⟩ := h
    exact ⟨none, 0, rfl, Rd.zero _ _ _, h2⟩
  | ok fs =>
    rw [hf] at h
    obtain ⟨v, rfl, hv, h2⟩ := h
    obtain ⟨A, c, rfl, hr⟩ := hv.rd
    exact ⟨A, c, rfl, hr, h2⟩
theorem Fields_any (s : ByteArray) (w : World) (hz : s.size ≤ 1000000) : Calls Try.prog 10 #[.string s] w (FOut (fieldsO s.data.toList) w) := by
  have hb := bytes_len s
  by_cases h : 200 < s.size
  · refine (Fields_long s w h hz).mono ?_
    rintro e w' ⟨rfl, rfl⟩
    unfold fieldsO
    rw [if_pos (by omega)]
    exact ⟨none, 0, rfl, Rd.zero _ _ _, Fr.refl _ _⟩
  · exact (Fields_short s _ w rfl (by omega)).mono fun e w' h2 => fout_of (by omega) h2
theorem rFields_any (s : ByteArray) (w : World) (hz : s.size ≤ 1000000) : Calls Try.prog 11 #[.string s] w (FOut (fieldsO s.data.toList) w) := by
  have hb := bytes_len s
  by_cases h : 200 < s.size
  · refine (rFields_long s w h hz).mono ?_
    rintro e w' ⟨rfl, rfl⟩
    unfold fieldsO
    rw [if_pos (by omega)]
    exact ⟨none, 0, rfl, Rd.zero _ _ _, Fr.refl _ _⟩
  · exact (rFields_short s _ w rfl (by omega)).mono fun e w' h2 => fout_of (by omega) h2
set_option maxHeartbeats 1600000 in
theorem fields_walk (s : ByteArray) (w : World) (hm : s.size ≤ maxLen) : Calls Try.prog 3 #[.string s] w fun e w' => e = .returned (.bool true) ∧ Fr w w' (fun _ => False) := by
  unfold maxLen at hm
  by_cases h : 1000 < s.size
  · go_enter Try.func3, Try.ntmps3
    go_wp2_with fail
    refine (alive_any w).mono ?_
    rintro e w2 ⟨rfl, hf2⟩
    have HF2 := Lib.hid hf2
    clear hf2
    go_wp2_with fail
    go_ret
    exact ⟨rfl, HF2.out⟩
  · have hz : s.size ≤ 1000 := by omega
    have HA := Lib.hid (fun w => Fields_any s w (by omega))
    have HB := Lib.hid (fun w => rFields_any s w (by omega))
    have hfl := fieldsO_len s.data.toList
    obtain ⟨fs, col, k, hO⟩ : ∃ fs col k, fieldsO s.data.toList = (fs, col, k) := ⟨_, _, _, rfl⟩
    rw [hO] at HA HB hfl
    have hfl : fs.length ≤ 200 := hfl
    have e1 : (col == col) = true := by simp
    have e2 : (k == k) = true := by simp
    clear hO h
    go_enter Try.func3, Try.ntmps3
    go_wp2_with fail
    refine (HA.out w).mono ?_
    rintro e w2 ⟨A2, c2, rfl, hr2, hf2⟩
    have HF2 := Lib.hid hf2
    have HR2 := Lib.hid hr2
    clear hf2 hr2
    go_wp2_with fail
    refine (HB.out w2).mono ?_
    rintro e w3 ⟨A3, c3, rfl, hr3, hf3⟩
    have HF3 := Lib.hid (ff HF2.out hf3)
    have HR3 := Lib.hid hr3
    have HK := Lib.hid (Back_any A2 c2 fs w3 (HR2.out.fr hf3) (by omega))
    clear hf3 hr3
    go_wp2_with fail
    refine HK.out.mono ?_
    rintro e w4 ⟨v4, rfl, hv4, hf4⟩
    obtain ⟨A4, c4, rfl, hr4⟩ := hv4.rd
    have HF4 := Lib.hid (ff HF3.out hf4)
    have HM := Lib.hid (Same_any A4 A3 c4 c3 fs w4 hr4 (HR3.out.fr hf4) (by omega))
    clear hf4 hv4 hr4
    go_wp2_with fail
    refine HM.out.mono ?_
    rintro e w5 ⟨rfl, n5, rfl⟩
    go_wp2_with fail
    refine (alive_any _).mono ?_
    rintro e w6 ⟨rfl, hf6⟩
    have HF6 := Lib.hid (ff HF4.out (ff (Fr.drewN w4 n5 _) hf6))
    clear hf6
    go_wp2_with fail
    go_ret
    exact ⟨rfl, HF6.out⟩
end Go.Proofs.Ytolmemdkklfdpaa
