import Derived.Test.YtolmemdkklfdpaaLri
namespace Go.Proofs.Ytolmemdkklfdpaa
open Go.RowKit Go.Mem Go.Lxr

theorem rise_walk (s : ByteArray) (w : World) (hm : s.size ≤ maxLen) : Calls Try.prog 7 #[.string s] w fun e w' => e = .returned (.bool true) ∧ Fr w w' (fun _ => False) := by
  unfold maxLen at hm
  have hb := bytes_len s
  by_cases h : 1000 < s.size
  · go_enter Try.func7, Try.ntmps7
    go_wp2_with fail
    refine (alive_any w).mono ?_
    rintro e w2 ⟨rfl, hf2⟩
    have HF2 := Lib.hid hf2
    clear hf2
    go_wp2_with fail
    go_ret
    exact ⟨rfl, HF2.out⟩
  · by_cases h2 : 200 < s.data.toList.length
    · have hO : fieldsO s.data.toList = ([], 0, 17) := by unfold fieldsO; rw [if_pos h2]
      exact rise_ok s w (by omega) [] 17 hO rfl trivial
    · cases hf : fieldsD 0 s.data.toList with
      | error k =>
        have hO : fieldsO s.data.toList = ([], (k : Int), 9) := by unfold fieldsO; rw [if_neg h2, hf]
        obtain ⟨-, hk⟩ := fields_bad_at _ _ _ hf
        obtain ⟨hk, hc⟩ := byte_at (s := s) (k := k) (c := 34) (by simpa using hk)
        exact rise_bad s w (by omega) k hO hk hc
      | ok fs =>
        have hO : fieldsO s.data.toList = (fs, 0, 0) := by unfold fieldsO; rw [if_neg h2, hf]
        exact rise_ok s w (by omega) fs 0 hO rfl (fields_rise _ _ _ hf)
end Go.Proofs.Ytolmemdkklfdpaa
