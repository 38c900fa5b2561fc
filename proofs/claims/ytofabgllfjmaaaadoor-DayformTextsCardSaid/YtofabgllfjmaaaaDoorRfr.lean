import Derived.Test.YtofabgllfjmaaaaDoorRpi
import Derived.Test.YtofabgllfjmaaaaDoorRnm
import Derived.Test.YtofabgllfjmaaaaDoorShf
namespace Go.Proofs.YtofabgllfjmaaaaDoor
open Go.RowKit Go.Mem Go.Dfm

theorem rright_any (k d q : Int) (w : World) : Calls Tryd.prog 22 #[dayV k d q] w fun e w' => e = .returned (.bool (rightB k d q)) ∧ Fr w w' (fun _ => False) := by
  obtain ⟨b, hb⟩ : ∃ b, rightB k d q = b := ⟨_, rfl⟩
  have HB := Lib.hid (show b = true ↔ rightP k d q by rw [← hb]; exact rightB_iff)
  rw [hb]
  clear hb
  go_enter Tryd.func22, Tryd.ntmps22
  go_wp2_with fail
  all_goals
    go_ret
    refine ret_bf ?_ (Fr.new _ _ _)
    have hb := HB.out
    rw [Bool.eq_iff_iff, hb]
    simp [rightP]
    try (simp only [beq_iff_eq, beq_eq_false_iff_ne, ne_eq] at *; omega)
theorem rnumber_any (s : ByteArray) (hs : s.size ≤ 999980) (w : World) : Calls Tryd.prog 19 #[.string s] w fun e w' => e = .returned (.int .i64 (rnumD s.data.toList)) ∧ w = w' := by
  have HP := Lib.hid (rParseInt_any s w hs)
  obtain ⟨z, hz⟩ : ∃ z, rnumD s.data.toList = z := ⟨_, rfl⟩
  rw [hz]
  unfold rnumD at hz
  generalize Go.Esc.parsed s.data.toList = P at *
  obtain ⟨a, b⟩ := P
  simp only at hz HP
  by_cases hb : b = 0
  · subst hb
    by_cases h1 : 1 ≤ a
    · by_cases h2 : a ≤ 31
      · rw [if_pos ⟨rfl, h1, h2⟩] at hz
        subst hz
        go_enter Tryd.func19, Tryd.ntmps19
        go_wp2_with fail
        refine HP.out.mono ?_
        rintro e w2 ⟨rfl, rfl⟩
        go_wp2_with fail
        go_ret
        exact ⟨rfl, rfl⟩
      · rw [if_neg (fun x => h2 x.2.2)] at hz
        subst hz
        go_enter Tryd.func19, Tryd.ntmps19
        go_wp2_with fail
        refine HP.out.mono ?_
        rintro e w2 ⟨rfl, rfl⟩
        go_wp2_with fail
        go_ret
        exact ⟨rfl, rfl⟩
    · rw [if_neg (fun x => h1 x.2.1)] at hz
      subst hz
      have h3 : a < 1 := by omega
      clear h1
      go_enter Tryd.func19, Tryd.ntmps19
      go_wp2_with fail
      refine HP.out.mono ?_
      rintro e w2 ⟨rfl, rfl⟩
      go_wp2_with fail
      go_ret
      exact ⟨rfl, rfl⟩
  · rw [if_neg (fun x => hb x.1)] at hz
    subst hz
    have h3 : (b == 0) = false := beq_eq_false_iff_ne.2 hb
    have h4 : (b != 0) = true := by simp [bne, h3]
    clear hb
    go_enter Tryd.func19, Tryd.ntmps19
    go_wp2_with fail
    refine HP.out.mono ?_
    rintro e w2 ⟨rfl, rfl⟩
    go_wp2_with fail
    go_ret
    exact ⟨rfl, rfl⟩
end Go.Proofs.YtofabgllfjmaaaaDoor
