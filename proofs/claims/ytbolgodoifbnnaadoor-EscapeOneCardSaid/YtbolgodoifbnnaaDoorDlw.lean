import Derived.Test.YtbolgodoifbnnaaDoorInt
import Derived.Deep.RegionHeld3
namespace Go.Proofs.YtbolgodoifbnnaaDoor
open Go.RowKit Go.Mem Go.Esc Go.Sort

theorem run_add_str {P : Program} (w : World) (a b : Bs) (h : a.length + b.length ≤ 1000000) : (Op.stringOp .add ⟨a.toArray⟩ ⟨b.toArray⟩).run P w = .ok (strV (a ++ b)) w := by
  rw [run_string_add_sum w _ _ (by show a.toArray.size + b.toArray.size ≤ _; simp; omega)]
  show Result.ok (Value.string ((⟨a.toArray⟩ : ByteArray) ++ ⟨b.toArray⟩)) w = .ok (.string ⟨(a ++ b).toArray⟩) w
  congr 2
theorem size_str (l : Bs) : (⟨l.toArray⟩ : ByteArray).size = l.length := by show l.toArray.size = _; simp
theorem list_str (l : Bs) : (⟨l.toArray⟩ : ByteArray).data.toList = l := by simp
theorem strs_rd {w : World} {B : Nat} {v : Value} {vs : List Bs} (h : Strs w B v vs) : ∃ A c, v = .slice A vs.length c ∧ Rd w 1 A vs.length (vs.map strV) := by
  obtain ⟨A, c, rfl, hc, hm, hrd, -, ha⟩ := own_rd h
  exact ⟨A, c, rfl, hrd⟩

/-- alive behind whatever was asked ahead of it -/
theorem back_walk (n : Int) (sl rl : Bs) (A : Option Addr) (m cap : Nat) (ls : List Bs) (W : World) (hn : inRange n) (hs : sl.length ≤ maxLen) (hrl : rl.length ≤ maxLen) (hr : Rd W 1 A m (ls.map strV)) (hm : m ≤ maxLen) (hle : ∀ y ∈ ls, y.length ≤ maxLen) (hg : GOk W.heap.size W) :
    Calls Tryd.prog 4 #[.int .i64 n, strV sl, strV rl, .slice A m cap] W fun e w' => e = .returned (.bool true) ∧ Fr W w' (fun _ => False) := by
  have HLI := Lib.hid (light_any A m cap ls W hr hm hle)
  have HR := Lib.hid hr
  unfold maxLen at hs hrl
  have HG := Lib.hid hg
  have HN := Lib.hid hn
  have HM := Lib.hid hm
  clear hr hle hg hm hn
  by_cases h1 : 500 < sl.length
  · go_enter Tryd.func4, Tryd.ntmps4
    go_wp2_with fail
    refine (alive_any W).mono ?_
    rintro e w2 ⟨rfl, hf2⟩
    have HF2 := Lib.hid hf2
    clear hf2
    go_wp2_with fail
    go_ret
    exact ⟨rfl, HF2.out⟩
  · have h1' : sl.length ≤ 500 := by omega
    by_cases h2 : 500 < rl.length
    · go_enter Tryd.func4, Tryd.ntmps4
      go_wp2_with fail
      refine (alive_any W).mono ?_
      rintro e w2 ⟨rfl, hf2⟩
      have HF2 := Lib.hid hf2
      clear hf2
      go_wp2_with fail
      go_ret
      exact ⟨rfl, HF2.out⟩
    · have h2' : rl.length ≤ 500 := by omega
      by_cases hL : Light m ls
      · have HLT := Lib.hid (HLI.out true ⟨fun _ => hL, fun _ => rfl⟩)
        have HLL := Lib.hid hL
        have hjl : (joinL ls).length ≤ 24090 := by
          have := hL.len (strs_len HR.out) ls.length
          rwa [List.take_of_length_le (Nat.le_refl _)] at this
        have hil := itoa_len n HN.out
        have HPI := Lib.hid (parsed_itoa n HN.out)
        have HFJ := Lib.hid (fields_join ls)
        have HQQ := Lib.hid (quoted_quote sl rl)
        have hql := quote_len sl
        have HQ := Lib.hid (fun W => Quote_any ⟨sl.toArray⟩ W (by rw [size_str]; omega))
        rw [list_str] at HQ
        generalize quoteL sl = ql at HQQ hql HQ
        have ha := fun w => run_add_str (P := Tryd.prog) w ql rl (by omega)
        have HU := Lib.hid (fun W => Unquote_any ⟨(ql ++ rl).toArray⟩ W (by rw [size_str, List.length_append]; omega))
        rw [list_str, HQQ.out] at HU
        have HUU : Hid (∀ W, Calls Tryd.prog 14 #[strV (ql ++ rl)] W fun e w' => e = .returned (.tuple #[strV sl, .int .i64 (ql.length : Int), .int .i64 0]) ∧ Fr W w' (fun _ => False)) := Lib.hid (fun W => (HU.out W).mono fun e w' ⟨hf, he⟩ => by
          have e2 : ((⟨(ql ++ rl).toArray⟩ : ByteArray).size - rl.length : Nat) = ql.length := by rw [size_str, List.length_append]; omega
          have he : e = Ending.returned (.tuple #[strV sl, .int .i64 (((⟨(ql ++ rl).toArray⟩ : ByteArray).size - rl.length : Nat) : Int), .int .i64 0]) := he
          rw [e2] at he
          exact ⟨he, hf⟩)
        have HF := Lib.hid (fun W => Fields_any ⟨(joinL ls).toArray⟩ W (by rw [size_str]; omega))
        rw [list_str, HFJ.out] at HF
        have HJ := Lib.hid (fun (w : World) (h : Fr W w (fun _ => False)) => Join_any A m cap ls w (HR.out.fr h (fun _ _ _ _ h => h)) hL)
        generalize joinL ls = jl at HJ HF hjl
        have HI := Lib.hid (Int_any W.heap.size n W HN.out (Nat.le_refl _) HG.out)
        have HP := Lib.hid (fun (w : World) (h : Fr W w (fun _ => False)) => ParseInt_any W.heap.size (Lib.itoa n) w (by omega) h.size (HG.out.fr (Nat.le_refl _) h))
        rw [HPI.out] at HP
        have hml := strs_len HR.out
        generalize Lib.itoa n = il at HI HP hil
        have eq1 : (sl == sl) = true := by simp
        have eq2 : (n == n) = true := by simp
        have eq3 : ((ql.length : Int) == (ql.length : Int)) = true := by simp
        have HML := Lib.hid hml
        clear hml HU HQQ HPI HFJ hL h1 h2
        go_enter Tryd.func4, Tryd.ntmps4
        go_wp2_with fail
        refine HLT.out.mono ?_
        rintro e w2 ⟨rfl, rfl⟩
        go_wp2_with fail
        refine HI.out.mono ?_
        rintro e w2 ⟨rfl, hf2⟩
        have HF2 := Lib.hid hf2
        have HP2 := Lib.hid (HP.out w2 hf2)
        clear hf2
        go_wp2_with fail
        refine HP2.out.mono ?_
        rintro e w3 ⟨rfl, hf3⟩
        have HF3 := Lib.hid (ff HF2.out hf3)
        clear hf3
        go_wp2_with fail
        refine (HQ.out _).mono ?_
        rintro e w4 ⟨rfl, hf4⟩
        have HF4 := Lib.hid (ff HF3.out hf4)
        clear hf4
        go_wp2_with fail
        refine (HUU.out _).mono ?_
        rintro e w5 ⟨rfl, hf5⟩
        have HF5 := Lib.hid (ff HF4.out hf5)
        have HJ5 := Lib.hid (HJ.out w5 (ff HF4.out hf5))
        clear hf5
        go_wp2_with fail
        refine HJ5.out.mono ?_
        rintro e w6 ⟨rfl, hf6⟩
        have HF6 := Lib.hid (ff HF5.out hf6)
        clear hf6
        go_wp2_with fail
        refine (HF.out _).mono ?_
        rintro e w7 ⟨hf7, v7, rfl, hs7⟩
        obtain ⟨A7, c7, rfl, hrd7⟩ := strs_rd hs7
        have HF7 := Lib.hid (ff HF6.out hf7)
        have HR7 := Lib.hid hrd7
        have HT := Lib.hid (rTexts_any A7 A ls.length m c7 cap ls ls w7 HR7.out (HR.out.fr HF7.out (fun _ _ _ _ h => h)) (by rw [HML.out]; exact HM.out))
        rw [show decide (ls = ls) = true by simp] at HT
        clear hf7 hs7 hrd7
        go_wp2_with fail
        refine HT.out.mono ?_
        rintro e w8 ⟨rfl, q, rfl⟩
        have HF8 := Lib.hid (ff HF7.out (Fr.drewN w7 q (fun _ => False)))
        go_wp2_with fail
        refine (alive_any _).mono ?_
        rintro e w9 ⟨rfl, hf9⟩
        have HF9 := Lib.hid (ff HF8.out hf9)
        clear hf9
        go_wp2_with fail
        go_ret
        exact ⟨rfl, HF9.out⟩
      · have HLT := Lib.hid (HLI.out false ⟨(fun h => by cases h), fun h => absurd h hL⟩)
        clear hL h1 h2
        go_enter Tryd.func4, Tryd.ntmps4
        go_wp2_with fail
        refine HLT.out.mono ?_
        rintro e w2 ⟨rfl, rfl⟩
        go_wp2_with fail
        refine (alive_any _).mono ?_
        rintro e w2 ⟨rfl, hf2⟩
        have HF2 := Lib.hid hf2
        clear hf2
        go_wp2_with fail
        go_ret
        exact ⟨rfl, HF2.out⟩
end Go.Proofs.YtbolgodoifbnnaaDoor
