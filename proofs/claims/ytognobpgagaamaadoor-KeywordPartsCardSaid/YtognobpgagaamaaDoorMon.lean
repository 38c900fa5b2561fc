import Derived.Test.YtognobpgagaamaaDoorFin
namespace Go.Proofs.YtognobpgagaamaaDoor
open Go.RowKit Go.Mem Go.Kwd

theorem fr_alloc {w w' : World} (o : Obj) (h : Fr (w.alloc o) w' (fun _ => False)) : Fr w w' (fun _ => False) := ff (Fr.new w o _) h
theorem Head_any (l : Bs) (w : World) (hl : l.length ≤ 1000000) (z : Nat) (hz : headD l = z) : Calls Tryd.prog 10 #[strV l] w fun e w' => e = .returned (.int .i64 (z : Int)) ∧ Fr w w' (fun _ => False) := by
  have HF := Lib.hid (find_any l _ 3 3 headsP _ (rd_new w 9 (0, 0) (headsP.map strV)) (by omega) hl (by decide) z (by rw [find_heads]; exact hz))
  clear hz
  go_enter Tryd.func10, Tryd.ntmps10
  go_wp2_with fail
  refine HF.out.mono ?_
  rintro e w2 ⟨rfl, hf⟩
  have HF2 := Lib.hid (fr_alloc _ hf)
  clear hf
  go_wp2_with fail
  go_ret
  exact ⟨rfl, HF2.out⟩
theorem months_any (w : World) : Calls Tryd.prog 28 #[] w fun e w' => ∃ A, e = .returned (.slice A 12 12) ∧ Rd w' 1 A 12 (monthsP.map strV) ∧ Fr w w' (fun _ => False) := by
  have HR := Lib.hid (rd_new w 9 (0, 0) (monthsP.map strV))
  go_enter Tryd.func28, Tryd.ntmps28
  go_wp2_with fail
  go_ret
  exact ⟨_, rfl, HR.out, Fr.new _ _ _⟩
theorem Month_any (l : Bs) (w : World) (hl : l.length ≤ 1000000) (z : Nat) (hz : monthD l = z) : Calls Tryd.prog 12 #[strV l] w fun e w' => e = .returned (.int .i64 (z : Int)) ∧ Fr w w' (fun _ => False) := by
  have HM := Lib.hid (months_any w)
  have HZ := Lib.hid hz
  clear hz
  go_enter Tryd.func12, Tryd.ntmps12
  go_wp2_with fail
  refine HM.out.mono ?_
  rintro e w2 ⟨A, rfl, hr, hf⟩
  have HF2 := Lib.hid hf
  have HF := Lib.hid (find_any l A 12 12 monthsP w2 hr (by omega) hl (by decide) z (by rw [find_months]; exact HZ.out))
  clear hf hr
  go_wp2_with fail
  refine HF.out.mono ?_
  rintro e w3 ⟨rfl, hf⟩
  have HF3 := Lib.hid (ff HF2.out hf)
  clear hf
  go_wp2_with fail
  go_ret
  exact ⟨rfl, HF3.out⟩
theorem show_of (k : Nat) (hk : k < 12) (x : Bs) (h : monthsP[k]? = some x) : showMonthD ((k : Int) + 1) = x.take 3 ∧ 3 ≤ x.length ∧ x.length ≤ 20 := by
  have H : ∀ j : Fin 12, ∀ y ∈ monthsP[j.val]?, showMonthD ((j.val : Int) + 1) = y.take 3 ∧ 3 ≤ y.length ∧ y.length ≤ 20 := by decide +kernel
  exact H ⟨k, hk⟩ x h
theorem show_none (m : Int) (h : m < 1 ∨ 12 < m) : showMonthD m = [] := by
  unfold showMonthD
  rw [if_neg (by omega)]
theorem ShowMonth_any (m : Int) (w : World) : Calls Tryd.prog 14 #[.int .i64 m] w fun e w' => e = .returned (strV (showMonthD m)) ∧ Fr w w' (fun _ => False) := by
  have HM := Lib.hid (months_any w)
  by_cases h : 1 ≤ m ∧ m ≤ 12
  · obtain ⟨h1, h2⟩ := h
    obtain ⟨k, hk⟩ : ∃ k : Nat, m = (k : Int) + 1 := ⟨(m - 1).toNat, by omega⟩
    have hk12 : k < 12 := by omega
    have HS := Lib.hid (show_of k hk12)
    have HK := Lib.hid hk
    obtain ⟨r, hr⟩ : ∃ r, showMonthD m = r := ⟨_, rfl⟩
    rw [hr]
    rw [← hk] at HS
    rw [hr] at HS
    clear hk hr
    go_enter Tryd.func14, Tryd.ntmps14
    go_wp2_with fail
    refine HM.out.mono ?_
    rintro e w2 ⟨A, rfl, hr, hf⟩
    have HF2 := Lib.hid hf
    obtain ⟨b, o, x, rfl, hx, hc⟩ := strs_at hr (k := k) hk12
    obtain ⟨hs, h3, h20⟩ := HS.out x hx
    have HX := Lib.hid (show Value.string ((⟨x.toArray⟩ : ByteArray).extract 0 3) = strV r by rw [ext_take, hs])
    have hsz := str_size x
    have hz3 : (3 : Int) ≤ ((⟨x.toArray⟩ : ByteArray).size : Int) := by omega
    have i1 : (0 : Int) ≤ m - 1 := by omega
    have i2 : m - 1 < 12 := by omega
    have hmk : m - 1 = (k : Int) := by have := HK.out; omega
    clear hf hr hx hs
    go_wp2_with fail
    go_ret
    exact ⟨by rw [← HX.out]; rfl, HF2.out⟩
  · have h' : m < 1 ∨ 12 < m := by omega
    rw [show_none m h']
    clear h
    rcases h' with h' | h'
    all_goals
      go_enter Tryd.func14, Tryd.ntmps14
      go_wp2_with fail
      refine HM.out.mono ?_
      rintro e w2 ⟨A, rfl, hr, hf⟩
      have HF2 := Lib.hid hf
      clear hf hr
      go_wp2_with fail
      go_ret
      exact ⟨rfl, HF2.out⟩
end Go.Proofs.YtognobpgagaamaaDoor
