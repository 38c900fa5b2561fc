import Derived.Test.YtognobpgagaamaaDoorRfn
namespace Go.Proofs.YtognobpgagaamaaDoor
open Go.RowKit Go.Mem Go.Kwd

theorem rHead_any (l : Bs) (w : World) (hl : l.length ≤ 1000000) (z : Nat) (hz : headD l = z) : Calls Tryd.prog 11 #[strV l] w fun e w' => e = .returned (.int .i64 (z : Int)) ∧ Fr w w' (fun _ => False) := by
  have HF := Lib.hid (rfind_any l _ 3 3 heads _ (rd_new w 9 (0, 0) (heads.map strV)) (by omega) hl (by decide) z hz)
  clear hz
  go_enter Tryd.func11, Tryd.ntmps11
  go_wp2_with fail
  refine HF.out.mono ?_
  rintro e w2 ⟨rfl, hf⟩
  have HF2 := Lib.hid (fr_alloc _ hf)
  clear hf
  go_wp2_with fail
  go_ret
  exact ⟨rfl, HF2.out⟩
theorem rmonths_any (w : World) : Calls Tryd.prog 29 #[] w fun e w' => ∃ A, e = .returned (.slice A 12 12) ∧ Rd w' 1 A 12 (months.map strV) ∧ Fr w w' (fun _ => False) := by
  have HR := Lib.hid (rd_new w 9 (0, 0) (months.map strV))
  go_enter Tryd.func29, Tryd.ntmps29
  go_wp2_with fail
  go_ret
  exact ⟨_, rfl, HR.out, Fr.new _ _ _⟩
theorem rMonth_any (l : Bs) (w : World) (hl : l.length ≤ 1000000) (z : Nat) (hz : monthD l = z) : Calls Tryd.prog 13 #[strV l] w fun e w' => e = .returned (.int .i64 (z : Int)) ∧ Fr w w' (fun _ => False) := by
  have HM := Lib.hid (rmonths_any w)
  have HZ := Lib.hid hz
  clear hz
  go_enter Tryd.func13, Tryd.ntmps13
  go_wp2_with fail
  refine HM.out.mono ?_
  rintro e w2 ⟨A, rfl, hr, hf⟩
  have HF2 := Lib.hid hf
  have HF := Lib.hid (rfind_any l A 12 12 months w2 hr (by omega) hl (by decide) z HZ.out)
  clear hf hr
  go_wp2_with fail
  refine HF.out.mono ?_
  rintro e w3 ⟨rfl, hf⟩
  have HF3 := Lib.hid (ff HF2.out hf)
  clear hf
  go_wp2_with fail
  go_ret
  exact ⟨rfl, HF3.out⟩
theorem rshow_of (k : Nat) (hk : k < 12) (x : Bs) (h : months[k]? = some x) : ∃ c r, x = c :: r ∧ 97 ≤ c.toNat ∧ c.toNat ≤ 122 ∧ 2 ≤ r.length ∧ r.length ≤ 20 ∧ showMonthD ((k : Int) + 1) = (c - 32) :: r.take 2 := by
  have H : ∀ j : Fin 12, ∀ y ∈ months[j.val]?, y = y.headD 0 :: y.tail ∧ 97 ≤ (y.headD 0).toNat ∧ (y.headD 0).toNat ≤ 122 ∧ 2 ≤ y.tail.length ∧ y.tail.length ≤ 20 ∧ showMonthD ((j.val : Int) + 1) = (y.headD 0 - 32) :: y.tail.take 2 := by decide +kernel
  exact ⟨_, _, H ⟨k, hk⟩ x h⟩
theorem byte_text (n : Int) (c : UInt8) (h : n = (c.toNat : Int)) (w W : World) (hW : Rd W 1 (some ⟨w.heap.size, 0, none⟩) 1 [.int .u8 n]) : (convert 35 9 (.slice (some ⟨w.heap.size, 0, none⟩) 1 1)).run Tryd.prog W = .ok (strV [c]) W := by
  subst h
  have := run_text (P := Tryd.prog) W 35 9 5 Tryd.underlying35 Tryd.underlying5 Tryd.underlying9 ⟨w.heap.size, 0, none⟩ 1 1 [(c.toNat : Int)] hW
  rw [this]
  simp [text]
  rfl
theorem ext_13 {X : ByteArray} {c : UInt8} {r : Bs} (h : X.data.toList = c :: r) : X.extract 1 3 = ⟨(r.take 2).toArray⟩ := by
  apply ByteArray.ext
  apply Array.toList_inj.1
  simp [List.extract, h]
theorem rShowMonth_any (m : Int) (w : World) : Calls Tryd.prog 15 #[.int .i64 m] w fun e w' => e = .returned (strV (showMonthD m)) ∧ Fr w w' (fun _ => False) := by
  have HM := Lib.hid (rmonths_any w)
  by_cases h : 1 ≤ m ∧ m ≤ 12
  · obtain ⟨h1, h2⟩ := h
    obtain ⟨k, hk⟩ : ∃ k : Nat, m = (k : Int) + 1 := ⟨(m - 1).toNat, by omega⟩
    have hk12 : k < 12 := by omega
    have HS := Lib.hid (rshow_of k hk12)
    have HK := Lib.hid hk
    obtain ⟨r, hr⟩ : ∃ r, showMonthD m = r := ⟨_, rfl⟩
    rw [hr]
    rw [← hk] at HS
    rw [hr] at HS
    clear hk hr
    go_enter Tryd.func15, Tryd.ntmps15
    go_wp2_with fail
    refine HM.out.mono ?_
    rintro e w2 ⟨A, rfl, hr, hf⟩
    have HF2 := Lib.hid hf
    obtain ⟨b, o, x, rfl, hx, hc⟩ := strs_at hr (k := k) hk12
    obtain ⟨c, y, hxe, hc1, hc2, hy1, hy2, hs⟩ := HS.out x hx
    obtain ⟨X, hX⟩ : ∃ X : ByteArray, X = ⟨x.toArray⟩ := ⟨_, rfl⟩
    have hxl : X.data.toList = c :: y := by rw [hX, hxe]
    have hsz : X.size = y.length + 1 := by rw [← bytes_len, hxl]; rfl
    obtain ⟨hz0, hx0, -⟩ := drop_cons (s := X) (a := 0) (by rw [List.drop_zero]; exact hxl)
    rw [show strV x = .string X by rw [hX]] at hc
    have hn1 : (97 : Int) ≤ (X[0].toNat : Int) := by rw [hx0]; omega
    have hn2 : (X[0].toNat : Int) ≤ 122 := by rw [hx0]; omega
    have hc32 : (X[0].toNat : Int) - 32 = ((c - 32).toNat : Int) := by
      rw [hx0]
      have : (c - 32).toNat = c.toNat - 32 := by rw [UInt8.toNat_sub_of_le]; rfl; exact UInt8.le_iff_toNat_le.2 (by show 32 ≤ c.toNat; omega)
      omega
    have hbt := byte_text _ _ hc32 w2 (w2.alloc (.cells #[.int .u8 ((X[0].toNat : Int) - 32)] 5)).drew (rd_new w2 5 (0, 0) [.int .u8 ((X[0].toNat : Int) - 32)])
    have hz3 : (3 : Int) ≤ (X.size : Int) := by omega
    have HX := Lib.hid (ext_13 hxl)
    have HV := Lib.hid (show Value.string ((⟨#[c - 32]⟩ : ByteArray) ++ X.extract 1 3) = strV r by
      rw [HX.out, hs]
      congr 1)
    have i1 : (0 : Int) ≤ m - 1 := by omega
    have i2 : m - 1 < 12 := by omega
    have hmk : m - 1 = (k : Int) := by have := HK.out; omega
    clear hf hr hx hs hX hxe hxl hx0 hc1 hc2 hy1 hy2 hsz HX hc32
    go_wp2_with fail
    go_region
    all_goals
      go_wp2_with fail
      go_ret
      exact ⟨by rw [← HV.out]; rfl, ff (ff HF2.out (Fr.new _ _ _)) (Fr.drew _ _)⟩
  · have h' : m < 1 ∨ 12 < m := by omega
    rw [show_none m h']
    clear h
    rcases h' with h' | h'
    all_goals
      go_enter Tryd.func15, Tryd.ntmps15
      go_wp2_with fail
      go_ret
      exact ⟨rfl, Fr.refl _ _⟩
end Go.Proofs.YtognobpgagaamaaDoor
