import Derived.Test.YtbolgodoifbnnaaRfd
namespace Go.Proofs.Ytbolgodoifbnnaa
open Go.RowKit Go.Mem Go.Esc

set_option maxHeartbeats 800000 in
theorem rJoin_any (A : Option Addr) (n cap : Nat) (ls : List Bs) (w : World) (hr : Rd w 1 A n (ls.map strV)) (hL : Light n ls) :
    Calls Try.prog 15 #[.slice A n cap] w fun e w' => e = .returned (strV (joinL ls)) ∧ Fr w w' (fun _ => False) := by
  have hlen : ls.length = n := by have := hr.1; simpa using this
  have HR := Lib.hid hr
  have HL := Lib.hid hL
  have HN := Lib.hid hlen
  have hn30 := hL.1
  clear hr hL hlen
  go_enter Try.func15, Try.ntmps15
  go_wp2_with fail
  go_loopw [3, 4] (fun v3 v4 wr => ∃ k : Nat, k ≤ n ∧ v4 = .int .i64 k ∧ v3 = strV (joinL (ls.take k)) ∧ Fr w wr (fun _ => False)) (fun _ v4 _ => n - (intOf v4).toNat)
  case atStart => exact ⟨0, Nat.zero_le _, rfl, rfl, Fr.refl _ _⟩
  case round =>
    obtain ⟨k, hk, rfl, rfl, hf⟩ := hrel
    have HF := Lib.hid hf
    have hac := HL.out.len HN.out k
    clear hf
    by_cases hlt : k < n
    · obtain ⟨b, off, u, rfl, hu, hcell⟩ := (HR.out.fr HF.out (fun _ _ _ _ h => h)).at_ hlt
      rw [List.getElem?_map] at hu
      obtain ⟨x, hx, rfl⟩ := Option.map_eq_some_iff.1 hu
      have hxl := HL.out.2 x (List.mem_of_getElem? hx)
      have hjn := join_next hx
      have hwl := word_len x
      have hxs : (⟨x.toArray⟩ : ByteArray).size = x.length := by show x.toArray.size = _; simp
      have HM := Lib.hid (fun W => rp_any ⟨x.toArray⟩ W (by rw [hxs]; omega))
      have HQ := Lib.hid (fun W => rQuote_any ⟨x.toArray⟩ W (by rw [hxs]; omega))
      have HXX := Lib.hid (show (⟨x.toArray⟩ : ByteArray).data.toList = x by simp)
      rw [HXX.out] at HM HQ
      have hql := quote_len x
      obtain ⟨y, hy⟩ : ∃ y, mayPlain x = y := ⟨_, rfl⟩
      have hwx : wordL x = if y = true then x else quoteL x := by rw [wordL, hy]
      rw [hy] at HM
      have hacc0 : k = 0 → joinL (ls.take k) = [] := fun e => by rw [e]; rfl
      generalize hacc : joinL (ls.take k) = acc at hac hjn hacc0
      clear hu hx hy hacc hxs
      obtain ⟨acc2, hacc2⟩ : ∃ acc2, acc2 = if k = 0 then acc else acc ++ [32] := ⟨_, rfl⟩
      have hj2 : joinL (ls.take (k + 1)) = acc2 ++ wordL x := by
        rw [hjn, hacc2]
        by_cases e : k = 0
        · simp [e, hacc0 e]
        · simp [e]
      have hl2 : acc2.length ≤ 24091 := by
        rw [hacc2]
        split
        · omega
        · rw [List.length_append]; simp; omega
      have HJ := Lib.hid hj2
      have HW := Lib.hid hwx
      have a0 := fun w => run_add_str (P := Try.prog) w acc [32] (by simp; omega)
      have a1 := fun w => run_add_str (P := Try.prog) w acc2 x (by omega)
      have a2 := fun w => run_add_str (P := Try.prog) w acc2 (quoteL x) (by omega)
      by_cases hk0 : k = 0
      · have e2 : acc2 = acc := by rw [hacc2, if_pos hk0]
        subst e2
        clear hjn hacc0 hacc2 hj2 hwx a0 hql hwl
        subst hk0
        rw [Nat.add_zero] at hcell
        cases y
        · go_wp2_with fail
          refine (HM.out wr).mono ?_
          rintro e w3 ⟨rfl, rfl⟩
          go_wp2_with fail
          refine (HQ.out wr).mono ?_
          rintro e w3 ⟨rfl, hf3⟩
          have HF3 := Lib.hid hf3
          clear hf3
          go_wp2_with fail
          go_roundw
          case rel => exact ⟨0 + 1, by omega, by go_num, by rw [HJ.out, HW.out]; rfl, ff HF.out HF3.out⟩
          case measure => simp [intOf]; omega
        · go_wp2_with fail
          refine (HM.out wr).mono ?_
          rintro e w3 ⟨rfl, rfl⟩
          go_wp2_with fail
          go_roundw
          case rel => exact ⟨0 + 1, by omega, by go_num, by rw [HJ.out, HW.out]; rfl, HF.out⟩
          case measure => simp [intOf]; omega
      · have hkp : 0 < k := by omega
        have e2 : acc ++ [32] = acc2 := by rw [hacc2, if_neg hk0]
        rw [e2] at a0
        clear hjn hacc0 hacc2 hj2 hwx hql hwl hk0 e2
        cases y
        · go_wp2_with fail
          refine (HM.out wr).mono ?_
          rintro e w3 ⟨rfl, rfl⟩
          go_wp2_with fail
          refine (HQ.out wr).mono ?_
          rintro e w3 ⟨rfl, hf3⟩
          have HF3 := Lib.hid hf3
          clear hf3
          go_wp2_with fail
          go_roundw
          case rel => exact ⟨k + 1, by omega, by go_num, by rw [HJ.out, HW.out]; rfl, ff HF.out HF3.out⟩
          case measure => simp [intOf]; omega
        · go_wp2_with fail
          refine (HM.out wr).mono ?_
          rintro e w3 ⟨rfl, rfl⟩
          go_wp2_with fail
          go_roundw
          case rel => exact ⟨k + 1, by omega, by go_num, by rw [HJ.out, HW.out]; rfl, HF.out⟩
          case measure => simp [intOf]; omega
    · have hkn : k = n := by omega
      have HTK := Lib.hid (show ls.take k = ls from List.take_of_length_le (by rw [HN.out]; omega))
      subst hkn
      clear hac
      go_wp2_with fail
      go_ret
      exact ⟨by rw [HTK.out]; rfl, HF.out⟩

end Go.Proofs.Ytbolgodoifbnnaa
