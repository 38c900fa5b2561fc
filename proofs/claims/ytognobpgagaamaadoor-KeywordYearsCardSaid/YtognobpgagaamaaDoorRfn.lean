import Derived.Test.YtognobpgagaamaaDoorRsm
namespace Go.Proofs.YtognobpgagaamaaDoor
open Go.RowKit Go.Mem Go.Kwd

theorem rfind_step (t : Bs) (i a n : Nat) (w : Bs) (ws : List Bs) : findL t i a n (w :: ws) =
    if t.length = 0 ∨ w.length < t.length ∨ w.take t.length ≠ t then findL t (i + 1) a n ws else (if t.length = w.length then i + 1 else findL t (i + 1) (i + 1) (n + 1) ws) := by
  have hc : (t.isEmpty || !preB t w) = true ↔ (t.length = 0 ∨ w.length < t.length ∨ w.take t.length ≠ t) := by
    have h0 : t.isEmpty = true ↔ t.length = 0 := by cases t <;> simp
    have h2 : (!preB t w) = true ↔ (w.length < t.length ∨ w.take t.length ≠ t) := by
      rw [Bool.not_eq_true', Bool.eq_false_iff, ne_eq, pre_iff]
      constructor
      · exact fun h => .inr h
      · rintro (h | h) e
        · have := congrArg List.length e
          rw [List.length_take] at this
          omega
        · exact h e
    rw [Bool.or_eq_true, h0, h2]
  rw [findL]
  by_cases h : (t.isEmpty || !preB t w) = true
  · rw [if_pos h, if_pos (hc.1 h)]
  · rw [if_neg h, if_neg (fun x => h (hc.2 x))]
theorem list_eq (a b : ByteArray) : (a.toList == b.toList) = decide (a = b) := by
  rw [Lib.toList_data, Lib.toList_data, Bool.eq_iff_iff, beq_iff_eq, decide_eq_true_iff]
  constructor
  · intro h
    apply ByteArray.ext
    exact Array.toList_inj.1 h
  · intro h; rw [h]
theorem rfind_any (l : Bs) (A : Option Addr) (n c : Nat) (ws : List Bs) (w : World) (hr : Rd w 1 A n (ws.map strV)) (hn : n ≤ 1000) (hl : l.length ≤ 1000000) (hw : ∀ x ∈ ws, x.length ≤ 1000000) (z : Nat) (hz : findD l ws = z) :
    Calls Tryd.prog 27 #[strV l, .slice A n c] w fun e w' => e = .returned (.int .i64 (z : Int)) ∧ Fr w w' (fun _ => False) := by
  have HR := Lib.hid hr
  have HL := Lib.hid (strs_len hr)
  have HW := Lib.hid hw
  have HS := Lib.hid (rsmall_any l w hl)
  have htl := small_len l
  unfold findD at hz
  obtain ⟨t, ht⟩ : ∃ t, small l = t := ⟨_, rfl⟩
  rw [ht] at hz htl HS
  have HZ := Lib.hid hz
  obtain ⟨T, hT⟩ : ∃ T : ByteArray, T = ⟨t.toArray⟩ := ⟨_, rfl⟩
  have hts : T.size = t.length := by rw [hT]; exact str_size t
  rw [show strV t = .string T by rw [hT]] at HS
  have HTS := Lib.hid hts
  have HT := Lib.hid hT
  have ht6 : T.size ≤ 1000000 := by omega
  clear hr hz hw ht htl hts hT
  go_enter Tryd.func27, Tryd.ntmps27
  go_wp2_with fail
  refine HS.out.mono ?_
  rintro e w2 ⟨rfl, hf2⟩
  have HF2 := Lib.hid hf2
  clear hf2
  go_wp2_with fail
  go_loopg [5, 6, 7] n (fun g v5 v6 v7 wr => ∃ k a m : Nat, k + g = n ∧ v7 = .int .i64 (k : Int) ∧ v5 = .int .i64 (a : Int) ∧ v6 = .int .i64 (m : Int) ∧ a ≤ k ∧ m ≤ k ∧ findL t k a m (ws.drop k) = z ∧ Fr w wr (fun _ => False))
  case atStart => exact ⟨0, 0, 0, by omega, rfl, rfl, rfl, by omega, by omega, HZ.out, HF2.out⟩
  case round =>
    obtain ⟨k, a, m, hk, rfl, rfl, rfl, ha, hm, hfd, hf⟩ := hrel
    have HF := Lib.hid hf
    have HR2 := Lib.hid (strs_fr HR.out hf)
    have HFD := Lib.hid hfd
    clear hf hfd
    by_cases hlt : k < n
    · obtain ⟨b, o, x, rfl, hx, hc⟩ := strs_at HR2.out hlt
      have hxl : x.length ≤ 1000000 := HW.out x (List.mem_of_getElem? hx)
      obtain ⟨X, hX⟩ : ∃ X : ByteArray, X = ⟨x.toArray⟩ := ⟨_, rfl⟩
      have hxs : X.size = x.length := by rw [hX]; exact str_size x
      rw [show strV x = .string X by rw [hX]] at hc
      have HXS := Lib.hid hxs
      have hx6 : X.size ≤ 1000000 := by omega
      have HTX := Lib.hid (show x.take t.length = t ↔ X.extract 0 T.size = T by
        rw [hX, HTS.out, ext_take, HT.out]
        constructor
        · intro h; rw [h]
        · intro h
          have := congrArg (fun b : ByteArray => b.data.toList) h
          simpa using this)
      clear hxs hX hxl
      have h1 : (k : Int) < (n : Int) := by omega
      have h2 : (0 : Int) ≤ (k : Int) := by omega
      have hstep := rfind_step t k a m x (ws.drop (k + 1))
      rw [← drop_at hx, HFD.out] at hstep
      clear hx
      by_cases t0 : t.length = 0
      · rw [if_pos (.inl t0)] at hstep
        have HST := Lib.hid hstep
        have e1 : ((T.size : Int) == 0) = true := beq_iff_eq.2 (by have := HTS.out; omega)
        clear hstep t0
        go_wp2_with fail
        go_roundg (n - (k + 1))
        case measure => omega
        case rel => exact ⟨k + 1, a, m, by omega, by go_num, rfl, rfl, by omega, by omega, HST.out.symm, HF.out⟩
      · have e1 : ((T.size : Int) == 0) = false := beq_eq_false_iff_ne.2 (by have := HTS.out; omega)
        by_cases t1 : x.length < t.length
        · rw [if_pos (.inr (.inl t1))] at hstep
          have HST := Lib.hid hstep
          have e2 : (X.size : Int) < (T.size : Int) := by have := HTS.out; have := HXS.out; omega
          clear hstep t0 t1
          go_wp2_with fail
          go_roundg (n - (k + 1))
          case measure => omega
          case rel => exact ⟨k + 1, a, m, by omega, by go_num, rfl, rfl, by omega, by omega, HST.out.symm, HF.out⟩
        · have e2 : (T.size : Int) ≤ (X.size : Int) := by have := HTS.out; have := HXS.out; omega
          have e3 : (0 : Int) ≤ (T.size : Int) := by omega
          by_cases t2 : X.extract 0 T.size = T
          · have hcond : ¬ (t.length = 0 ∨ x.length < t.length ∨ x.take t.length ≠ t) := by
              rintro (h | h | h)
              · exact t0 h
              · exact t1 h
              · exact h (HTX.out.2 t2)
            rw [if_neg hcond] at hstep
            have e4 : ((X.extract 0 T.size).toList == T.toList) = true := by rw [list_eq]; exact decide_eq_true t2
            have e5 : ((X.extract 0 T.size).toList != T.toList) = false := by unfold bne; rw [e4]; rfl
            by_cases he : t.length = x.length
            · rw [if_pos he] at hstep
              have hzk : z = k + 1 := hstep
              have het : ((T.size : Int) == (X.size : Int)) = true := beq_iff_eq.2 (by have := HTS.out; have := HXS.out; omega)
              clear hstep hcond t0 t1 t2 he
              subst hzk
              go_wp2_with fail
              go_ret
              exact ⟨by simp, HF.out⟩
            · rw [if_neg he] at hstep
              have HST := Lib.hid hstep
              have het : ((T.size : Int) == (X.size : Int)) = false := beq_eq_false_iff_ne.2 (by have := HTS.out; have := HXS.out; omega)
              clear hstep hcond t0 t1 t2 he
              go_wp2_with fail
              go_roundg (n - (k + 1))
              case measure => omega
              case rel => exact ⟨k + 1, k + 1, m + 1, by omega, by go_num, by go_num, by go_num, by omega, by omega, HST.out.symm, HF.out⟩
          · have hcond : t.length = 0 ∨ x.length < t.length ∨ x.take t.length ≠ t := .inr (.inr (fun e => t2 (HTX.out.1 e)))
            rw [if_pos hcond] at hstep
            have HST := Lib.hid hstep
            have e4 : ((X.extract 0 T.size).toList == T.toList) = false := by rw [list_eq]; exact decide_eq_false t2
            have e5 : ((X.extract 0 T.size).toList != T.toList) = true := by unfold bne; rw [e4]; rfl
            clear hstep hcond t0 t1 t2
            go_wp2_with fail
            go_roundg (n - (k + 1))
            case measure => omega
            case rel => exact ⟨k + 1, a, m, by omega, by go_num, rfl, rfl, by omega, by omega, HST.out.symm, HF.out⟩
    · have hkn : k = n := by omega
      subst hkn
      have hd : ws.drop k = [] := List.drop_eq_nil_of_le (by rw [HL.out]; omega)
      have hz : (if m = 1 then a else 0) = z := by have := HFD.out; rw [hd] at this; exact this
      by_cases hm1 : m = 1
      · rw [if_pos hm1] at hz
        subst hz hm1
        go_wp2_with fail
        go_ret
        exact ⟨rfl, HF.out⟩
      · rw [if_neg hm1] at hz
        subst hz
        have hmt : ((m : Int) != 1) = true := by simp; omega
        go_wp2_with fail
        go_ret
        exact ⟨rfl, HF.out⟩
end Go.Proofs.YtognobpgagaamaaDoor
