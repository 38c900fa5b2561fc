import Derived.Test.YtognobpgagaamaaDoorFnd
namespace Go.Proofs.YtognobpgagaamaaDoor
open Go.RowKit Go.Mem Go.Kwd

theorem drop_at {ls : List Bs} {k : Nat} {x : Bs} (h : ls[k]? = some x) : ls.drop k = x :: ls.drop (k + 1) := by
  obtain ⟨hk, rfl⟩ := List.getElem?_eq_some_iff.1 h
  exact List.drop_eq_getElem_cons hk
theorem find_any (l : Bs) (A : Option Addr) (n c : Nat) (ws : List Bs) (w : World) (hr : Rd w 1 A n (ws.map strV)) (hn : n ≤ 1000) (hl : l.length ≤ 1000000) (hw : ∀ x ∈ ws, x.length ≤ 1000000) (z : Nat) (hz : findP l ws = z) :
    Calls Tryd.prog 26 #[strV l, .slice A n c] w fun e w' => e = .returned (.int .i64 (z : Int)) ∧ Fr w w' (fun _ => False) := by
  have HR := Lib.hid hr
  have HL := Lib.hid (strs_len hr)
  have HZ := Lib.hid hz
  have HW := Lib.hid hw
  have hls := str_size l
  clear hr hz hw
  obtain ⟨s, hs⟩ : ∃ s : ByteArray, s = ⟨l.toArray⟩ := ⟨_, rfl⟩
  rw [← hs] at hls
  rw [show strV l = .string s by rw [hs]]
  have HSL := Lib.hid (show s.data.toList = l by rw [hs])
  clear hs
  have hsz : s.size ≤ 1000000 := by omega
  go_enter Tryd.func26, Tryd.ntmps26
  go_wp2_with fail
  go_loopg [5, 6, 7, 8, 11] n (fun g v5 v6 _ _ v11 wr => ∃ k a m : Nat, k + g = n ∧ v11 = .int .i64 (k : Int) ∧ v5 = .int .i64 (a : Int) ∧ v6 = .int .i64 (m : Int) ∧ a ≤ k ∧ m ≤ k ∧ findL (small l) k a m ((ws.drop k).map small) = z ∧ Fr w wr (fun _ => False))
  case atStart => exact ⟨0, 0, 0, by omega, rfl, rfl, rfl, by omega, by omega, HZ.out, Fr.refl _ _⟩
  case round =>
    obtain ⟨k, a, m, hk, rfl, rfl, rfl, ha, hm, hfd, hf⟩ := hrel
    have HF := Lib.hid hf
    have HR2 := Lib.hid (strs_fr HR.out hf)
    have HFD := Lib.hid hfd
    clear hf hfd
    by_cases hlt : k < n
    · obtain ⟨b, o, x, rfl, hx, hc⟩ := strs_at HR2.out hlt
      have hxl : x.length ≤ 1000000 := HW.out x (List.mem_of_getElem? hx)
      have hxs := str_size x
      have h1 : (k : Int) < (n : Int) := by omega
      have h2 : (0 : Int) ≤ (k : Int) := by omega
      have hstep := find_step l k a m x (ws.drop (k + 1))
      rw [← drop_at hx, HFD.out] at hstep
      obtain ⟨y, hy⟩ : ∃ y, begD x l = y := ⟨_, rfl⟩
      rw [hy] at hstep
      have HB := Lib.hid (begins_any ⟨x.toArray⟩ s wr hsz (by rw [hxs]; exact hxl) y (by rw [HSL.out]; exact hy))
      clear hx hy
      cases y with
      | false =>
        have HST := Lib.hid hstep
        clear hstep
        go_wp2_with fail
        refine HB.out.mono ?_
        rintro e w2 ⟨rfl, q, rfl⟩
        go_wp2_with fail
        go_roundg (n - (k + 1))
        case measure => omega
        case rel => exact ⟨k + 1, a, m, by omega, by go_num, rfl, rfl, by omega, by omega, by have := HST.out; simpa using this.symm, fd HF.out q⟩
      | true =>
        rw [if_pos rfl] at hstep
        by_cases he : l.length = x.length
        · rw [if_pos he] at hstep
          have hzk : z = k + 1 := hstep
          have het : ((s.size : Int) == ((⟨x.toArray⟩ : ByteArray).size : Int)) = true := beq_iff_eq.2 (by omega)
          clear hstep
          subst hzk
          go_wp2_with fail
          refine HB.out.mono ?_
          rintro e w2 ⟨rfl, q, rfl⟩
          go_wp2_with fail
          go_ret
          exact ⟨by simp, fd HF.out q⟩
        · rw [if_neg he] at hstep
          have HST := Lib.hid hstep
          have het : ((s.size : Int) == ((⟨x.toArray⟩ : ByteArray).size : Int)) = false := beq_eq_false_iff_ne.2 (by omega)
          clear hstep
          go_wp2_with fail
          refine HB.out.mono ?_
          rintro e w2 ⟨rfl, q, rfl⟩
          go_wp2_with fail
          go_roundg (n - (k + 1))
          case measure => omega
          case rel => exact ⟨k + 1, k + 1, m + 1, by omega, by go_num, by go_num, by go_num, by omega, by omega, HST.out.symm, fd HF.out q⟩
    · have hkn : k = n := by omega
      subst hkn
      have hd : ws.drop k = [] := List.drop_eq_nil_of_le (by rw [HL.out]; omega)
      have hz : (if m = 1 then a else 0) = z := by have := HFD.out; rw [hd] at this; exact this
      by_cases hm1 : m = 1
      · rw [if_pos hm1] at hz
        subst hz hm1
        go_wp2_with fail
        go_ret
        exact ⟨rfl, HF.out⟩
      · rw [if_neg hm1] at hz
        subst hz
        have hmt : ((m : Int) != 1) = true := by simp; omega
        go_wp2_with fail
        go_ret
        exact ⟨rfl, HF.out⟩
end Go.Proofs.YtognobpgagaamaaDoor
