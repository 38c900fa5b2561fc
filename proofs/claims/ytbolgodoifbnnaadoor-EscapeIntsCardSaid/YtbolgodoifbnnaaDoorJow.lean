import Derived.Test.YtbolgodoifbnnaaDoorJoi
namespace Go.Proofs.YtbolgodoifbnnaaDoor
open Go.RowKit Go.Mem Go.Esc

/-- how many bytes joining may take -/
def Light (n : Nat) (ls : List Bs) : Prop := n ≤ 30 ∧ ∀ x ∈ ls, x.length ≤ 200
theorem Light.len {n : Nat} {ls : List Bs} (h : Light n ls) (hn : ls.length = n) (k : Nat) : (joinL (ls.take k)).length ≤ 24090 := by
  have h1 := join_len (ls.take k) 200 (fun x hx => h.2 x (List.mem_of_mem_take hx))
  have h2 : (ls.take k).length ≤ 30 := by rw [List.length_take]; have := h.1; omega
  have := Nat.mul_le_mul_right (4 * 200 + 3) h2
  omega
theorem word_any (w : World) (b : Nat) (acc : Bs) (x : Bs) (h : IsB w b acc) (hl : acc.length ≤ 100000) (hx : x.length ≤ 200) (y : Bool) (hy : mayPlain x = y) :
    Calls Tryd.prog (if y = true then 30 else 22) #[.pointer (some ⟨b, 0, none⟩), .string ⟨x.toArray⟩] w fun e w' => e = .returned (if y = true then .tuple #[.int .i64 x.length, .nilIface] else .tuple #[]) ∧ IsB w' b (acc ++ wordL x) ∧ Fr w w' (fun k => b ≤ k) := by
  have hs : (⟨x.toArray⟩ : ByteArray).data.toList = x := by simp
  have hz : (⟨x.toArray⟩ : ByteArray).size = x.length := by show x.toArray.size = _; simp
  cases y
  · refine (wq_any w b acc ⟨x.toArray⟩ h (by rw [hz]; omega)).mono ?_
    rintro e w' ⟨rfl, h1, h2⟩
    rw [hs] at h1
    exact ⟨rfl, by rw [wordL, if_neg (by rw [hy]; decide)]; exact h1, h2⟩
  · refine (btext_any b acc x ⟨x.toArray⟩ w h (by omega) hs).mono ?_
    rintro e w' ⟨rfl, h1, h2⟩
    rw [hz]
    exact ⟨rfl, by rw [wordL, if_pos hy]; exact h1, h2⟩
set_option maxHeartbeats 800000 in
theorem Join_any (A : Option Addr) (n cap : Nat) (ls : List Bs) (w : World) (hr : Rd w 1 A n (ls.map strV)) (hL : Light n ls) :
    Calls Tryd.prog 16 #[.slice A n cap] w fun e w' => e = .returned (strV (joinL ls)) ∧ Fr w w' (fun _ => False) := by
  have hlen : ls.length = n := by have := hr.1; simpa using this
  have HR := Lib.hid hr
  have HL := Lib.hid hL
  have HN := Lib.hid hlen
  have hn30 := hL.1
  clear hr hL hlen
  go_enter Tryd.func16, Tryd.ntmps16
  go_wp2_with fail
  go_loopw [8] (fun v8 wr => ∃ k : Nat, k ≤ n ∧ v8 = .int .i64 k ∧ IsB wr w.heap.size (joinL (ls.take k)) ∧ Fr w wr (fun _ => False)) (fun v8 _ => n - (intOf v8).toNat)
  case atStart => exact ⟨0, Nat.zero_le _, rfl, isB_new w, Fr.new _ _ _⟩
  case round =>
    obtain ⟨k, hk, rfl, hb, hf⟩ := hrel
    have HB := Lib.hid hb
    have HF := Lib.hid hf
    have hac := HL.out.len HN.out k
    clear hb hf
    by_cases hlt : k < n
    · obtain ⟨b, off, u, rfl, hu, hcell⟩ := (HR.out.fr HF.out (fun _ _ _ _ h => h)).at_ hlt
      rw [List.getElem?_map] at hu
      obtain ⟨x, hx, rfl⟩ := Option.map_eq_some_iff.1 hu
      have hxl := HL.out.2 x (List.mem_of_getElem? hx)
      have hjn := join_next hx
      have HM := Lib.hid (fun W => mp_any ⟨x.toArray⟩ W (by show x.toArray.size ≤ _; simp; omega))
      have HXX := Lib.hid (show (⟨x.toArray⟩ : ByteArray).data.toList = x by simp)
      rw [HXX.out] at HM
      obtain ⟨y, hy⟩ : ∃ y, mayPlain x = y := ⟨_, rfl⟩
      rw [hy] at HM
      have HY := Lib.hid hy
      have hacc0 : k = 0 → joinL (ls.take k) = [] := fun e => by rw [e]; rfl
      generalize hacc : joinL (ls.take k) = acc at HB hac hjn hacc0
      clear hu hx hy hacc
      by_cases hk0 : k = 0
      · rw [if_pos hk0] at hjn
        have hacc1 := hacc0 hk0
        subst hacc1 hk0
        rw [Nat.add_zero] at hcell
        have HJ := Lib.hid hjn
        clear hjn hacc0
        have HW := Lib.hid (word_any wr w.heap.size [] x HB.out (by simp) hxl y HY.out)
        cases y
        all_goals
          simp only [if_true, Bool.false_eq_true, if_false] at HW
          go_wp2_with fail
          refine (HM.out wr).mono ?_
          rintro e w3 ⟨rfl, rfl⟩
          go_wp2_with fail
          refine HW.out.mono ?_
          rintro e w3 ⟨rfl, hb3, hf3⟩
          have HF3 := Lib.hid hf3
          have HB3 := Lib.hid hb3
          clear hf3 hb3
          go_wp2_with fail
          go_roundw
          case rel => exact ⟨0 + 1, by omega, by go_num, by rw [HJ.out]; simpa using HB3.out, HF.out.fresh HF3.out (fun i hi => hi)⟩
          case measure => simp [intOf]; omega
      · rw [if_neg hk0] at hjn
        have HJ := Lib.hid hjn
        have hkp : 0 < k := by omega
        clear hjn hk0 hacc0
        have H1 := Lib.hid (bbyte_any w.heap.size acc 32 32 wr HB.out (by omega) rfl)
        have HW := Lib.hid (fun (w2 : World) (h : IsB w2 w.heap.size (acc ++ [32])) => word_any w2 w.heap.size (acc ++ [32]) x h (by simp; omega) hxl y HY.out)
        cases y
        all_goals
          simp only [if_true, Bool.false_eq_true, if_false] at HW
          go_wp2_with fail
          refine H1.out.mono ?_
          rintro e w2 ⟨rfl, hb2, hf2⟩
          have HF2 := Lib.hid hf2
          have HB2 := Lib.hid (HW.out w2 hb2)
          clear hf2 hb2
          go_wp2_with fail
          refine (HM.out w2).mono ?_
          rintro e w3 ⟨rfl, rfl⟩
          go_wp2_with fail
          refine HB2.out.mono ?_
          rintro e w3 ⟨rfl, hb3, hf3⟩
          have HF3 := Lib.hid hf3
          have HB3 := Lib.hid hb3
          clear hf3 hb3
          go_wp2_with fail
          go_roundw
          case rel => exact ⟨k + 1, by omega, by go_num, by rw [HJ.out]; simpa using HB3.out, HF.out.fresh (bb HF2.out HF3.out) (fun i hi => hi)⟩
          case measure => simp [intOf]; omega
    · have hkn : k = n := by omega
      have htk : ls.take k = ls := List.take_of_length_le (by rw [HN.out]; omega)
      rw [htk] at HB
      have HS := Lib.hid (bstring_any _ _ _ HB.out)
      clear htk hac
      subst hkn
      go_wp2_with fail
      refine HS.out.mono ?_
      rintro e w3 ⟨rfl, hf3⟩
      have HF3 := Lib.hid hf3
      clear hf3
      go_wp2_with fail
      go_ret
      exact ⟨by simp, HF.out.fresh HF3.out (fun i hi => hi)⟩
end Go.Proofs.YtbolgodoifbnnaaDoor
