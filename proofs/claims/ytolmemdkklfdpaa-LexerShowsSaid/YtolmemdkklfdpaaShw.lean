import Derived.Test.YtolmemdkklfdpaaTxt
namespace Go.Proofs.Ytolmemdkklfdpaa
open Go.RowKit Go.Mem Go.Lxr

theorem join_snoc (x : Bs) : ∀ l : List Bs, joinL (l ++ [x]) = if l = [] then showOne x else joinL l ++ 32 :: showOne x
  | [] => rfl
  | [s] => rfl
  | s :: s2 :: l => by
    have ih := join_snoc x (s2 :: l)
    rw [if_neg (by simp)] at ih
    rw [if_neg (by simp), List.cons_append, List.cons_append]
    show showOne s ++ 32 :: joinL ((s2 :: l) ++ [x]) = (showOne s ++ 32 :: joinL (s2 :: l)) ++ 32 :: showOne x
    rw [ih]
    simp
theorem show_pos (x : Bs) : 1 ≤ (showOne x).length := by
  unfold showOne
  split
  · simp
  · rename_i h
    unfold quotedB at h
    cases x with
    | nil => simp at h
    | cons c x => simp
theorem show_le (x : Bs) : (showOne x).length ≤ x.length + 2 := by
  unfold showOne
  split <;> simp
/-- the line behind k fields and, if there is a field ahead, the space -/
def lead (k : Nat) (j : Bs) : Bs := if k = 0 then j else j ++ [32]
theorem join_step {ls : List Bs} {k : Nat} {x : Bs} (h : ls[k]? = some x) : joinL (ls.take (k + 1)) = lead k (joinL (ls.take k)) ++ showOne x := by
  have hk : k < ls.length := (List.getElem?_eq_some_iff.1 h).1
  rw [take_snoc' h, join_snoc]
  unfold lead
  rcases Nat.eq_zero_or_pos k with rfl | hp
  · simp [joinL]
  · have : ls.take k ≠ [] := fun e => by
      have hl : (ls.take k).length = k := by rw [List.length_take]; omega
      rw [e] at hl
      exact absurd (show (0 : Nat) = k from hl) (by omega)
    rw [if_neg this, if_neg (by omega)]
    simp
theorem join_mono {ls : List Bs} : ∀ (d k : Nat), k + d ≤ ls.length → (joinL (ls.take k)).length ≤ (joinL (ls.take (k + d))).length
  | 0, k, _ => Nat.le_refl _
  | d + 1, k, h => by
    have ih := join_mono (ls := ls) d k (by omega)
    have hx : ls[k + d]? = some (ls[k + d]'(by omega)) := List.getElem?_eq_getElem _
    rw [show k + (d + 1) = k + d + 1 by omega, join_step hx]
    have : (joinL (ls.take (k + d))).length ≤ (lead (k + d) (joinL (ls.take (k + d)))).length := by unfold lead; split <;> simp
    simp
    omega
theorem join_all {ls : List Bs} {k : Nat} (h : k ≤ ls.length) : (joinL (ls.take k)).length ≤ (joinL ls).length := by
  have := join_mono (ls := ls) (ls.length - k) k (by omega)
  rwa [show k + (ls.length - k) = ls.length by omega, List.take_length] at this
/-- what Show answers -/
def ShowOut (o : Bs × Int) (w : World) (e : Ending) (w' : World) : Prop := e = .returned (.tuple #[strV o.1, .int .i64 o.2]) ∧ Fr w w' (fun _ => False)
theorem showD_bad {ls : List Bs} (h : quoteAny ls = true) : showD ls = ([], 1) := by
  have h : (ls.any fun s => s.contains 34) = true := h
  unfold showD
  rw [if_pos h]
theorem showD_long {ls : List Bs} (h : quoteAny ls = false) (h2 : 200 < (joinL ls).length) : showD ls = ([], 17) := by
  unfold showD
  have h : (ls.any fun s => s.contains 34) = false := h
  rw [if_neg (by rw [h]; exact Bool.false_ne_true), if_pos h2]
theorem showD_ok {ls : List Bs} (h : quoteAny ls = false) (h2 : (joinL ls).length ≤ 200) : showD ls = (joinL ls, 0) := by
  unfold showD
  have h : (ls.any fun s => s.contains 34) = false := h
  rw [if_neg (by rw [h]; exact Bool.false_ne_true), if_neg (by omega)]
theorem own_ok {w w1 w2 : World} {v v' : Value} {acc t : Bs} (hb : Bts w1 w.heap.size v acc) (hown : Row w2 w.heap.size 5 1 v' (acc.length + (⟨t.toArray⟩ : ByteArray).size) (acc.map u8V ++ strCells ⟨t.toArray⟩)) (hf : Fr w1 w2 (fun k => some k = v.ownBlock)) (h0 : Fr w w1 (fun _ => False)) :
    Bts w2 w.heap.size v' (acc ++ t) ∧ Fr w w2 (fun _ => False) :=
  ⟨Bts.add hown, h0.fresh hf (fun k e => (Row.lt hb k e.symm).1)⟩
def WInv (w : World) (ls : List Bs) (n g : Nat) (v4 v12 : Value) (wr : World) : Prop := ∃ k : Nat, k + g = n ∧ v12 = .int .i64 (k : Int) ∧ Bts wr w.heap.size v4 (joinL (ls.take k)) ∧ (joinL (ls.take k)).length ≤ 200 ∧ Fr w wr (fun _ => False)
set_option maxHeartbeats 3200000 in
theorem Show_any (A : Option Addr) (n c : Nat) (ls : List Bs) (w : World) (hr : Rd w 1 A n (ls.map strV)) (hL : Light n ls) : Calls Try.prog 15 #[.slice A n c] w (ShowOut (showD ls) w) := by
  have hn := hL.1
  obtain ⟨x, hx⟩ : ∃ x, quoteAny ls = x := ⟨_, rfl⟩
  have HC := Lib.hid (containsFunc_any A n c ls w hr (by omega) x hx)
  have hlen := strs_len hr
  have HR := Lib.hid hr
  cases x with
  | true =>
    rw [showD_bad hx]
    clear hr hx hlen
    go_enter Try.func15, Try.ntmps15
    go_wp2_with fail
    refine HC.out.mono ?_
    rintro e w2 ⟨rfl, hf2⟩
    have HF2 := Lib.hid hf2
    clear hf2
    go_wp2_with fail
    go_ret2
    exact ⟨rfl, HF2.out⟩
  | false =>
    have HX := Lib.hid hx
    have HLN := Lib.hid hlen
    have HS := Lib.hid hL.2
    obtain ⟨D, hD⟩ : ∃ D, showD ls = D := ⟨_, rfl⟩
    have HD := Lib.hid hD
    rw [hD]
    clear hr hx hlen hL hD
    go_enter Try.func15, Try.ntmps15
    go_wp2_with fail
    refine HC.out.mono ?_
    rintro e w2 ⟨rfl, hf2⟩
    have HF2 := Lib.hid hf2
    clear hf2
    go_wp2_with fail
    go_loopg [4, 5, 6, 12] n (fun g v4 _ _ v12 wr => WInv w ls n g v4 v12 wr)
    case atStart => exact ⟨0, by omega, rfl, bts_nil _ _, by simp [joinL], HF2.out⟩
    case round =>
      obtain ⟨k, hk, rfl, hb, hl200, hf⟩ := hrel
      have HF := Lib.hid hf
      obtain ⟨J, hJ⟩ : ∃ J, joinL (ls.take k) = J := ⟨_, rfl⟩
      have HJ := Lib.hid hJ
      rw [hJ] at hb hl200
      have HB := Lib.hid hb
      obtain ⟨A4, c4, rfl⟩ := hb.slice
      obtain ⟨i0, hi0, hz0, hz1, hz2⟩ := info_parts infoB
      have hws := hf.size
      by_cases hlt : k < n
      · obtain ⟨b1, o1, x1, rfl, hx1, hc1⟩ := strs_at (strs_fr HR.out hf) hlt
        have hxl := HS.out x1 (List.mem_of_getElem? hx1)
        have HX1 := Lib.hid hx1
        have HST := Lib.hid (join_step hx1)
        rw [hJ] at HST
        have hsp := show_le x1
        have HSW := Lib.hid (fun W => shown_any x1 (by omega) W)
        obtain ⟨y, hy⟩ : ∃ y, showOne x1 = y := ⟨_, rfl⟩
        rw [hy] at HST HSW hsp
        have hzy := str_size y
        have j0 : (0 : Int) ≤ (k : Int) := by omega
        have j1 : (k : Int) < (n : Int) := by omega
        rcases Nat.eq_zero_or_pos k with hk0 | hk0
        · subst hk0
          have HJL := Lib.hid (show lead 0 J = J from rfl)
          have hc1 : wr.cell? ⟨b1, o1, none⟩ = some (strV x1) := by simpa using hc1
          clear hf hJ hb hx1 hy
          go_wp2_with fail
          refine (HSW.out wr).mono ?_
          rintro e w8 ⟨rfl, hf8⟩
          have HF8 := Lib.hid (ff HF.out hf8)
          have HB8 := Lib.hid (HB.out.fr hf8 (fun g e => e.elim))
          have hs8 := (ff HF.out hf8).size
          clear hf8
          by_cases hbig : 200 < J.length + y.length
          · have t1 : (200 : Int) - (J.length : Int) < (y.length : Int) := by omega
            have HE := Lib.hid (show D = ([], 17) by
              rw [← HD.out]
              refine showD_long HX.out ?_
              have h1 := join_all (ls := ls) (k := 0 + 1) (by rw [HLN.out]; omega)
              rw [HST.out] at h1
              have h2 := HJL.out
              rw [h2] at h1
              simp at h1
              omega)
            clear hbig
            go_wp2_with fail
            go_ret2
            rw [HE.out]
            exact ⟨rfl, HF8.out⟩
          · have t1 : ¬ ((200 : Int) - (J.length : Int) < (y.length : Int)) := by omega
            have hb63 : J.length + y.length ≤ 200 := by omega
            clear hbig
            go_wp2_with (at_builtin; refine wpList_append_str _ rfl (.tmp 30) (.tmp 31) 52 9 rfl w.heap.size 5 i0 Try.underlying52 Try.underlying9 hi0 hz0 hz1 hz2 _ J.length _ rfl HB8.out ⟨y.toArray⟩ rfl (by rw [str_size]; omega) hs8 ?_; intro v9 w9 hown9 hf9 _)
            obtain ⟨hb9, hf9⟩ := own_ok HB8.out hown9 hf9 HF8.out
            obtain ⟨A9, c9, rfl⟩ := hb9.slice
            go_roundg (n - (0 + 1))
            case measure => omega
            case rel => exact ⟨0 + 1, by omega, by go_num, by rw [HST.out, HJL.out]; exact hb9, by rw [HST.out, HJL.out]; simp; omega, hf9⟩
        · have hf1 := Fr.new wr (.cells #[.int .u8 32] 5) (fun _ => False)
          have HF1 := Lib.hid (ff hf hf1)
          have HB1 := Lib.hid (HB.out.fr hf1 (fun g e => e.elim))
          have HRX := Lib.hid (rd_new wr 5 (0, 0) [.int .u8 32])
          have hs1 : w.heap.size ≤ (wr.alloc (.cells #[.int .u8 32] 5)).heap.size := (ff hf hf1).size
          have j2 : (0 : Int) < (k : Int) := by omega
          clear hf hJ hb hx1 hy hf1
          go_wp2_with (at_builtin; refine wpList_append_row _ rfl (.tmp 19) (.tmp 20) 52 rfl w.heap.size 5 i0 _ 1 1 Try.underlying52 hi0 hz0 hz1 hz2 rfl (by decide) _ J.length _ rfl HB1.out _ 1 1 [.int .u8 32] rfl HRX.out (by intro u hu; simp at hu; subst hu; rfl) (by simp only [maxLen]; omega) (by omega) hs1 ?_; intro v7 w7 hown7 hf7 _)
          have hb7 : Bts w7 w.heap.size v7 (J ++ [32]) := by
            show Row _ _ _ _ _ _ _
            rw [List.length_append, List.map_append]
            exact hown7
          have HF7 := Lib.hid (HF1.out.fresh hf7 (fun k e => (Row.lt HB1.out k e.symm).1))
          obtain ⟨J2, hJ2⟩ : ∃ J2, J ++ [32] = J2 := ⟨_, rfl⟩
          have hjl : J2.length ≤ 201 := by rw [← hJ2]; simp; omega
          have HJ2 := Lib.hid (show lead k J = J2 by unfold lead; rw [if_neg (by omega), hJ2])
          rw [hJ2] at hb7
          have HB7 := Lib.hid hb7
          obtain ⟨A7, c7, rfl⟩ := hb7.slice
          clear hb7 hown7 hf7 hJ2
          refine (HSW.out w7).mono ?_
          rintro e w8 ⟨rfl, hf8⟩
          have HF8 := Lib.hid (ff HF7.out hf8)
          have HB8 := Lib.hid (HB7.out.fr hf8 (fun g e => e.elim))
          have hs8 := (ff HF7.out hf8).size
          clear hf8
          by_cases hbig : 200 < J2.length + y.length
          · have t1 : (200 : Int) - (J2.length : Int) < (y.length : Int) := by omega
            have HE := Lib.hid (show D = ([], 17) by
              rw [← HD.out]
              refine showD_long HX.out ?_
              have h1 := join_all (ls := ls) (k := k + 1) (by rw [HLN.out]; omega)
              rw [HST.out] at h1
              have h2 := HJ2.out
              rw [h2] at h1
              simp at h1
              omega)
            clear hbig
            go_wp2_with fail
            go_ret2
            rw [HE.out]
            exact ⟨rfl, HF8.out⟩
          · have t1 : ¬ ((200 : Int) - (J2.length : Int) < (y.length : Int)) := by omega
            have hb63 : J2.length + y.length ≤ 200 := by omega
            clear hbig
            go_wp2_with (at_builtin; refine wpList_append_str _ rfl (.tmp 30) (.tmp 31) 52 9 rfl w.heap.size 5 i0 Try.underlying52 Try.underlying9 hi0 hz0 hz1 hz2 _ J2.length _ rfl HB8.out ⟨y.toArray⟩ rfl (by rw [str_size]; omega) hs8 ?_; intro v9 w9 hown9 hf9 _)
            obtain ⟨hb9, hf9⟩ := own_ok HB8.out hown9 hf9 HF8.out
            obtain ⟨A9, c9, rfl⟩ := hb9.slice
            go_roundg (n - (k + 1))
            case measure => omega
            case rel => exact ⟨k + 1, by omega, by go_num, by rw [HST.out, HJ2.out]; exact hb9, by rw [HST.out, HJ2.out]; simp; omega, hf9⟩
      · obtain rfl : k = n := by omega
        have htx : ∀ w', wr = w' → (convert 52 9 (.slice A4 J.length c4)).run Try.prog w' = .ok (strV J) w' := fun w' e => by subst e; exact HB.out.text
        have htx := htx wr rfl
        have HE := Lib.hid (show D = (J, 0) by
          rw [← HD.out]
          have : ls.take k = ls := List.take_of_length_le (by rw [HLN.out]; exact Nat.le_refl _)
          rw [this] at hJ
          rw [showD_ok HX.out (by rw [hJ]; exact hl200), hJ])
        clear hf hJ hb
        go_wp2_with fail
        go_ret2
        rw [HE.out]
        exact ⟨rfl, HF.out⟩
end Go.Proofs.Ytolmemdkklfdpaa
