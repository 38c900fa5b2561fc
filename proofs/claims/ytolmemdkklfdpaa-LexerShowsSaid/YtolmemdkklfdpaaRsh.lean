import Derived.Test.YtolmemdkklfdpaaShw
namespace Go.Proofs.Ytolmemdkklfdpaa
open Go.RowKit Go.Mem Go.Lxr

theorem byte_get {x : Bs} {j : Nat} (hlt : j < x.length) (hlt' : j < (⟨x.toArray⟩ : ByteArray).size) : (⟨x.toArray⟩ : ByteArray)[j]'hlt' = x[j]'hlt := rfl
theorem any_take {x : Bs} {j : Nat} {c : UInt8} (h : x[j]? = some c) : (x.take (j + 1)).any stopB = ((x.take j).any stopB || stopB c) := by rw [take_snoc' h]; simp
theorem stop_of (c : UInt8) : stopB c = (whiteB c || c == 35) := rfl
/-- what the reference's loop adds -/
theorem show_texts (J x : Bs) (h1 : J.length ≤ 20000) (h2 : x.length ≤ 300) : ∃ (sp q1 q2 q3 p1 r1 r2 r3 p2 : Bs),
    (∀ w, (Op.stringOp .add ⟨J.toArray⟩ ⟨#[32]⟩).run Try.prog w = .ok (strV sp) w) ∧
    (∀ w, (Op.stringOp .add ⟨sp.toArray⟩ ⟨#[34]⟩).run Try.prog w = .ok (strV q1) w) ∧ (∀ w, (Op.stringOp .add ⟨q1.toArray⟩ ⟨x.toArray⟩).run Try.prog w = .ok (strV q2) w) ∧ (∀ w, (Op.stringOp .add ⟨q2.toArray⟩ ⟨#[34]⟩).run Try.prog w = .ok (strV q3) w) ∧
    (∀ w, (Op.stringOp .add ⟨sp.toArray⟩ ⟨x.toArray⟩).run Try.prog w = .ok (strV p1) w) ∧
    (∀ w, (Op.stringOp .add ⟨J.toArray⟩ ⟨#[34]⟩).run Try.prog w = .ok (strV r1) w) ∧ (∀ w, (Op.stringOp .add ⟨r1.toArray⟩ ⟨x.toArray⟩).run Try.prog w = .ok (strV r2) w) ∧ (∀ w, (Op.stringOp .add ⟨r2.toArray⟩ ⟨#[34]⟩).run Try.prog w = .ok (strV r3) w) ∧
    (∀ w, (Op.stringOp .add ⟨J.toArray⟩ ⟨x.toArray⟩).run Try.prog w = .ok (strV p2) w) ∧
    (∀ k, k ≠ 0 → quotedB x = true → q3 = lead k J ++ showOne x) ∧ (∀ k, k ≠ 0 → quotedB x = false → p1 = lead k J ++ showOne x) ∧ (quotedB x = true → r3 = lead 0 J ++ showOne x) ∧ (quotedB x = false → p2 = lead 0 J ++ showOne x) := by
  refine ⟨J ++ [32], J ++ [32] ++ [34], J ++ [32] ++ [34] ++ x, J ++ [32] ++ [34] ++ x ++ [34], J ++ [32] ++ x, J ++ [34], J ++ [34] ++ x, J ++ [34] ++ x ++ [34], J ++ x, ?_, ?_, ?_, ?_, ?_, ?_, ?_, ?_, ?_, ?_, ?_, ?_, ?_⟩
  · exact fun w => run_add_str w J [32] (by simp; omega)
  · exact fun w => run_add_str w (J ++ [32]) [34] (by simp; omega)
  · exact fun w => run_add_str w (J ++ [32] ++ [34]) x (by simp; omega)
  · exact fun w => run_add_str w (J ++ [32] ++ [34] ++ x) [34] (by simp; omega)
  · exact fun w => run_add_str w (J ++ [32]) x (by simp; omega)
  · exact fun w => run_add_str w J [34] (by simp; omega)
  · exact fun w => run_add_str w (J ++ [34]) x (by simp; omega)
  · exact fun w => run_add_str w (J ++ [34] ++ x) [34] (by simp; omega)
  · exact fun w => run_add_str w J x (by omega)
  · intro k hk hq
    unfold lead showOne
    rw [if_neg hk, if_pos hq]
    simp
  · intro k hk hq
    unfold lead showOne
    rw [if_neg hk, if_neg (by rw [hq]; exact Bool.false_ne_true)]
  · intro hq
    unfold showOne
    rw [if_pos hq]
    show _ = J ++ _
    simp
  · intro hq
    unfold showOne
    rw [if_neg (by rw [hq]; exact Bool.false_ne_true)]
    rfl
def KInv (ls : List Bs) (n g : Nat) (v4 v5 : Value) : Prop := ∃ k : Nat, k + g = n ∧ v5 = .int .i64 (k : Int) ∧ v4 = strV (joinL (ls.take k)) ∧ (joinL (ls.take k)).length ≤ 303 * k ∧ ∀ x ∈ ls.take k, x.contains 34 = false
def JInv (x : Bs) (g : Nat) (v6 v7 : Value) : Prop := ∃ j : Nat, j + g = x.length ∧ v7 = .int .i64 (j : Int) ∧ v6 = .bool (x.isEmpty || (x.take j).any stopB) ∧ ∀ i, i < j → x[i]? ≠ some 34
set_option maxHeartbeats 6400000 in
theorem rShow_any (A : Option Addr) (n c : Nat) (ls : List Bs) (w : World) (hr : Rd w 1 A n (ls.map strV)) (hL : Light n ls) : Calls Try.prog 16 #[.slice A n c] w (ShowOut (showD ls) w) := by
  have hn := hL.1
  have HR := Lib.hid hr
  have HLN := Lib.hid (strs_len hr)
  have HS := Lib.hid hL.2
  obtain ⟨D, hD⟩ : ∃ D, showD ls = D := ⟨_, rfl⟩
  have HD := Lib.hid hD
  rw [hD]
  clear hr hL hD
  go_enter Try.func16, Try.ntmps16
  go_wp2_with fail
  go_loopg [4, 5, 6, 7, 8] n (fun g v4 v5 _ _ _ wr => wr = w ∧ KInv ls n g v4 v5)
  case atStart => exact ⟨rfl, 0, by omega, rfl, rfl, by simp [joinL], by simp⟩
  case round =>
    obtain ⟨rfl, k, hk, rfl, rfl, hJl, hpre⟩ := hrel
    have HP := Lib.hid hpre
    obtain ⟨J, hJ⟩ : ∃ J, joinL (ls.take k) = J := ⟨_, rfl⟩
    have HJ := Lib.hid hJ
    rw [hJ] at hJl ⊢
    have hzJ := str_size J
    clear hpre hJ
    by_cases hlt : k < n
    · obtain ⟨b1, o1, x, rfl, hx, hc1⟩ := strs_at HR.out hlt
      have hxl := HS.out x (List.mem_of_getElem? hx)
      have HX := Lib.hid hx
      have hst := join_step hx
      rw [HJ.out] at hst
      have HST := Lib.hid hst
      have hsl := show_le x
      have hzx := str_size x
      have i0 : (0 : Int) ≤ (k : Int) := by omega
      have i1 : (k : Int) < (n : Int) := by omega
      obtain ⟨sp, q1, q2, q3, p1, r1, r2, r3, p2, a1, a2, a3, a4, a5, a6, a7, a8, a9, e1, e2, e3, e4⟩ := show_texts J x (by omega) hxl
      have hzs := str_size sp
      have E1 := Lib.hid e1
      have E2 := Lib.hid e2
      have E3 := Lib.hid e3
      have E4 := Lib.hid e4
      have HADD := Lib.hid (And.intro a1 (And.intro a2 (And.intro a3 (And.intro a4 (And.intro a5 (And.intro a6 (And.intro a7 (And.intro a8 a9))))))))
      have hlead : (lead k J).length ≤ J.length + 1 := by unfold lead; split <;> simp
      have hxe : ((x.length : Int) == 0) = x.isEmpty := by cases x <;> simp; omega
      have HXE := Lib.hid hxe
      obtain ⟨z, hz⟩ : ∃ z, x.isEmpty = z := ⟨_, rfl⟩
      rw [hz] at hxe
      have HZ := Lib.hid hz
      have hnew : (joinL (ls.take (k + 1))).length ≤ 303 * (k + 1) := by rw [hst]; simp; omega
      have HNEW := Lib.hid hnew
      clear hx hst a1 a2 a3 a4 a5 a6 a7 a8 a9 e1 e2 e3 e4 hz hnew
      go_wp2_with fail
      go_loopg [6, 7, 8] x.length (fun g v6 v7 _ wx => wx = wr ∧ JInv x g v6 v7)
      case atStart => exact ⟨rfl, 0, by omega, rfl, by simp [HZ.out], fun i hi => absurd hi (by omega)⟩
      case round =>
        obtain ⟨rfl, j, hj, rfl, rfl, hno⟩ := hrel
        have HNO := Lib.hid hno
        clear hno
        by_cases hlt2 : j < x.length
        · have hlt' : j < (⟨x.toArray⟩ : ByteArray).size := by rw [hzx]; exact hlt2
          have hget := byte_get hlt2 hlt'
          obtain ⟨c0, hc0⟩ : ∃ c0, x[j] = c0 := ⟨_, rfl⟩
          rw [hc0] at hget
          have hc0' : x[j]? = some c0 := by rw [List.getElem?_eq_getElem hlt2, hc0]
          have HC0 := Lib.hid hc0'
          have j0 : (0 : Int) ≤ (j : Int) := by omega
          have j1 : (j : Int) < (x.length : Int) := by omega
          have HAT := Lib.hid (any_take hc0')
          clear hc0 hc0'
          by_cases h34 : c0 = 34
          · have t34 : (((((⟨x.toArray⟩ : ByteArray)[j]'hlt').toNat : Nat) : Int) == 34) = true := by rw [hget, h34]; rfl
            have HE := Lib.hid (show D = ([], 1) by
              rw [← HD.out]
              refine showD_bad (List.any_eq_true.2 ⟨x, List.mem_of_getElem? HX.out, ?_⟩)
              have := HC0.out
              rw [h34] at this
              exact List.elem_iff.2 (List.mem_of_getElem? this))
            clear hget h34
            go_wp2_with fail
            go_ret2
            rw [HE.out]
            exact ⟨rfl, Fr.refl _ _⟩
          · have t34 : (((((⟨x.toArray⟩ : ByteArray)[j]'hlt').toNat : Nat) : Int) == 34) = false := by rw [hget]; exact u8_ne (k := 34) h34 (by decide)
            have HN2 := Lib.hid (show ∀ i, i < j + 1 → x[i]? ≠ some 34 from fun i hi e => by
              by_cases h : i = j
              · subst h
                have := HC0.out
                rw [this] at e
                injection e with e
                exact h34 e
              · exact HNO.out i (by omega) e)
            obtain ⟨q, hq⟩ : ∃ q, (z || (x.take j).any stopB) = q := ⟨_, rfl⟩
            rw [HZ.out, hq]
            have HQ := Lib.hid hq
            clear h34 hq
            cases q with
            | true =>
              clear hget
              go_wp2_with fail
              go_roundg (x.length - (j + 1))
              case measure => omega
              case rel => exact ⟨rfl, j + 1, by omega, by go_num, by have := HQ.out; rw [HZ.out, HAT.out, ← Bool.or_assoc, this]; rfl, HN2.out⟩
            | false =>
              obtain ⟨y, hy⟩ : ∃ y, whiteB c0 = y := ⟨_, rfl⟩
              have HW := Lib.hid (rwhite_any c0 wr y hy)
              rw [← hget] at HW
              cases y with
              | true =>
                have hs : stopB c0 = true := by rw [stop_of, hy]; rfl
                have HSB := Lib.hid hs
                clear hget hy hs
                go_wp2_with fail
                refine HW.out.mono ?_
                rintro e w2 ⟨rfl, rfl⟩
                go_wp2_with fail
                go_roundg (x.length - (j + 1))
                case measure => omega
                case rel => exact ⟨rfl, j + 1, by omega, by go_num, by have := HQ.out; rw [HZ.out, HAT.out, ← Bool.or_assoc, this, HSB.out]; rfl, HN2.out⟩
              | false =>
                by_cases h35 : c0 = 35
                · have t35 : (((((⟨x.toArray⟩ : ByteArray)[j]'hlt').toNat : Nat) : Int) == 35) = true := by rw [hget, h35]; rfl
                  have hs : stopB c0 = true := by rw [h35]; decide
                  have HSB := Lib.hid hs
                  clear hget hy hs h35
                  go_wp2_with fail
                  refine HW.out.mono ?_
                  rintro e w2 ⟨rfl, rfl⟩
                  go_wp2_with fail
                  go_roundg (x.length - (j + 1))
                  case measure => omega
                  case rel => exact ⟨rfl, j + 1, by omega, by go_num, by have := HQ.out; rw [HZ.out, HAT.out, ← Bool.or_assoc, this, HSB.out]; rfl, HN2.out⟩
                · have t35 : (((((⟨x.toArray⟩ : ByteArray)[j]'hlt').toNat : Nat) : Int) == 35) = false := by rw [hget]; exact u8_ne (k := 35) h35 (by decide)
                  have hs : stopB c0 = false := by rw [stop_of, hy]; simpa using h35
                  have HSB := Lib.hid hs
                  clear hget hy hs h35
                  go_wp2_with fail
                  refine HW.out.mono ?_
                  rintro e w2 ⟨rfl, rfl⟩
                  go_wp2_with fail
                  go_roundg (x.length - (j + 1))
                  case measure => omega
                  case rel => exact ⟨rfl, j + 1, by omega, by go_num, by have := HQ.out; rw [HZ.out, HAT.out, ← Bool.or_assoc, this, HSB.out]; rfl, HN2.out⟩
        · obtain rfl : j = x.length := by omega
          have hqb : (x.isEmpty || (x.take x.length).any stopB) = quotedB x := by rw [List.take_length]; rfl
          rw [hqb]
          have HPX := Lib.hid (show ∀ y ∈ ls.take (k + 1), y.contains 34 = false by
            rw [take_snoc' HX.out]
            intro y hy
            rcases List.mem_append.1 hy with hy | hy
            · exact HP.out y hy
            · simp at hy
              subst hy
              rw [← Bool.not_eq_true]
              intro e
              obtain ⟨i, hi⟩ := List.mem_iff_getElem?.1 (List.elem_iff.1 e)
              have hil : i < y.length := (List.getElem?_eq_some_iff.1 hi).1
              exact HNO.out i hil hi)
          obtain ⟨a1, a2, a3, a4, a5, a6, a7, a8, a9⟩ := HADD.out
          obtain ⟨qb, hq⟩ : ∃ qb, quotedB x = qb := ⟨_, rfl⟩
          rw [hq]
          have HQ := Lib.hid hq
          clear hqb hq
          rcases Nat.eq_zero_or_pos k with hk0 | hk0
          · subst hk0
            have hc1 : wr.cell? ⟨b1, o1, none⟩ = some (strV x) := by simpa using hc1
            cases qb with
            | true =>
              clear a1 a2 a3 a4 a5 a9
              go_wp2_with fail
              go_roundg (n - (0 + 1))
              case measure => omega
              case rel => exact ⟨rfl, 0 + 1, by omega, by go_num, by rw [HST.out, E3.out HQ.out], HNEW.out, HPX.out⟩
            | false =>
              clear a1 a2 a3 a4 a5 a6 a7 a8
              go_wp2_with fail
              go_roundg (n - (0 + 1))
              case measure => omega
              case rel => exact ⟨rfl, 0 + 1, by omega, by go_num, by rw [HST.out, E4.out HQ.out], HNEW.out, HPX.out⟩
          · have hk1 : (0 : Int) < (k : Int) := by omega
            cases qb with
            | true =>
              clear a5 a6 a7 a8 a9
              go_wp2_with fail
              go_roundg (n - (k + 1))
              case measure => omega
              case rel => exact ⟨rfl, k + 1, by omega, by go_num, by rw [HST.out, E1.out k (by omega) HQ.out], HNEW.out, HPX.out⟩
            | false =>
              clear a2 a3 a4 a6 a7 a8 a9
              go_wp2_with fail
              go_roundg (n - (k + 1))
              case measure => omega
              case rel => exact ⟨rfl, k + 1, by omega, by go_num, by rw [HST.out, E2.out k (by omega) HQ.out], HNEW.out, HPX.out⟩
    · obtain rfl : k = n := by omega
      have hx : quoteAny ls = false := by
        have hp := HP.out
        rw [List.take_of_length_le (by rw [HLN.out]; exact Nat.le_refl _)] at hp
        exact List.any_eq_false.2 (fun x hx => by rw [hp x hx]; exact Bool.false_ne_true)
      have hj := HJ.out
      rw [List.take_of_length_le (by rw [HLN.out]; exact Nat.le_refl _)] at hj
      by_cases hbig : 200 < J.length
      · have HE := Lib.hid (show D = ([], 17) by rw [← HD.out]; exact showD_long hx (by rw [hj]; exact hbig))
        clear hx hj
        go_wp2_with fail
        go_ret2
        rw [HE.out]
        exact ⟨rfl, Fr.refl _ _⟩
      · have HE := Lib.hid (show D = (J, 0) by rw [← HD.out, showD_ok hx (by rw [hj]; omega), hj])
        have hbig' : J.length ≤ 200 := by omega
        clear hx hj
        go_wp2_with fail
        go_ret2
        rw [HE.out]
        exact ⟨rfl, Fr.refl _ _⟩
end Go.Proofs.Ytolmemdkklfdpaa
