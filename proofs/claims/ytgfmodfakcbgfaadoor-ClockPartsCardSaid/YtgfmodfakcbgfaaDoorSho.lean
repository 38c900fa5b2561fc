import Derived.Test.YtgfmodfakcbgfaaDoorPar
import Derived.Test.YtgfmodfakcbgfaaDoorShelf
import Derived.Lib.AppendIntMem
import Derived.Lib.ConvBytes
namespace Go.Proofs.YtgfmodfakcbgfaaDoor
open Go.RowKit Go.Mem Go.Clk Go.Sort

/-- the variable that the library's numbers read, whatever is made of the world from here on -/
def GOk (B : Nat) (w : World) : Prop := Lib.TabBelow Tryd.prog B w "internal/strconv.uint64pow10" .u64 Lib.pow10Tab
theorem GOk.fr {B : Nat} {w w' : World} (h : GOk B w) (hb : B ≤ w.heap.size) (f : Fr w w' (fun _ => False)) : GOk B w' := h.on (f.below hb (fun _ h => h.elim))
theorem fr_grow (w : World) (k : Nat) (os : Array Obj) : Fr w (grow (w.drewN k) os) (fun _ => False) :=
  ⟨rfl, rfl, rfl, by simp [grow], fun i hi _ => by
    show (w.heap ++ os)[i]? = _
    rw [Array.getElem?_append_left hi]⟩
theorem Itoa_any (B : Nat) (n : Int) (a : Nat) (hn : n = (a : Int)) (ha : a ≤ 1000000) (w : World) (_hB : B ≤ w.heap.size) (hg : GOk B w) : Calls Tryd.prog 34 #[.int .i64 n] w fun e w' => e = .returned (strV (Lib.decDigits a)) ∧ Fr w w' (fun _ => False) := by
  refine (Tryd.strconv_Itoa n (by omega) (by omega) w (hg w (Below.refl _ _))).mono ?_
  rintro e w2 ⟨rfl, k, os, rfl⟩
  refine ⟨?_, fr_grow w k os⟩
  have : Lib.itoa n = Lib.decDigits a := by rw [Lib.itoa, if_neg (by omega), show n.toNat = a by omega]
  rw [this]
theorem cdigit_any (n : Int) (w : World) (h0 : 0 ≤ n) (h1 : n ≤ 9) : Calls Tryd.prog 43 #[.int .i64 n] w fun e w' => e = .returned (.int .u8 (48 + n)) ∧ w = w' := by
  go_enter Tryd.func43, Tryd.ntmps43
  go_wp2_with fail
  go_ret
  exact ⟨rfl, rfl⟩
theorem text_two (n : Int) (a : Nat) (hn : n = (a : Int)) (ha : a < 100) : text [48 + n / 10, 48 + n % 10] = ⟨(twoL a).toArray⟩ := by
  have e1 : (48 + n / 10).toNat = 48 + a / 10 := by omega
  have e2 : (48 + n % 10).toNat = 48 + a % 10 := by omega
  simp [text, e1, e2, twoL, chr]
  rfl
theorem two_any (n : Int) (a : Nat) (hn : n = (a : Int)) (ha : a < 100) (w : World) : Calls Tryd.prog 35 #[.int .i64 n] w fun e w' => e = .returned (strV (twoL a)) ∧ Fr w w' (fun _ => False) := by
  have H1 := Lib.hid (fun w => cdigit_any (n / 10) w (by omega) (by omega))
  have H2 := Lib.hid (fun w => cdigit_any (n % 10) w (by omega) (by omega))
  have hcv := fun (w : World) => run_text (P := Tryd.prog) (w.alloc (.cells #[.int .u8 (48 + n / 10), .int .u8 (48 + n % 10)] 5)) 49 9 5 Tryd.underlying49 Tryd.underlying5 Tryd.underlying9 ⟨w.heap.size, 0, none⟩ 2 2 [48 + n / 10, 48 + n % 10] (rd_new w 5 (0, 0) [.int .u8 (48 + n / 10), .int .u8 (48 + n % 10)])
  rw [text_two n a hn ha] at hcv
  generalize twoL a = T at hcv ⊢
  have b1 : 0 ≤ n := by omega
  have b2 : n < 100 := by omega
  clear hn ha
  go_enter Tryd.func35, Tryd.ntmps35
  go_wp2_with fail
  refine (H1.out _).mono ?_
  rintro e w2 ⟨rfl, rfl⟩
  go_wp2_with fail
  refine (H2.out _).mono ?_
  rintro e w2 ⟨rfl, rfl⟩
  go_wp2_with fail
  go_ret
  exact ⟨rfl, Fr.new _ _ _⟩
theorem dec_le {a : Nat} (h : a < 1000) : (Lib.decDigits a).length ≤ 3 := by
  rw [dec_eq a h]
  split
  · simp
  · split <;> simp
set_option maxHeartbeats 800000 in
theorem text_pos (B : Nat) (n : Int) (a : Nat) (hn : n = (a : Int)) (ha : a ≤ 604799) (w : World) (hB : B ≤ w.heap.size) (hg : GOk B w) :
    Calls Tryd.prog 24 #[.int .i64 n] w fun e w' => e = .returned (strV (textN a)) ∧ Fr w w' (fun _ => False) := by
  have H1 := Lib.hid (Itoa_any B (n / 3600) (a / 3600) (by omega) (by omega) w hB hg)
  have H2 := Lib.hid (fun w => two_any (n % 3600 / 60) (a % 3600 / 60) (by omega) (by omega) w)
  have H3 := Lib.hid (fun w => two_any (n % 60) (a % 60) (by omega) (by omega) w)
  have hd := dec_le (a := a / 3600) (by omega)
  have b1 : 0 ≤ n := by omega
  have b2 : n ≤ 604799 := by omega
  have l1 : ∀ x, (twoL x).length = 2 := fun _ => rfl
  by_cases hs : a % 60 = 0
  · have ht : textN a = Lib.decDigits (a / 3600) ++ [58] ++ twoL (a % 3600 / 60) := by simp [textN, secL, hs]
    rw [ht]
    have t1 : (n % 60 == 0) = true := by simp; omega
    have l2 := l1 (a % 3600 / 60)
    clear H3 hg hB ht l1
    generalize Lib.decDigits (a / 3600) = D at H1 hd ⊢
    generalize twoL (a % 3600 / 60) = T at H2 l2 ⊢
    have a1 := fun w => run_add_str (P := Tryd.prog) w D [58] (by simp; omega)
    have a2 := fun w => run_add_str (P := Tryd.prog) w (D ++ [58]) T (by simp; omega)
    simp only [List.append_assoc, List.cons_append, List.nil_append] at a1 a2 ⊢
    clear hn hs ha
    go_enter Tryd.func24, Tryd.ntmps24
    go_wp2_with fail
    refine H1.out.mono ?_
    rintro e w2 ⟨rfl, hf2⟩
    have HF2 := Lib.hid hf2
    clear hf2
    go_wp2_with fail
    refine (H2.out _).mono ?_
    rintro e w3 ⟨rfl, hf3⟩
    have HF3 := Lib.hid hf3
    clear hf3
    go_wp2_with fail
    go_ret
    exact ⟨rfl, ff HF2.out HF3.out⟩
  · have ht : textN a = Lib.decDigits (a / 3600) ++ [58] ++ twoL (a % 3600 / 60) ++ [58] ++ twoL (a % 60) := by simp [textN, secL, hs]
    rw [ht]
    have t1 : (n % 60 == 0) = false := by simp; omega
    have l2 := l1 (a % 3600 / 60)
    have l3 := l1 (a % 60)
    clear hg hB ht l1
    generalize Lib.decDigits (a / 3600) = D at H1 hd ⊢
    generalize twoL (a % 3600 / 60) = T at H2 l2 ⊢
    generalize twoL (a % 60) = U at H3 l3 ⊢
    have a1 := fun w => run_add_str (P := Tryd.prog) w D [58] (by simp; omega)
    have a2 := fun w => run_add_str (P := Tryd.prog) w (D ++ [58]) T (by simp; omega)
    have a3 := fun w => run_add_str (P := Tryd.prog) w (D ++ [58] ++ T) [58] (by simp; omega)
    have a4 := fun w => run_add_str (P := Tryd.prog) w (D ++ [58] ++ T ++ [58]) U (by simp; omega)
    simp only [List.append_assoc, List.cons_append, List.nil_append] at a1 a2 a3 a4 ⊢
    clear hn hs ha
    go_enter Tryd.func24, Tryd.ntmps24
    go_wp2_with fail
    refine H1.out.mono ?_
    rintro e w2 ⟨rfl, hf2⟩
    have HF2 := Lib.hid hf2
    clear hf2
    go_wp2_with fail
    refine (H2.out _).mono ?_
    rintro e w3 ⟨rfl, hf3⟩
    have HF3 := Lib.hid hf3
    clear hf3
    go_wp2_with fail
    refine (H3.out _).mono ?_
    rintro e w4 ⟨rfl, hf4⟩
    have HF4 := Lib.hid hf4
    clear hf4
    go_wp2_with fail
    go_ret
    exact ⟨rfl, ff (ff HF2.out HF3.out) HF4.out⟩
theorem textN_len {a : Nat} (h : a ≤ 604799) : (textN a).length ≤ 9 := by
  have hd := dec_le (a := a / 3600) (by omega)
  have hs : (secL (a % 60)).length ≤ 3 := by unfold secL; split <;> simp [twoL]
  simp [textN, twoL]
  omega
theorem textL_len {n : Int} (h1 : -604799 ≤ n) (h2 : n ≤ 604799) : (textL n).length ≤ 10 := by
  have := textN_len (a := n.natAbs) (by omega)
  unfold textL
  split <;> simp <;> omega
theorem text_any (B : Nat) (n : Int) (h1 : -604799 ≤ n) (h2 : n ≤ 604799) (w : World) (hB : B ≤ w.heap.size) (hg : GOk B w) :
    Calls Tryd.prog 24 #[.int .i64 n] w fun e w' => e = .returned (strV (textL n)) ∧ Fr w w' (fun _ => False) := by
  by_cases h : n < 0
  · have H1 := Lib.hid (text_pos B (-n) n.natAbs (by omega) (by omega) w hB hg)
    have hl := textN_len (a := n.natAbs) (by omega)
    rw [textL, if_pos h]
    clear hg hB
    generalize textN n.natAbs = T at H1 hl ⊢
    have ha := fun w => run_add_str (P := Tryd.prog) w [45] T (by simp; omega)
    simp only [List.cons_append, List.nil_append] at ha
    go_enter Tryd.func24, Tryd.ntmps24
    go_wp2_with fail
    refine H1.out.mono ?_
    rintro e w2 ⟨rfl, hf2⟩
    have HF2 := Lib.hid hf2
    clear hf2
    go_wp2_with fail
    go_ret
    exact ⟨rfl, HF2.out⟩
  · rw [textL, if_neg h]
    exact text_pos B n n.natAbs (by omega) (by omega) w hB hg
theorem mark_any (k : Int) (h0 : 0 ≤ k) (h2 : k ≤ 2) (w : World) : Calls Tryd.prog 25 #[.int .i64 k] w fun e w' => e = .returned (strV (markL k.toNat)) ∧ ∃ n, w' = w.drewN n := by
  have : k = 0 ∨ k = 1 ∨ k = 2 := by omega
  clear h0 h2
  rcases this with rfl | rfl | rfl
  all_goals
    go_enter Tryd.func25, Tryd.ntmps25
    go_wp2_with fail
    go_ret
    exact ⟨rfl, 0, rfl⟩
/-- what Show answers -/
def ShowR (g : Option Bs) (w : World) (e : Ending) (w' : World) : Prop := Fr w w' (fun _ => False) ∧ match g with
  | none => e = .returned (.tuple #[strV [], .int .i64 1])
  | some t => e = .returned (.tuple #[strV t, .int .i64 0])
def showA (n : Int) : Option Bs := if -86400 ≤ n ∧ n ≤ 86400 then some (textL n) else none
def showT (n k : Int) : Option Bs := if (-604799 ≤ n ∧ n ≤ 604799) ∧ (0 ≤ k ∧ k ≤ 2) then some (textL n ++ markL k.toNat) else none
theorem ShowAmount_any (B : Nat) (n : Int) (w : World) (hB : B ≤ w.heap.size) (hg : GOk B w) : Calls Tryd.prog 15 #[.int .i64 n] w (ShowR (showA n) w) := by
  by_cases hin : -86400 ≤ n ∧ n ≤ 86400
  · rw [showA, if_pos hin]
    have HW := Lib.hid (fun w => within_any w n 86400 (by omega) (by omega) true (by simpa using hin))
    have HT := Lib.hid (text_any B n (by omega) (by omega) w hB hg)
    clear hin hB hg
    go_enter Tryd.func15, Tryd.ntmps15
    go_wp2_with fail
    refine (HW.out _).mono ?_
    rintro e w2 ⟨rfl, rfl⟩
    go_wp2_with fail
    refine HT.out.mono ?_
    rintro e w2 ⟨rfl, hf2⟩
    have HF2 := Lib.hid hf2
    clear hf2
    go_wp2_with fail
    go_ret2
    exact ⟨HF2.out, rfl⟩
  · rw [showA, if_neg hin]
    have HW := Lib.hid (fun w => within_any w n 86400 (by omega) (by omega) false (by simpa using hin))
    clear hin hB hg
    go_enter Tryd.func15, Tryd.ntmps15
    go_wp2_with fail
    refine (HW.out _).mono ?_
    rintro e w2 ⟨rfl, rfl⟩
    go_wp2_with fail
    go_ret2
    exact ⟨Fr.refl _ _, rfl⟩
end Go.Proofs.YtgfmodfakcbgfaaDoor
