import Derived.Test.YtolmemdkklfdpaaMet
import Derived.Test.YtolmemdkklfdpaaRowM
namespace Go.Proofs.Ytolmemdkklfdpaa
open Go.RowKit Go.Mem Go.Lxr

abbrev u8V (b : UInt8) : Value := .int .u8 (b.toNat : Int)
theorem text_push (xs : List Int) (y : Int) : text (xs ++ [y]) = (text xs).push (UInt8.ofNat y.toNat) := by simp [text]
theorem text_bytes (l : Bs) : text (l.map fun b => (b.toNat : Int)) = ⟨l.toArray⟩ := by
  have : ∀ l : Bs, text ((l.reverse).map fun b => (b.toNat : Int)) = ⟨l.reverse.toArray⟩ := by
    intro l
    induction l with
    | nil => rfl
    | cons b l ih =>
      rw [List.reverse_cons, List.map_append, List.map_cons, List.map_nil, text_push, ih]
      have : UInt8.ofNat ((b.toNat : Int)).toNat = b := by simp
      rw [this]
      apply ByteArray.ext
      simp
  have := this l.reverse
  rw [List.reverse_reverse] at this
  exact this
/-- the slice v is the call's own and holds these bytes -/
def Bts (w : World) (base : Nat) (v : Value) (l : Bs) : Prop := Row w base 5 1 v l.length (l.map u8V)
theorem Bts.fr {a b : World} {S : Nat → Prop} {base : Nat} {v : Value} {l : Bs} (h : Bts a base v l) (hf : Fr a b S) (hg : ∀ g, S g → g < base) : Bts b base v l :=
  Row.fr h hf (fun g e hs => by have := (Row.lt h g e).1; have := hg g hs; omega)
theorem conv_nil (w : World) (c : Nat) : (convert 52 9 (.slice none 0 c)).run Try.prog w = .ok (.string ⟨#[]⟩) w := by
  have := run_convert_bytes_string (P := Try.prog) w 52 9 5 none 0 c Try.underlying52 Try.underlying5 Try.underlying9
  rw [this]
  simp [Conv.bytesToString]
  rfl
theorem Bts.text {w : World} {base : Nat} {v : Value} {l : Bs} (h : Bts w base v l) : (convert 52 9 v).run Try.prog w = .ok (strV l) w := by
  obtain ⟨A, c, rfl, -, -, hrd, hn, -⟩ := Row.rd h
  cases A with
  | none =>
    have h0 := hn rfl
    obtain rfl : l = [] := List.length_eq_zero_iff.1 h0.1
    exact conv_nil w c
  | some a =>
    have := run_text (P := Try.prog) w 52 9 5 Try.underlying52 Try.underlying5 Try.underlying9 a l.length c (l.map fun b => (b.toNat : Int)) (show Rd w 1 (some a) l.length ((l.map fun b => (b.toNat : Int)).map (Value.int .u8)) by
      rw [List.map_map]; exact hrd)
    rw [text_bytes] at this
    exact this
theorem Bts.slice {w : World} {base : Nat} {v : Value} {l : Bs} (h : Bts w base v l) : ∃ A c, v = .slice A l.length c := Row.slice h
theorem run_conv (w : World) (l : Bs) : (convert 9 52 (strV l)).run Try.prog w = .ok (.slice (some ⟨w.heap.size, 0, none⟩) l.length (grownCap w l.length 0 5)) (Lib.bytesWorld w 5 ⟨l.toArray⟩) := by
  have := Lib.run_convert_string_bytes (P := Try.prog) w 9 52 5 ⟨l.toArray⟩ Try.underlying9 Try.underlying52 Try.underlying5
  rw [str_size] at this
  exact this
theorem bts_made (w : World) (l : Bs) (h : l.length ≤ 1000000) : Bts (Lib.bytesWorld w 5 ⟨l.toArray⟩) w.heap.size (.slice (some ⟨w.heap.size, 0, none⟩) l.length (grownCap w l.length 0 5)) l ∧ Fr w (Lib.bytesWorld w 5 ⟨l.toArray⟩) (fun _ => False) := by
  have := bytes_row w 5 ⟨l.toArray⟩ (by rw [str_size]; unfold maxLen; omega)
  rw [str_size] at this
  exact this
theorem bts_nil (w : World) (base : Nat) : Bts w base (.slice none 0 0) [] := ⟨rfl, .inl ⟨rfl, rfl⟩⟩
theorem Bts.base {w : World} {base base' : Nat} {v : Value} {l : Bs} (h : Bts w base v l) (hb : base' ≤ base) : Bts w base' v l := Row.base h hb
theorem str_cells (l : Bs) : strCells ⟨l.toArray⟩ = l.map u8V := rfl
theorem Bts.add {w' : World} {base : Nat} {v' : Value} {l t : Bs} (h : Row w' base 5 1 v' (l.length + (⟨t.toArray⟩ : ByteArray).size) (l.map u8V ++ strCells ⟨t.toArray⟩)) : Bts w' base v' (l ++ t) := by
  rw [str_size, str_cells] at h
  show Row w' base 5 1 v' (l ++ t).length ((l ++ t).map u8V)
  rw [List.length_append, List.map_append]
  exact h

/-- fields by stretches without marks -/
theorem field_take : ∀ (l : Bs) (p : Nat), fieldD p l = (fieldD (p + (l.takeWhile (lacksF marksS)).length) (l.dropWhile (lacksF marksS))).map fun x => (l.takeWhile (lacksF marksS) ++ x.1, x.2) := by
  intro l
  induction l with
  | nil => intro p; rw [show ([] : Bs).takeWhile (lacksF marksS) = [] from rfl, show ([] : Bs).dropWhile (lacksF marksS) = [] from rfl, field_nil, field_nil]; rfl
  | cons c l ih =>
    intro p
    cases hc : lacksF marksS c with
    | true =>
      obtain ⟨e1, e2⟩ := tw_cons (l := l) hc
      rw [e1, e2]
      have hc : (!marksS.contains c) = true := hc
      rw [marks_iff] at hc
      simp only [Bool.not_eq_true', Bool.or_eq_false_iff, beq_eq_false_iff_ne] at hc
      rw [field_one hc.1 hc.2, ih, List.length_cons, show p + 1 + (l.takeWhile (lacksF marksS)).length = p + ((l.takeWhile (lacksF marksS)).length + 1) by omega]
      cases fieldD (p + ((l.takeWhile (lacksF marksS)).length + 1)) (l.dropWhile (lacksF marksS)) <;> rfl
    | false =>
      obtain ⟨e1, e2⟩ := tw_stop (f := lacksF marksS) (l := c :: l) hc
      rw [e1, e2]
      show _ = (fieldD p (c :: l)).map _
      cases fieldD p (c :: l) <;> rfl
theorem drop_marks (l : Bs) : (l.dropWhile (lacksF marksS) = [] ∨ ∃ c r, l.dropWhile (lacksF marksS) = c :: r ∧ (stopB c = true ∨ c = 34)) := by
  induction l with
  | nil => exact .inl rfl
  | cons c l ih =>
    cases hc : lacksF marksS c with
    | true => rw [(tw_cons (l := l) hc).2]; exact ih
    | false =>
      rw [(tw_stop (f := lacksF marksS) (l := c :: l) hc).2]
      have hc : (!marksS.contains c) = false := hc
      rw [marks_iff] at hc
      simp only [Bool.not_eq_false', Bool.or_eq_true, beq_iff_eq] at hc
      exact .inr ⟨c, l, rfl, hc⟩
end Go.Proofs.Ytolmemdkklfdpaa
