import Derived.Test.YtgcheollgnhdlaaGreatDoorOpn
import Derived.Test.YtgcheollgnhdlaaGreatDoorFmt
import Derived.Test.YtgcheollgnhdlaaGreatDoorLqt
import Derived.Test.YtgcheollgnhdlaaGreatDoorS7Shw
import Derived.Test.YtgcheollgnhdlaaGreatDoorS7Lfc
import Derived.Test.YtgcheollgnhdlaaGreatDoorS6Ofd
import Derived.Test.YtgcheollgnhdlaaGreatDoorS5Shw
import Derived.Test.YtgcheollgnhdlaaGreatDoorS8Yrs
namespace Go.Proofs.YtgcheollgnhdlaaGreatDoor
open Go.RowKit Go.Mem Go.Lin

def countsT : List Int := [0, 0, 10, 10, 5, 9, 3, 7, 3, 3]
/-- what the listed variables hold -/
structure LOk (w : World) : Prop where
  base : S6.WOk w
  slots : ∀ i, i < 3 → w.cell? ⟨3, i, none⟩ = some (strV (slotW.getD i []))
  counts : ∀ i, i < 10 → w.cell? ⟨2, i, none⟩ = some (intV (countsT.getD i 0))
theorem LOk.fr {w w' : World} (h : LOk w) (f : Fr w w' (fun _ => False)) : LOk w' := ⟨h.base.fr f, fun i hi => f.cell0 (h.slots i hi), fun i hi => f.cell0 (h.counts i hi)⟩
theorem LOk.kwd {w : World} (h : LOk w) : S8.WOk w := ⟨h.base.pow, h.base.max, h.base.ran⟩
theorem LOk.clk {w : World} (h : LOk w) : ∃ B, B ≤ w.heap.size ∧ S5.GOk B w := h.base.pow
theorem ff {a c d : World} (h : Fr a c (fun _ => False)) (h2 : Fr c d (fun _ => False)) : Fr a d (fun _ => False) := h.trans h2 (fun _ _ h => h) (fun _ _ h => h)
theorem fd {a b : World} (h : Fr a b (fun _ => False)) (n : Nat) : Fr a (b.drewN n) (fun _ => False) := ff h (Fr.drewN _ _ _)
theorem str_size (l : Bs) : (⟨l.toArray⟩ : ByteArray).size = l.length := by show l.toArray.size = _; simp
/-- what Parse answers -/
def parseL (l : Bs) : LineL := if (S7.fieldsO l).2.2 ≠ 0 then wrongL (S7.fieldsO l).2.2 (S7.fieldsO l).2.1 else lineP (S7.fieldsO l).1
open Classical in
/-- what Right, and Show, answer -/
noncomputable def rightL (l : LineL) : Bool := decide (lineOk l)
noncomputable def showL (l : LineL) : Bs × Int := if rightL l = true then (Go.Lxr.joinL (lineT l), 0) else ([], 1)
theorem right_iff {l : LineL} : rightL l = true ↔ lineOk l := by unfold rightL; simp
def ParseC : Prop := ∀ (l : Bs) (x : LineL) (W : World), LOk W → l.length ≤ 1000 → parseL l = x → Calls Tryz.prog 11 #[strV l] W fun e w' => e = .returned (lineV x) ∧ Fr W w' (fun _ => False)
def lightB (l : LineL) : Bool := decide (l.name.length ≤ 200) && decide (l.target.length ≤ 200) && decide (l.rule.name.length ≤ 200) && decide (l.rule.letter.length ≤ 200) && decide (l.era.rules.length ≤ 200) && decide (l.era.format.length ≤ 200)
/-- what the law's Light asks, and what any int is -/
structure FitP (l : LineL) : Prop where
  light : lightB l = true
  fr : inR l.rule.fr
  year : inR l.era.til.year
def RightC : Prop := ∀ (l : LineL) (b : Bool) (W : World), LOk W → FitP l → rightL l = b → Calls Tryz.prog 10 #[lineV l] W fun e w' => e = .returned (.bool b) ∧ Fr W w' (fun _ => False)
def ShowC : Prop := ∀ (l : LineL) (s : Bs) (k : Int) (W : World), LOk W → FitP l → showL l = (s, k) → Calls Tryz.prog 9 #[lineV l] W fun e w' => e = .returned (.tuple #[strV s, intV k]) ∧ Fr W w' (fun _ => False)

/- the laws, without the program -/
theorem fields_of {l : Bs} {fs : List FPair} (h : Go.Lxr.fieldsD 0 l = .ok fs) (hl : l.length ≤ 200) : S7.fieldsO l = (fs, 0, 0) := by
  unfold S7.fieldsO
  rw [if_neg (by omega), h]
/-- what a right line's text says -/
theorem parse_back {l : LineL} (h : lineOk l) : parseL (Go.Lxr.joinL (lineT l)) = l := by
  obtain ⟨fs, h1, -, h3⟩ := line_read h
  unfold parseL
  rw [fields_of h1 (line_len h)]
  rw [if_neg (by simp)]
  exact h3
/-- what any text says is right, or it is wrong -/
theorem parse_cases (l : Bs) : lineOk (parseL l) ∨ ∃ k c, parseL l = wrongL k c ∧ k ≠ 0 := by
  unfold parseL
  split
  · rename_i h
    exact .inr ⟨_, _, rfl, h⟩
  · rcases line_right (S7.fieldsO l).1 with h | ⟨k, c, h, hk, -⟩
    · exact .inl h
    · exact .inr ⟨k, c, h, hk⟩
theorem show_right {l : LineL} (h : lineOk l) : showL l = (Go.Lxr.joinL (lineT l), 0) := by
  unfold showL
  rw [if_pos (right_iff.2 h)]
theorem show_wrong {l : LineL} (h : ¬ lineOk l) : showL l = ([], 1) := by
  unfold showL
  rw [if_neg (fun e => h (right_iff.1 e))]
theorem in_small {n : Int} (h : 0 ≤ n ∧ n ≤ 9999) : inR n := ⟨by omega, by omega⟩
theorem nil_le : ([] : Bs).length ≤ 200 := by decide
theorem in_zero : inR 0 := in_small (by omega)
theorem fit_mk {l : LineL} (h1 : l.name.length ≤ 200) (h2 : l.target.length ≤ 200) (h3 : l.rule.name.length ≤ 200) (h4 : l.rule.letter.length ≤ 200) (h5 : l.era.rules.length ≤ 200) (h6 : l.era.format.length ≤ 200) (h7 : inR l.rule.fr) (h8 : inR l.era.til.year) : FitP l := by
  refine ⟨?_, h7, h8⟩
  unfold lightB
  simp [h1, h2, h3, h4, h5, h6]
theorem era_fit {e : EraL} (h : eraOk e) : e.rules.length ≤ 200 ∧ e.format.length ≤ 200 ∧ inR e.til.year := by
  obtain ⟨-, hr, hf, ht⟩ := h
  refine ⟨?_, ?_, ?_⟩
  · rcases hr with ⟨-, -, e⟩ | ⟨-, -, e⟩ | ⟨-, -, e⟩
    · rw [e]; decide
    · rw [e]; decide
    · exact Nat.le_trans (pl_rule e).2 (by omega)
  · exact Nat.le_trans (pl_format hf).2 (by omega)
  · rcases ht with e | e
    · rw [e]; exact in_zero
    · exact in_small ⟨by have := e.2.1.1; omega, by have := e.2.1.2; omega⟩
theorem fit_wrong (k c : Int) : FitP (wrongL k c) := fit_mk nil_le nil_le nil_le nil_le nil_le nil_le in_zero in_zero
theorem fit_right {l : LineL} (h : lineOk l) : FitP l := by
  rcases h with h | ⟨h, hr⟩ | ⟨h, hz, he⟩ | ⟨h, he⟩ | ⟨h, h1, h2⟩
  · rw [h]
    exact fit_mk nil_le nil_le nil_le nil_le nil_le nil_le in_zero in_zero
  · have hl : l.rule.letter.length ≤ 200 := by
      rcases hr.2.2.2.2.2.2.2.2 with e | e
      · rw [e]; decide
      · have := e.2.1; omega
    have hn : l.rule.name.length ≤ 200 := Nat.le_trans (pl_rule hr.1).2 (by omega)
    have hy : inR l.rule.fr := in_small ⟨by have := hr.2.1.1; omega, by have := hr.2.1.2; omega⟩
    rw [h]
    exact fit_mk nil_le nil_le hn hl nil_le nil_le hy in_zero
  · obtain ⟨e1, e2, e3⟩ := era_fit he
    have hn : l.name.length ≤ 200 := Nat.le_trans (pl_zone hz).2 (by omega)
    rw [h]
    exact fit_mk hn nil_le nil_le nil_le e1 e2 in_zero e3
  · obtain ⟨e1, e2, e3⟩ := era_fit he
    rw [h]
    exact fit_mk nil_le nil_le nil_le nil_le e1 e2 in_zero e3
  · have g1 : l.target.length ≤ 200 := Nat.le_trans (pl_zone h1).2 (by omega)
    have g2 : l.name.length ≤ 200 := Nat.le_trans (pl_zone h2).2 (by omega)
    rw [h]
    exact fit_mk g2 g1 nil_le nil_le nil_le nil_le in_zero in_zero
theorem right_of {l : LineL} (h : lineOk l) : rightL l = true := right_iff.2 h
theorem right_no {l : LineL} (h : ¬ lineOk l) : rightL l = false := by
  rw [Bool.eq_false_iff]
  exact fun e => h (right_iff.1 e)
end Go.Proofs.YtgcheollgnhdlaaGreatDoor
