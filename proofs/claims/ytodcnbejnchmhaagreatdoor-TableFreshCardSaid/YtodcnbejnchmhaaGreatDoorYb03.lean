import Derived.Lib.AtoiAll
import Derived.Lib.AtoiAllCases
import Derived.Lib.IndexMore
import Derived.Lib.Strings
import Derived.Test.YtodcnbejnchmhaaGreatDoorYb02
namespace Go.Dfm
open Go.Lib Go.Esc

/-- the names of days -/
def namesT : List Bs := [[83, 117, 110], [77, 111, 110], [84, 117, 101], [87, 101, 100], [84, 104, 117], [70, 114, 105], [83, 97, 116]]
def nameI (w : Int) : Bs := namesT.getD w.toNat []
/-- which day a name is of; -1: of none -/
def weekI (l : Bs) : Int := if l = [83, 117, 110] then 0 else if l = [77, 111, 110] then 1 else if l = [84, 117, 101] then 2 else if l = [87, 101, 100] then 3 else if l = [84, 104, 117] then 4 else if l = [70, 114, 105] then 5 else if l = [83, 97, 116] then 6 else -1
abbrev lastL : Bs := [108, 97, 115, 116]
abbrev geL : Bs := [62, 61]
abbrev leL : Bs := [60, 61]
/-- is a day right? -/
def rightP (k d w : Int) : Prop := (k = 0 ∧ 1 ≤ d ∧ d ≤ 31 ∧ w = 0) ∨ (k = 1 ∧ d = 0 ∧ 0 ≤ w ∧ w < 7) ∨ ((k = 2 ∨ k = 3) ∧ 1 ≤ d ∧ d ≤ 31 ∧ 0 ≤ w ∧ w < 7)
instance (k d w : Int) : Decidable (rightP k d w) := inferInstanceAs (Decidable (_ ∨ _))
def rightB (k d w : Int) : Bool := decide (rightP k d w)
theorem rightB_iff {k d w : Int} : rightB k d w = true ↔ rightP k d w := by simp [rightB]
/-- a day's text -/
def textD (k d w : Int) : Bs := if k = 1 then lastL ++ nameI w else if k = 2 then nameI w ++ geL ++ itoa d else if k = 3 then nameI w ++ leL ++ itoa d else itoa d
/-- the program's number: of its shortest text -/
def numD (l : Bs) : Int := match atoiAll l with
  | .ok v => if itoa v = l then v else 0
  | _ => 0
/-- what the program reads -/
def readD (l : Bs) : Int × Int × Int :=
  if hasPrefix l lastL = true then (1, 0, weekI (trimPrefix l lastL))
  else if (cut l geL).2.2 = true then (2, numD (cut l geL).2.1, weekI (cut l geL).1)
  else if (cut l leL).2.2 = true then (3, numD (cut l leL).2.1, weekI (cut l leL).1)
  else (0, numD l, 0)
def parseD (l : Bs) : Int × Int × Int × Int := if rightB (readD l).1 (readD l).2.1 (readD l).2.2 = true then ((readD l).1, (readD l).2.1, (readD l).2.2, 0) else (0, 0, 0, 6)
/- numbers from 1 to 31 -/
def decL (n : Nat) : Bs := if n < 10 then [UInt8.ofNat (48 + n)] else [UInt8.ofNat (48 + n / 10), UInt8.ofNat (48 + n % 10)]
theorem dec_small {n : Nat} (h : n < 100) : decDigits n = decL n := by
  unfold decL
  by_cases h1 : n < 10
  · rw [if_pos h1, decDigits_one h1]
  · rw [if_neg h1, decDigits_two h1 h]
theorem itoa_small {d : Int} (h1 : 1 ≤ d) (h2 : d ≤ 31) : itoa d = decL d.toNat := by
  rw [itoa_pos (by omega), dec_small (by omega)]
theorem atoi_fin : ∀ n : Fin 32, atoiAll (decL n.val) = .ok ((n.val : Nat) : Int) := by decide +kernel
theorem num_small {d : Int} (h1 : 1 ≤ d) (h2 : d ≤ 31) : numD (itoa d) = d := by
  have h := atoi_fin ⟨d.toNat, by omega⟩
  have e := itoa_small h1 h2
  rw [numD, e, show atoiAll (decL d.toNat) = .ok ((d.toNat : Nat) : Int) from h, show ((d.toNat : Nat) : Int) = d by omega]
  simp [e]
theorem num_text {l : Bs} {n : Int} (h : numD l = n) (hn : 1 ≤ n) : itoa n = l := by
  unfold numD at h
  split at h
  · split at h
    · rename_i e
      rw [← h]
      exact e
    · omega
  · omega
/- names -/
theorem week_name {l : Bs} (h : 0 ≤ weekI l) : nameI (weekI l) = l := by
  unfold weekI at h ⊢
  repeat' split
  all_goals first
    | (rename_i e; rw [e]; rfl)
    | (simp_all)
theorem seven {w : Int} (h1 : 0 ≤ w) (h2 : w < 7) : w = 0 ∨ w = 1 ∨ w = 2 ∨ w = 3 ∨ w = 4 ∨ w = 5 ∨ w = 6 := by omega
theorem name_week {w : Int} (h1 : 0 ≤ w) (h2 : w < 7) : weekI (nameI w) = w := by
  rcases seven h1 h2 with rfl | rfl | rfl | rfl | rfl | rfl | rfl <;> decide
/- what is shown is read -/
def nameN (w : Nat) : Bs := namesT.getD w []
theorem fin_ge : ∀ (w : Fin 7) (n : Fin 32), hasPrefix (nameN w.val ++ geL ++ decL n.val) lastL = false ∧ cut (nameN w.val ++ geL ++ decL n.val) geL = (nameN w.val, decL n.val, true) := by decide +kernel
theorem fin_le : ∀ (w : Fin 7) (n : Fin 32), hasPrefix (nameN w.val ++ leL ++ decL n.val) lastL = false ∧ (cut (nameN w.val ++ leL ++ decL n.val) geL).2.2 = false ∧ cut (nameN w.val ++ leL ++ decL n.val) leL = (nameN w.val, decL n.val, true) := by decide +kernel
theorem fin_num : ∀ n : Fin 32, hasPrefix (decL n.val) lastL = false ∧ (cut (decL n.val) geL).2.2 = false ∧ (cut (decL n.val) leL).2.2 = false := by decide +kernel
theorem fin_last : ∀ w : Fin 7, hasPrefix (lastL ++ nameN w.val) lastL = true ∧ trimPrefix (lastL ++ nameN w.val) lastL = nameN w.val := by decide +kernel
theorem read_text {k d w : Int} (h : rightP k d w) : readD (textD k d w) = (k, d, w) := by
  rcases h with ⟨rfl, h1, h2, rfl⟩ | ⟨rfl, rfl, h1, h2⟩ | ⟨hk, h1, h2, h3, h4⟩
  · have e : textD 0 d 0 = itoa d := by simp [textD]
    obtain ⟨a, b, c⟩ := fin_num ⟨d.toNat, by omega⟩
    rw [e, readD, num_small h1 h2]
    rw [itoa_small h1 h2]
    simp only at a b c
    rw [if_neg (by simp [a]), if_neg (by simp [b]), if_neg (by simp [c])]
  · have e : textD 1 0 w = lastL ++ nameI w := by simp [textD]
    obtain ⟨a, b⟩ := fin_last ⟨w.toNat, by omega⟩
    rw [e, readD, if_pos (show hasPrefix (lastL ++ nameI w) lastL = true from a)]
    rw [show trimPrefix (lastL ++ nameI w) lastL = nameI w from b, name_week h1 h2]
  · rcases hk with rfl | rfl
    · have e : textD 2 d w = nameI w ++ geL ++ itoa d := by simp [textD]
      obtain ⟨a, b⟩ := fin_ge ⟨w.toNat, by omega⟩ ⟨d.toNat, by omega⟩
      have hn := num_small h1 h2
      rw [itoa_small h1 h2] at e hn
      rw [e, readD, if_neg (by rw [show hasPrefix (nameI w ++ geL ++ decL d.toNat) lastL = false from a]; simp)]
      rw [show cut (nameI w ++ geL ++ decL d.toNat) geL = (nameI w, decL d.toNat, true) from b, if_pos rfl]
      simp only
      rw [hn, name_week h3 h4]
    · have e : textD 3 d w = nameI w ++ leL ++ itoa d := by simp [textD]
      obtain ⟨a, b, c⟩ := fin_le ⟨w.toNat, by omega⟩ ⟨d.toNat, by omega⟩
      have hn := num_small h1 h2
      rw [itoa_small h1 h2] at e hn
      rw [e, readD, if_neg (by rw [show hasPrefix (nameI w ++ leL ++ decL d.toNat) lastL = false from a]; simp), if_neg (by rw [show (cut (nameI w ++ leL ++ decL d.toNat) geL).2.2 = false from b]; simp)]
      rw [show cut (nameI w ++ leL ++ decL d.toNat) leL = (nameI w, decL d.toNat, true) from c, if_pos rfl]
      simp only
      rw [hn, name_week h3 h4]
/- what is read is shown -/
theorem prefix_text {l p : Bs} (h : hasPrefix l p = true) : p ++ trimPrefix l p = l := by
  obtain ⟨t, rfl⟩ := List.isPrefixOf_iff_prefix.1 h
  rw [trimPrefix, if_pos h]
  simp
theorem index_text (p : Bs) : ∀ (l : Bs), 0 ≤ index l p → l.take (index l p).toNat ++ (p ++ l.drop ((index l p).toNat + p.length)) = l := by
  intro l
  induction l with
  | nil =>
    intro h
    unfold index at h ⊢
    split at h
    · rename_i hp
      have : p = [] := List.isEmpty_iff.1 hp
      subst this
      rfl
    · omega
  | cons b l ih =>
    intro h
    unfold index at h ⊢
    split at h
    · rename_i hp
      rw [if_pos hp]
      obtain ⟨t, ht⟩ := List.isPrefixOf_iff_prefix.1 hp
      rw [← ht]
      simp
    · rename_i hp
      rw [if_neg hp]
      split at h
      · omega
      · rename_i hq
        rw [if_neg hq]
        have hge := index_ge l p
        have hne : index l p ≠ -1 := by simpa using hq
        have e1 : (index l p + 1).toNat = (index l p).toNat + 1 := by omega
        rw [e1, List.take_succ_cons, show (index l p).toNat + 1 + p.length = ((index l p).toNat + p.length) + 1 by omega, List.drop_succ_cons]
        rw [List.cons_append, ih (by omega)]
theorem cut_text {l p : Bs} (h : (cut l p).2.2 = true) : (cut l p).1 ++ p ++ (cut l p).2.1 = l := by
  unfold cut at h ⊢
  split at h
  · rename_i hi
    rw [if_pos hi, List.append_assoc]
    exact index_text p l hi
  · cases h
theorem text_read {l : Bs} (h : rightP (readD l).1 (readD l).2.1 (readD l).2.2) : textD (readD l).1 (readD l).2.1 (readD l).2.2 = l := by
  unfold readD at h ⊢
  split at h
  · rename_i hp
    rw [if_pos hp]
    have hw : 0 ≤ weekI (trimPrefix l lastL) := by simp only [rightP] at h; omega
    show lastL ++ nameI (weekI (trimPrefix l lastL)) = l
    rw [week_name hw]
    exact prefix_text hp
  · rename_i hp
    rw [if_neg hp]
    split at h
    · rename_i hc
      rw [if_pos hc]
      have hw : 0 ≤ weekI (cut l geL).1 ∧ 1 ≤ numD (cut l geL).2.1 := by simp only [rightP] at h; omega
      show nameI (weekI (cut l geL).1) ++ geL ++ itoa (numD (cut l geL).2.1) = l
      rw [week_name hw.1, num_text rfl hw.2]
      exact cut_text hc
    · rename_i hc
      rw [if_neg hc]
      split at h
      · rename_i hc2
        rw [if_pos hc2]
        have hw : 0 ≤ weekI (cut l leL).1 ∧ 1 ≤ numD (cut l leL).2.1 := by simp only [rightP] at h; omega
        show nameI (weekI (cut l leL).1) ++ leL ++ itoa (numD (cut l leL).2.1) = l
        rw [week_name hw.1, num_text rfl hw.2]
        exact cut_text hc2
      · rename_i hc2
        rw [if_neg hc2]
        have hw : 1 ≤ numD l := by simp only [rightP] at h; omega
        show itoa (numD l) = l
        exact num_text rfl hw
theorem parse_cases (l : Bs) : (∃ k d w, rightP k d w ∧ l = textD k d w ∧ parseD l = (k, d, w, 0)) ∨ ((∀ k d w, rightP k d w → l ≠ textD k d w) ∧ parseD l = (0, 0, 0, 6)) := by
  by_cases h : rightP (readD l).1 (readD l).2.1 (readD l).2.2
  · left
    refine ⟨_, _, _, h, (text_read h).symm, ?_⟩
    rw [parseD, if_pos (rightB_iff.2 h)]
  · right
    refine ⟨fun k d w hr e => h ?_, ?_⟩
    · rw [e, read_text hr]
      exact hr
    · rw [parseD, if_neg (fun x => h (rightB_iff.1 x))]
/- the document's reader -/
/- Show -/
def showD (k d w : Int) : Bs × Int := if rightB k d w = true then (textD k d w, 0) else ([], 1)
end Go.Dfm
