import Derived.Test.YtghcfmoagkimaaaDoorYb04
import Derived.Test.YtghcfmoagkimaaaDoorYb03
import Derived.Test.YtghcfmoagkimaaaDoorYb01
import Derived.Test.YtghcfmoagkimaaaDoorYb05
import Derived.Test.YtghcfmoagkimaaaDoorYb06
namespace Go.Lin
open Go.Lib
abbrev Bs := List UInt8

/- what a line says -/
structure DayL where
  k : Int
  d : Int
  w : Int
deriving DecidableEq
structure AtL where
  s : Int
  k : Int
deriving DecidableEq
structure RuleL where
  name : Bs
  fr : Int
  to : Int
  month : Int
  on : DayL
  at_ : AtL
  save : Int
  letter : Bs
deriving DecidableEq
structure UntilL where
  has : Bool
  year : Int
  month : Int
  on : DayL
  at_ : AtL
deriving DecidableEq
structure EraL where
  off : Int
  kind : Int
  save : Int
  rules : Bs
  format : Bs
  til : UntilL
deriving DecidableEq
structure LineL where
  kind : Int
  rule : RuleL
  name : Bs
  target : Bs
  era : EraL
  err : Int
  col : Int
deriving DecidableEq
def dayZ : DayL := ⟨0, 0, 0⟩
def atZ : AtL := ⟨0, 0⟩
def tilZ : UntilL := ⟨false, 0, 0, dayZ, atZ⟩
/- what a field tells -/
def letB (c : UInt8) : Bool := Go.Kwd.letterB c || Go.Kwd.digitB c || c == 43
def canB (d : DayL) (y m : Int) : Bool := Go.Civil.rightB y m (if d.k = 1 then Go.Civil.longI y m else d.d)
/-- n: marks that are left -/
def fmtM : Nat → Bs → Bool
  | _, [] => true
  | n, c :: r => if c = 37 then (match r.head? with
      | some d => d == 115 || d == 122
      | none => false) && decide (1 ≤ n) && fmtM (n - 1) r
    else if c = 47 then decide (1 ≤ n) && fmtM (n - 1) r else (letB c || c == 45) && fmtM n r
def formatB (l : Bs) : Bool := decide (1 ≤ l.length) && decide (l.length ≤ 20) && fmtM 1 l

/- what fields tell: a value, or the place of the wrong one and why -/
/- which lines are right, and their fields -/
def timeOk (t : AtL) : Prop := -604799 ≤ t.s ∧ t.s ≤ 604799 ∧ 0 ≤ t.k ∧ t.k ≤ 2
def amtOk (n : Int) : Prop := -86400 ≤ n ∧ n ≤ 86400
def dayOk (d : DayL) : Prop := Go.Dfm.rightP d.k d.d d.w
def letterOk (l : Bs) : Prop := l = [] ∨ (1 ≤ l.length ∧ l.length ≤ 6 ∧ l.all letB = true)
def ruleOk (r : RuleL) : Prop := Go.Kwd.ruleD r.name = true ∧ (1 ≤ r.fr ∧ r.fr ≤ 9999) ∧ (Go.Kwd.showToD r.fr r.to).2 = 0 ∧ (1 ≤ r.month ∧ r.month ≤ 12) ∧ dayOk r.on ∧ canB r.on 2000 r.month = true ∧ timeOk r.at_ ∧ amtOk r.save ∧ letterOk r.letter
def tilOk (u : UntilL) : Prop := u.has = true ∧ (1 ≤ u.year ∧ u.year ≤ 9999) ∧ (1 ≤ u.month ∧ u.month ≤ 12) ∧ dayOk u.on ∧ canB u.on u.year u.month = true ∧ timeOk u.at_
def rulesOk (k s : Int) (n : Bs) : Prop := (k = 0 ∧ s = 0 ∧ n = []) ∨ (k = 1 ∧ amtOk s ∧ n = []) ∨ (k = 2 ∧ s = 0 ∧ Go.Kwd.ruleD n = true)
def eraOk (e : EraL) : Prop := amtOk e.off ∧ rulesOk e.kind e.save e.rules ∧ formatB e.format = true ∧ (e.til = tilZ ∨ tilOk e.til)
end Go.Lin
/- what clocks show; no program -/
namespace Go.Fmx
open Go.Lin

/-- a byte of an abbreviation -/
def plainN (n : Nat) : Bool := decide (97 ≤ n ∧ n ≤ 122 ∨ 65 ≤ n ∧ n ≤ 90 ∨ 48 ≤ n ∧ n ≤ 57 ∨ n = 43 ∨ n = 45)
def plainB (l : Bs) : Bool := decide (3 ≤ l.length ∧ l.length ≤ 6) && l.all fun c => plainN c.toNat
theorem plain_len {l : Bs} (h : ¬ (3 ≤ l.length ∧ l.length ≤ 6)) : plainB l = false := by unfold plainB; rw [decide_eq_false h]; rfl
theorem plain_eq {l : Bs} (h : 3 ≤ l.length ∧ l.length ≤ 6) : plainB l = l.all fun c => plainN c.toNat := by unfold plainB; rw [decide_eq_true h]; rfl
theorem plain_bad {l : Bs} {i : Nat} {c : UInt8} (h : l[i]? = some c) (hc : plainN c.toNat = false) : plainB l = false := by
  unfold plainB
  rw [Bool.and_eq_false_iff]
  right
  rw [List.all_eq_false]
  exact ⟨c, List.mem_of_getElem? h, by rw [hc]; decide⟩
theorem plain_good {l : Bs} (h : 3 ≤ l.length ∧ l.length ≤ 6) (hg : ∀ (i : Nat) (c : UInt8), i < l.length → l[i]? = some c → plainN c.toNat = true) : plainB l = true := by
  rw [plain_eq h, List.all_eq_true]
  intro c hc
  obtain ⟨i, hi⟩ := List.mem_iff_getElem?.1 hc
  exact hg i c (List.getElem?_eq_some_iff.1 hi).1 hi
/-- an offset's digits -/
def digN (a : Nat) : Bs := Go.Clk.twoL (a / 3600) ++ ((if a % 3600 = 0 then [] else Go.Clk.twoL (a / 60 % 60)) ++ (if a % 60 = 0 then [] else Go.Clk.twoL (a % 60)))
def digD (n : Int) : Bs := (if n < 0 then 45 else 43) :: digN n.natAbs
theorem digN_len (a : Nat) : (digN a).length ≤ 6 := by
  unfold digN
  rw [List.length_append, List.length_append]
  have h : ∀ x, (Go.Clk.twoL x).length = 2 := fun _ => rfl
  rw [h]
  split <;> split <;> simp [h]
theorem digD_len (n : Int) : (digD n).length ≤ 7 := by
  have := digN_len n.natAbs
  unfold digD
  rw [List.length_cons]
  omega
/-- does a text stand at a place of another? -/
def hereD (s t : Bs) (i : Nat) : Prop := i + t.length ≤ s.length ∧ (s.drop i).take t.length = t
instance (s t : Bs) (i : Nat) : Decidable (hereD s t i) := by unfold hereD; infer_instance
def findF (s t : Bs) (i : Nat) : Nat → Option Nat
  | 0 => none
  | g + 1 => if hereD s t i then some i else findF s t (i + 1) g
def findD (s t : Bs) : Option Nat := findF s t 0 (s.length + 1)
theorem findF_yes {s t : Bs} {i g : Nat} (h : hereD s t i) : findF s t i (g + 1) = some i := if_pos h
theorem findF_no {s t : Bs} {i g : Nat} (h : ¬ hereD s t i) : findF s t i (g + 1) = findF s t (i + 1) g := if_neg h
theorem findF_some {s t : Bs} : ∀ {g i j : Nat}, findF s t i g = some j → hereD s t j ∧ i ≤ j ∧ ∀ k, i ≤ k → k < j → ¬ hereD s t k
  | 0, _, _, h => nomatch h
  | g + 1, i, j, h => by
    by_cases hh : hereD s t i
    · rw [findF_yes hh] at h
      cases h
      exact ⟨hh, Nat.le_refl _, fun k h1 h2 => by omega⟩
    · rw [findF_no hh] at h
      obtain ⟨h1, h2, h3⟩ := findF_some h
      refine ⟨h1, by omega, fun k g1 g2 => ?_⟩
      by_cases e : k = i
      · rw [e]; exact hh
      · exact h3 k (by omega) g2
theorem find_here {s t : Bs} {j : Nat} (h : findD s t = some j) : hereD s t j ∧ ∀ k, k < j → ¬ hereD s t k :=
  ⟨(findF_some h).1, fun k hk => (findF_some h).2.2 k (Nat.zero_le _) hk⟩
theorem findF_none {s t : Bs} : ∀ {g i : Nat}, findF s t i g = none → ∀ k, i ≤ k → k < i + g → ¬ hereD s t k
  | 0, _, _, k, h1, h2 => by omega
  | g + 1, i, h, k, h1, h2 => by
    by_cases hh : hereD s t i
    · rw [findF_yes hh] at h; cases h
    · rw [findF_no hh] at h
      by_cases e : k = i
      · rw [e]; exact hh
      · exact findF_none h k (by omega) (by omega)
theorem find_nowhere {s t : Bs} (h : findD s t = none) (k : Nat) : ¬ hereD s t k := fun c => findF_none h k (Nat.zero_le _) (by have := c.1; omega) c
theorem find_eq {s t : Bs} {j : Nat} (h : hereD s t j) (hk : ∀ k, k < j → ¬ hereD s t k) : findD s t = some j := by
  cases hf : findD s t with
  | none => exact absurd h (find_nowhere hf j)
  | some i =>
    obtain ⟨h1, h2⟩ := find_here hf
    by_cases c : i < j
    · exact absurd h1 (hk i c)
    · by_cases d : j < i
      · exact absurd h (h2 j d)
      · rw [show i = j by omega]
theorem find_eq_none {s t : Bs} (h : ∀ k, ¬ hereD s t k) : findD s t = none := by
  cases hf : findD s t with
  | none => rfl
  | some i => exact absurd (find_here hf).1 (h i)
/-- a format's text, by what it is told -/
def abbrT (f letter : Bs) (off : Int) (dst : Bool) : Bs := match findD f [37, 115] with
  | some i => f.take i ++ letter ++ f.drop (i + 2)
  | none => match findD f [37, 122] with
    | some i => f.take i ++ digD off ++ f.drop (i + 2)
    | none => match findD f [47] with
      | some i => if dst = true then f.drop (i + 1) else f.take i
      | none => f
def abbrD (f letter : Bs) (off : Int) (dst : Bool) : Bs × Int := if off < -180000 ∨ 180000 < off then ([], 1) else if plainB (abbrT f letter off dst) = true then (abbrT f letter off dst, 0) else ([], 15)
theorem abbr_arg {f letter : Bs} {off : Int} {dst : Bool} (h : off < -180000 ∨ 180000 < off) : abbrD f letter off dst = ([], 1) := if_pos h
theorem abbr_yes {f letter : Bs} {off : Int} {dst : Bool} (h : ¬ (off < -180000 ∨ 180000 < off)) (hp : plainB (abbrT f letter off dst) = true) : abbrD f letter off dst = (abbrT f letter off dst, 0) := by unfold abbrD; rw [if_neg h, if_pos hp]
theorem abbr_no {f letter : Bs} {off : Int} {dst : Bool} (h : ¬ (off < -180000 ∨ 180000 < off)) (hp : plainB (abbrT f letter off dst) = false) : abbrD f letter off dst = ([], 15) := by unfold abbrD; rw [if_neg h, if_neg (by rw [hp]; decide)]
theorem abbrT_s {f letter : Bs} {off : Int} {dst : Bool} {i : Nat} (h : findD f [37, 115] = some i) : abbrT f letter off dst = f.take i ++ letter ++ f.drop (i + 2) := by unfold abbrT; rw [h]
theorem abbrT_z {f letter : Bs} {off : Int} {dst : Bool} {i : Nat} (h1 : findD f [37, 115] = none) (h : findD f [37, 122] = some i) : abbrT f letter off dst = f.take i ++ digD off ++ f.drop (i + 2) := by unfold abbrT; rw [h1]; dsimp only; rw [h]
theorem abbrT_d {f letter : Bs} {off : Int} {i : Nat} (h1 : findD f [37, 115] = none) (h2 : findD f [37, 122] = none) (h : findD f [47] = some i) : abbrT f letter off true = f.drop (i + 1) := by unfold abbrT; rw [h1]; dsimp only; rw [h2]; dsimp only; rw [h]; rfl
theorem abbrT_w {f letter : Bs} {off : Int} {i : Nat} (h1 : findD f [37, 115] = none) (h2 : findD f [37, 122] = none) (h : findD f [47] = some i) : abbrT f letter off false = f.take i := by unfold abbrT; rw [h1]; dsimp only; rw [h2]; dsimp only; rw [h]; rfl
theorem abbrT_n {f letter : Bs} {off : Int} {dst : Bool} (h1 : findD f [37, 115] = none) (h2 : findD f [37, 122] = none) (h : findD f [47] = none) : abbrT f letter off dst = f := by unfold abbrT; rw [h1]; dsimp only; rw [h2]; dsimp only; rw [h]
end Go.Fmx
