import Derived.Test.YtodcnbejnchmhaaGreatDoorYb01
import Derived.Test.YtodcnbejnchmhaaGreatDoorYb03
import Derived.Test.YtodcnbejnchmhaaGreatDoorYb04
import Derived.Test.YtodcnbejnchmhaaGreatDoorYb06
import Derived.Lib.IndexMore
namespace Go.Lin
open Go.Lib
abbrev Bs := List UInt8

/- what a line says -/
structure DayL where
  k : Int
  d : Int
  w : Int
deriving DecidableEq
structure AtL where
  s : Int
  k : Int
deriving DecidableEq
structure RuleL where
  name : Bs
  fr : Int
  to : Int
  month : Int
  on : DayL
  at_ : AtL
  save : Int
  letter : Bs
deriving DecidableEq
structure UntilL where
  has : Bool
  year : Int
  month : Int
  on : DayL
  at_ : AtL
deriving DecidableEq
structure EraL where
  off : Int
  kind : Int
  save : Int
  rules : Bs
  format : Bs
  til : UntilL
deriving DecidableEq
structure LineL where
  kind : Int
  rule : RuleL
  name : Bs
  target : Bs
  era : EraL
  err : Int
  col : Int
deriving DecidableEq
def dayZ : DayL := ⟨0, 0, 0⟩
def day1 : DayL := ⟨0, 1, 0⟩
def atZ : AtL := ⟨0, 0⟩
def ruleZ : RuleL := ⟨[], 0, 0, 0, dayZ, atZ, 0, []⟩
def tilZ : UntilL := ⟨false, 0, 0, dayZ, atZ⟩
def eraZ : EraL := ⟨0, 0, 0, [], [], tilZ⟩
def lineZ : LineL := ⟨0, ruleZ, [], [], eraZ, 0, 0⟩

/- what a field tells -/
def letB (c : UInt8) : Bool := Go.Kwd.letterB c || Go.Kwd.digitB c || c == 43
def canB (d : DayL) (y m : Int) : Bool := Go.Civil.rightB y m (if d.k = 1 then Go.Civil.longI y m else d.d)
def timeP (l : Bs) : Option AtL := (Go.Clk.parseD l).map fun x => ⟨x.1, (x.2 : Int)⟩
def dayP (l : Bs) : Option DayL := if (Go.Dfm.parseD l).2.2.2 = 0 then some ⟨(Go.Dfm.parseD l).1, (Go.Dfm.parseD l).2.1, (Go.Dfm.parseD l).2.2.1⟩ else none
def monthP (l : Bs) : Option Int := if Go.Kwd.monthD l = 0 then none else some (Go.Kwd.monthD l : Int)
def fromP (l : Bs) : Option Int := if (Go.Kwd.yearD (Go.Esc.parsed l)).2 = 0 then some (Go.Kwd.yearD (Go.Esc.parsed l)).1 else none
def toD (l : Bs) (fr : Int) : Int × Int := Go.Kwd.lastD (Go.Kwd.endD l) (Go.Kwd.yearD (Go.Esc.parsed l)) fr
def toP (l : Bs) (fr : Int) : Option Int := if (toD l fr).2 = 0 then some (toD l fr).1 else none
def letterP (l : Bs) : Option Bs := if l = [45] then some [] else if 1 ≤ l.length ∧ l.length ≤ 6 ∧ l.all letB = true then some l else none
/-- kind, save, name -/
def rulesP (l : Bs) : Option (Int × Int × Bs) := if Go.Kwd.ruleD l = true then some (2, 0, l) else if l = [45] then some (0, 0, []) else (Go.Clk.amtD l).map fun n => (1, n, [])
/-- n: marks that are left -/
def fmtM : Nat → Bs → Bool
  | _, [] => true
  | n, c :: r => if c = 37 then (match r.head? with
      | some d => d == 115 || d == 122
      | none => false) && decide (1 ≤ n) && fmtM (n - 1) r
    else if c = 47 then decide (1 ≤ n) && fmtM (n - 1) r else (letB c || c == 45) && fmtM n r
def formatB (l : Bs) : Bool := decide (1 ≤ l.length) && decide (l.length ≤ 20) && fmtM 1 l

/- what fields tell: a value, or the place of the wrong one and why -/
abbrev Er := Nat × Int
def req {α : Type} (o : Option α) (i : Nat) (k : Int) : Except Er α := match o with
  | some v => .ok v
  | none => .error (i, k)
def chk (b : Bool) (i : Nat) (k : Int) : Except Er Unit := if b = true then .ok () else .error (i, k)
def gt (f : List Bs) (i : Nat) : Bs := f.getD i []
def ruleP (f : List Bs) : Except Er RuleL :=
  (chk (Go.Kwd.ruleD (gt f 1)) 1 5).bind fun _ =>
  (req (fromP (gt f 2)) 2 8).bind fun y =>
  (req (toP (gt f 3) y) 3 8).bind fun z =>
  (chk (decide (gt f 4 = [45])) 4 3).bind fun _ =>
  (req (monthP (gt f 5)) 5 6).bind fun m =>
  (req (dayP (gt f 6)) 6 6).bind fun d =>
  (chk (canB d 2000 m) 6 6).bind fun _ =>
  (req (timeP (gt f 7)) 7 7).bind fun t =>
  (req (Go.Clk.amtD (gt f 8)) 8 7).bind fun s =>
  (req (letterP (gt f 9)) 9 15).bind fun l => .ok ⟨gt f 1, y, z, m, d, t, s, l⟩
def tilMonth (f : List Bs) (a : Nat) : Except Er Int := if a + 1 < f.length then req (monthP (gt f (a + 1))) (a + 1) 6 else .ok 1
def tilDay (f : List Bs) (a : Nat) (y m : Int) : Except Er DayL := if a + 2 < f.length then (req (dayP (gt f (a + 2))) (a + 2) 6).bind fun d => (chk (canB d y m) (a + 2) 6).bind fun _ => .ok d else .ok day1
def tilTime (f : List Bs) (a : Nat) : Except Er AtL := if a + 3 < f.length then req (timeP (gt f (a + 3))) (a + 3) 7 else .ok atZ
def untilP (f : List Bs) (a : Nat) : Except Er UntilL :=
  (req (fromP (gt f a)) a 8).bind fun y =>
  (tilMonth f a).bind fun m =>
  (tilDay f a y m).bind fun d =>
  (tilTime f a).bind fun t => .ok ⟨true, y, m, d, t⟩
def eraP (f : List Bs) (a : Nat) : Except Er EraL :=
  (req (Go.Clk.amtD (gt f a)) a 7).bind fun o =>
  (req (rulesP (gt f (a + 1))) (a + 1) 5).bind fun r =>
  (chk (formatB (gt f (a + 2))) (a + 2) 15).bind fun _ =>
  (if a + 3 < f.length then untilP f (a + 3) else .ok tilZ).bind fun u => .ok ⟨o, r.1, r.2.1, r.2.2, gt f (a + 2), u⟩
def linkP (f : List Bs) : Except Er Unit := (chk (Go.Kwd.zoneD (gt f 1)) 1 5).bind fun _ => chk (Go.Kwd.zoneD (gt f 2)) 2 5
abbrev FPair := Bs × Nat
def wrongL (k c : Int) : LineL := { lineZ with kind := 5, err := k, col := c }
def colOf (fs : List FPair) (i : Nat) : Int := ((fs.getD i ([], 0)).2 : Int)
def outL {α : Type} (fs : List FPair) (r : Except Er α) (g : α → LineL) : LineL := match r with
  | .ok v => g v
  | .error e => wrongL e.2 (colOf fs e.1)
def contB (l : Bs) : Bool := match l with
  | [] => false
  | c :: _ => c == 45 || Go.Kwd.digitB c
def lineP (fs : List FPair) : LineL :=
  if fs = [] then lineZ
  else if contB (gt (fs.map (·.1)) 0) = true then (if fs.length < 3 ∨ 7 < fs.length then wrongL 4 (colOf fs 0) else outL fs (eraP (fs.map (·.1)) 0) fun e => { lineZ with kind := 3, era := e })
  else if Go.Kwd.headD (gt (fs.map (·.1)) 0) = 1 then (if fs.length ≠ 10 then wrongL 4 (colOf fs 0) else outL fs (ruleP (fs.map (·.1))) fun r => { lineZ with kind := 1, rule := r })
  else if Go.Kwd.headD (gt (fs.map (·.1)) 0) = 2 then (if fs.length < 5 ∨ 9 < fs.length then wrongL 4 (colOf fs 0) else
    outL fs ((chk (Go.Kwd.zoneD (gt (fs.map (·.1)) 1)) 1 5).bind fun _ => eraP (fs.map (·.1)) 2) fun e => { lineZ with kind := 2, name := gt (fs.map (·.1)) 1, era := e })
  else if Go.Kwd.headD (gt (fs.map (·.1)) 0) = 3 then (if fs.length ≠ 3 then wrongL 4 (colOf fs 0) else outL fs (linkP (fs.map (·.1))) fun _ => { lineZ with kind := 4, target := gt (fs.map (·.1)) 1, name := gt (fs.map (·.1)) 2 })
  else wrongL 3 (colOf fs 0)

/- which lines are right, and their fields -/
def timeOk (t : AtL) : Prop := -604799 ≤ t.s ∧ t.s ≤ 604799 ∧ 0 ≤ t.k ∧ t.k ≤ 2
def amtOk (n : Int) : Prop := -86400 ≤ n ∧ n ≤ 86400
def dayOk (d : DayL) : Prop := Go.Dfm.rightP d.k d.d d.w
def letterOk (l : Bs) : Prop := l = [] ∨ (1 ≤ l.length ∧ l.length ≤ 6 ∧ l.all letB = true)
def ruleOk (r : RuleL) : Prop := Go.Kwd.ruleD r.name = true ∧ (1 ≤ r.fr ∧ r.fr ≤ 9999) ∧ (Go.Kwd.showToD r.fr r.to).2 = 0 ∧ (1 ≤ r.month ∧ r.month ≤ 12) ∧ dayOk r.on ∧ canB r.on 2000 r.month = true ∧ timeOk r.at_ ∧ amtOk r.save ∧ letterOk r.letter
def tilOk (u : UntilL) : Prop := u.has = true ∧ (1 ≤ u.year ∧ u.year ≤ 9999) ∧ (1 ≤ u.month ∧ u.month ≤ 12) ∧ dayOk u.on ∧ canB u.on u.year u.month = true ∧ timeOk u.at_
def rulesOk (k s : Int) (n : Bs) : Prop := (k = 0 ∧ s = 0 ∧ n = []) ∨ (k = 1 ∧ amtOk s ∧ n = []) ∨ (k = 2 ∧ s = 0 ∧ Go.Kwd.ruleD n = true)
def eraOk (e : EraL) : Prop := amtOk e.off ∧ rulesOk e.kind e.save e.rules ∧ formatB e.format = true ∧ (e.til = tilZ ∨ tilOk e.til)
def lineOk (l : LineL) : Prop := l = lineZ ∨ (l = { lineZ with kind := 1, rule := l.rule } ∧ ruleOk l.rule) ∨ (l = { lineZ with kind := 2, name := l.name, era := l.era } ∧ Go.Kwd.zoneD l.name = true ∧ eraOk l.era) ∨
  (l = { lineZ with kind := 3, era := l.era } ∧ eraOk l.era) ∨ (l = { lineZ with kind := 4, target := l.target, name := l.name } ∧ Go.Kwd.zoneD l.target = true ∧ Go.Kwd.zoneD l.name = true)
def ruleW : Bs := [82, 117, 108, 101]
def zoneW : Bs := [90, 111, 110, 101]
def linkW : Bs := [76, 105, 110, 107]
end Go.Lin
namespace Go.Lin
open Go.Lib

/- a format, as the code asks it: without what it may have one of, all bytes are signs -/
def signB (c : UInt8) : Bool := letB c || c == 45
theorem sign_37 : signB 37 = false := by decide
theorem sign_47 : signB 47 = false := by decide
theorem fmt0 : ∀ l : Bs, fmtM 0 l = l.all signB
  | [] => rfl
  | c :: r => by
    rw [fmtM, List.all_cons, ← fmt0 r]
    by_cases h1 : c = 37
    · subst h1
      simp [sign_37]
    · by_cases h2 : c = 47
      · subst h2
        simp [sign_47]
      · rw [if_neg h1, if_neg h2]
        rfl
theorem all_not {l : Bs} {c : UInt8} (h : c ∈ l) (hc : signB c = false) : l.all signB = false := by
  rw [List.all_eq_false]
  exact ⟨c, h, by simp [hc]⟩
def slotW : List Bs := [[47], [37, 115], [37, 122]]
theorem slot_mem {m : Bs} (h : m ∈ slotW) : m = [47] ∨ m = [37, 115] ∨ m = [37, 122] := by simpa [slotW] using h
theorem fmt_cut (a b m : Bs) (hm : m ∈ slotW) : fmtM 1 (a ++ (m ++ b)) = (a ++ b).all signB := by
  have hx : ∃ c, c ∈ m ∧ signB c = false := by
    rcases slot_mem hm with rfl | rfl | rfl
    · exact ⟨47, by simp, sign_47⟩
    · exact ⟨37, by simp, sign_37⟩
    · exact ⟨37, by simp, sign_37⟩
  obtain ⟨d, hd, hs⟩ := hx
  induction a with
  | nil =>
    have h115 : signB 115 = true := by decide
    have h122 : signB 122 = true := by decide
    have g115 : letB 115 = true := by decide
    have g122 : letB 122 = true := by decide
    rcases slot_mem hm with rfl | rfl | rfl
    · simp [fmtM, fmt0]
    · simp [fmtM, fmt0, g115]
    · simp [fmtM, fmt0, g122]
  | cons c r ih =>
    show fmtM 1 (c :: (r ++ (m ++ b))) = (c :: (r ++ b)).all signB
    have hn : (r ++ (m ++ b)).all signB = false := all_not (by simp [hd]) hs
    rw [fmtM, List.all_cons, ← ih]
    by_cases h1 : c = 37
    · rw [if_pos h1, fmt0, hn, h1, sign_37]
      simp
    · by_cases h2 : c = 47
      · rw [if_neg h1, if_pos h2, fmt0, hn, h2, sign_47]
        simp
      · rw [if_neg h1, if_neg h2]
        rfl
theorem fmt_none : ∀ l : Bs, (∀ m, m ∈ slotW → ∀ a b, l ≠ a ++ (m ++ b)) → fmtM 1 l = l.all signB
  | [], _ => rfl
  | c :: r, h => by
    have ih := fmt_none r (fun m hm a b e => h m hm (c :: a) b (by rw [e]; rfl))
    rw [fmtM, List.all_cons, ← ih]
    by_cases h1 : c = 37
    · rw [if_pos h1, h1, sign_37]
      cases r with
      | nil => rfl
      | cons d t =>
        have n1 : d ≠ 115 := fun e => h [37, 115] (by simp [slotW]) [] t (by rw [h1, e]; rfl)
        have n2 : d ≠ 122 := fun e => h [37, 122] (by simp [slotW]) [] t (by rw [h1, e]; rfl)
        simp [n1, n2]
    · by_cases h2 : c = 47
      · exact absurd (by rw [h2]; rfl) (h [47] (by simp [slotW]) [] r)
      · rw [if_neg h1, if_neg h2]
        rfl
theorem cut_yes {l m : Bs} (h : (cut l m).2.2 = true) : l = (cut l m).1 ++ (m ++ (cut l m).2.1) := by
  unfold cut at *
  rcases index_spec l m with ⟨h1, h2⟩ | ⟨i, h1, h2, h3, h4⟩
  · rw [if_neg (by omega)] at h
    cases h
  · rw [if_pos (by omega), h1]
    show l = l.take i ++ (m ++ l.drop (i + m.length))
    unfold occAt at h3
    obtain ⟨t, ht⟩ := List.isPrefixOf_iff_prefix.1 h3
    rw [← List.drop_drop, ← ht, List.drop_left, ht, List.take_append_drop]
theorem cut_no {l m : Bs} (h : (cut l m).2.2 = false) (a b : Bs) : l ≠ a ++ (m ++ b) := by
  intro e
  unfold cut at h
  rcases index_spec l m with ⟨h1, h2⟩ | ⟨i, h1, h2, h3, h4⟩
  · have h3 := h2 a.length (by rw [e]; simp)
    unfold occAt at h3
    rw [e, List.drop_left] at h3
    have : m.isPrefixOf (m ++ b) = true := List.isPrefixOf_iff_prefix.2 (List.prefix_append _ _)
    rw [this] at h3
    cases h3
  · rw [if_pos (by omega)] at h
    cases h
def withoutD : List Bs → Bs → Bs
  | [], l => l
  | m :: ms, l => if (cut l m).2.2 = true then (cut l m).1 ++ (cut l m).2.1 else withoutD ms l
theorem without_fmt (l : Bs) : (withoutD slotW l).all signB = fmtM 1 l := by
  have key : ∀ ms : List Bs, (∀ m ∈ ms, m ∈ slotW) → (∀ m ∈ slotW, m ∉ ms → ∀ a b, l ≠ a ++ (m ++ b)) → (withoutD ms l).all signB = fmtM 1 l := by
    intro ms
    induction ms with
    | nil =>
      intro _ h
      exact (fmt_none l (fun m hm => h m hm (by simp))).symm
    | cons m ms ih =>
      intro hs h
      unfold withoutD
      cases hc : (cut l m).2.2 with
      | true =>
        rw [if_pos rfl]
        have := fmt_cut (cut l m).1 (cut l m).2.1 m (hs m (by simp))
        rw [← cut_yes hc] at this
        exact this.symm
      | false =>
        rw [if_neg (by decide)]
        refine ih (fun x hx => hs x (by simp [hx])) (fun x hx hn => ?_)
        by_cases e : x = m
        · subst e
          exact cut_no hc
        · exact h x hx (by simp [e, hn])
  exact key slotW (fun _ h => h) (fun m h hn => absurd h hn)
theorem format_eq (l : Bs) : formatB l = (decide (1 ≤ l.length) && decide (l.length ≤ 20) && (withoutD slotW l).all signB) := by
  rw [without_fmt]
  rfl
theorem without_len (l : Bs) : ∀ ms : List Bs, (withoutD ms l).length ≤ l.length
  | [] => Nat.le_refl _
  | m :: ms => by
    unfold withoutD
    cases hc : (cut l m).2.2 with
    | true =>
      rw [if_pos rfl]
      have := congrArg List.length (cut_yes hc)
      simp only [List.length_append] at this ⊢
      omega
    | false =>
      rw [if_neg (by decide)]
      exact without_len l ms
theorem cut_len {l m : Bs} (h : (cut l m).2.2 = true) : (cut l m).1.length + (cut l m).2.1.length ≤ l.length := by
  have := congrArg List.length (cut_yes h)
  simp only [List.length_append] at this
  omega
end Go.Lin
namespace Go.Lin
open Go.Lib

/- each field's text is read as it -/
theorem bind_ok {α β : Type} (v : α) (f : α → Except Er β) : (Except.ok v : Except Er α).bind f = f v := rfl
theorem req_some {α : Type} (v : α) (i : Nat) (k : Int) : req (some v) i k = .ok v := rfl
theorem chk_true (i : Nat) (k : Int) : chk true i k = .ok () := rfl
theorem heads : contB ruleW = false ∧ contB zoneW = false ∧ contB linkW = false ∧ Go.Kwd.headD ruleW = 1 ∧ Go.Kwd.headD zoneW = 2 ∧ Go.Kwd.headD linkW = 3 := by decide +kernel
end Go.Lin
namespace Go.Lin
open Go.Lib

/- what is read is right -/
theorem from_right {l : Bs} {y : Int} (h : fromP l = some y) : 1 ≤ y ∧ y ≤ 9999 := by
  unfold fromP at h
  generalize Go.Esc.parsed l = p at h
  by_cases hp : p.2 = 0 ∧ 1 ≤ p.1 ∧ p.1 ≤ 9999
  · rw [show Go.Kwd.yearD p = (p.1, 0) by rw [Go.Kwd.yearD, if_pos hp], if_pos rfl] at h
    injection h with h
    subst h
    exact hp.2
  · rw [show Go.Kwd.yearD p = (0, 8) by rw [Go.Kwd.yearD, if_neg hp], if_neg (by decide)] at h
    cases h
theorem to_right {l : Bs} {fr z : Int} (hf : 1 ≤ fr ∧ fr ≤ 9999) (h : toP l fr = some z) : (Go.Kwd.showToD fr z).2 = 0 := by
  unfold toP toD at h
  split at h
  · rename_i h1
    injection h with h
    generalize Go.Kwd.endD l = e at *
    unfold Go.Kwd.lastD at h1 h
    have hs : ∀ z : Int, (z = 10000 ∨ (fr ≤ z ∧ z ≤ 9999)) → (Go.Kwd.showToD fr z).2 = 0 := by
      intro z hz
      unfold Go.Kwd.showToD
      rw [if_neg (by omega)]
      rcases hz with rfl | hz
      · rw [if_pos rfl]
      · rw [if_neg (by omega), if_neg (by omega)]
        split <;> rfl
    split at h
    · exact hs z (by simp at h; omega)
    · split at h
      · exact hs z (by simp at h; omega)
      · rename_i g1 g2
        rw [if_neg g1, if_neg g2] at h1
        split at h
        · rename_i g3
          unfold Go.Kwd.yearD at g3 h
          split at h
          · rename_i g4
            rw [if_pos g4] at g3
            simp at h g3
            exact hs z (by omega)
          · rename_i g4
            rw [if_neg g4] at g3
            exact absurd g3.1 (by decide)
        · rename_i g3
          rw [if_neg g3] at h1
          exact absurd h1 (by decide)
  · cases h
theorem month_right {l : Bs} {m : Int} (h : monthP l = some m) : 1 ≤ m ∧ m ≤ 12 := by
  unfold monthP at h
  split at h
  · cases h
  · rename_i h0
    injection h with h
    have h1 : Go.Kwd.monthD l ≤ 0 + Go.Kwd.months.length := Go.Kwd.find_le _ _ 0 0 0 (Nat.le_refl _)
    have h2 : Go.Kwd.months.length = 12 := rfl
    omega
theorem day_right {l : Bs} {d : DayL} (h : dayP l = some d) : dayOk d := by
  unfold dayP at h
  rcases Go.Dfm.parse_cases l with ⟨k, n, w, hp, -, e⟩ | ⟨-, e⟩
  · rw [e] at h
    simp at h
    rw [← h]
    exact hp
  · rw [e] at h
    simp at h
theorem time_right {l : Bs} {t : AtL} (h : timeP l = some t) : timeOk t := by
  unfold timeP at h
  obtain ⟨⟨n, k⟩, hx, rfl⟩ := Option.map_eq_some_iff.1 h
  obtain ⟨h1, h2, h3⟩ := Go.Clk.parse_range hx
  exact ⟨h1, h2, by show (0 : Int) ≤ (k : Int); omega, by show (k : Int) ≤ 2; omega⟩
theorem amt_right {l : Bs} {n : Int} (h : Go.Clk.amtD l = some n) : amtOk n := by
  cases Go.Clk.of_amt h with
  | dash => exact ⟨by decide, by decide⟩
  | mk _ _ _ h1 h2 => exact ⟨h1, h2⟩
theorem letter_right {l x : Bs} (h : letterP l = some x) : letterOk x := by
  unfold letterP at h
  split at h
  · injection h with h
    exact .inl h.symm
  · split at h
    · rename_i h2
      injection h with h
      subst h
      exact .inr h2
    · cases h
theorem rules_right {l : Bs} {r : Int × Int × Bs} (h : rulesP l = some r) : rulesOk r.1 r.2.1 r.2.2 := by
  unfold rulesP at h
  split at h
  · rename_i h1
    injection h with h
    subst h
    exact .inr (.inr ⟨rfl, rfl, h1⟩)
  · split at h
    · injection h with h
      subst h
      exact .inl ⟨rfl, rfl, rfl⟩
    · obtain ⟨n, hn, rfl⟩ := Option.map_eq_some_iff.1 h
      exact .inr (.inl ⟨rfl, amt_right hn, rfl⟩)
theorem of_bind {α β : Type} {x : Except Er α} {f : α → Except Er β} {v : β} (h : x.bind f = .ok v) : ∃ a, x = .ok a ∧ f a = .ok v := by
  cases x with
  | error e => cases h
  | ok a => exact ⟨a, rfl, h⟩
theorem of_req {α : Type} {o : Option α} {i : Nat} {k : Int} {v : α} (h : req o i k = .ok v) : o = some v := by
  cases o with
  | none => cases h
  | some x => injection h with h; rw [h]
theorem of_chk {b : Bool} {i : Nat} {k : Int} {u : Unit} (h : chk b i k = .ok u) : b = true := by
  cases b with
  | false => cases h
  | true => rfl
theorem rule_right {f : List Bs} {r : RuleL} (h : ruleP f = .ok r) : ruleOk r := by
  unfold ruleP at h
  obtain ⟨_, a1, h⟩ := of_bind h
  obtain ⟨y, a2, h⟩ := of_bind h
  obtain ⟨z, a3, h⟩ := of_bind h
  obtain ⟨_, a4, h⟩ := of_bind h
  obtain ⟨m, a5, h⟩ := of_bind h
  obtain ⟨d, a6, h⟩ := of_bind h
  obtain ⟨_, a7, h⟩ := of_bind h
  obtain ⟨t, a8, h⟩ := of_bind h
  obtain ⟨s, a9, h⟩ := of_bind h
  obtain ⟨l, a10, h⟩ := of_bind h
  injection h with h
  subst h
  have hy := from_right (of_req a2)
  exact ⟨of_chk a1, hy, to_right hy (of_req a3), month_right (of_req a5), day_right (of_req a6), of_chk a7, time_right (of_req a8), amt_right (of_req a9), letter_right (of_req a10)⟩
theorem can_day1 {y m : Int} (hy : 1 ≤ y ∧ y ≤ 9999) (hm : 1 ≤ m ∧ m ≤ 12) : canB day1 y m = true := by
  have := Go.Civil.longI_ge (y := y) hm
  show Go.Civil.rightB y m 1 = true
  rw [Go.Civil.rightB_iff]
  omega
theorem til_right {f : List Bs} {a : Nat} {u : UntilL} (h : untilP f a = .ok u) : tilOk u := by
  unfold untilP at h
  obtain ⟨y, a1, h⟩ := of_bind h
  obtain ⟨m, a2, h⟩ := of_bind h
  obtain ⟨d, a3, h⟩ := of_bind h
  obtain ⟨t, a4, h⟩ := of_bind h
  injection h with h
  subst h
  have hy := from_right (of_req a1)
  have hm : 1 ≤ m ∧ m ≤ 12 := by
    unfold tilMonth at a2
    split at a2
    · exact month_right (of_req a2)
    · injection a2 with a2
      omega
  have hd : dayOk d ∧ canB d y m = true := by
    unfold tilDay at a3
    split at a3
    · obtain ⟨d', b1, a3⟩ := of_bind a3
      obtain ⟨_, b2, a3⟩ := of_bind a3
      injection a3 with a3
      subst a3
      exact ⟨day_right (of_req b1), of_chk b2⟩
    · injection a3 with a3
      subst a3
      exact ⟨.inl ⟨rfl, by decide, by decide, rfl⟩, can_day1 hy hm⟩
  have ht : timeOk t := by
    unfold tilTime at a4
    split at a4
    · exact time_right (of_req a4)
    · injection a4 with a4
      subst a4
      exact ⟨by decide, by decide, by decide, by decide⟩
  exact ⟨rfl, hy, hm, hd.1, hd.2, ht⟩
theorem era_right {f : List Bs} {a : Nat} {e : EraL} (h : eraP f a = .ok e) : eraOk e := by
  unfold eraP at h
  obtain ⟨o, a1, h⟩ := of_bind h
  obtain ⟨r, a2, h⟩ := of_bind h
  obtain ⟨_, a3, h⟩ := of_bind h
  obtain ⟨u, a4, h⟩ := of_bind h
  injection h with h
  subst h
  refine ⟨amt_right (of_req a1), rules_right (of_req a2), of_chk a3, ?_⟩
  split at a4
  · exact .inr (til_right a4)
  · injection a4 with a4
    exact .inl a4.symm
theorem link_right {f : List Bs} {u : Unit} (h : linkP f = .ok u) : Go.Kwd.zoneD (gt f 1) = true ∧ Go.Kwd.zoneD (gt f 2) = true := by
  unfold linkP at h
  obtain ⟨_, a1, h⟩ := of_bind h
  exact ⟨of_chk a1, of_chk h⟩
/-- what a line says is right, or it is wrong -/
theorem line_right (fs : List FPair) : lineOk (lineP fs) ∨ ∃ k c, lineP fs = wrongL k c ∧ k ≠ 0 ∧ ∃ i, c = colOf fs i := by
  have hw : ∀ {α : Type} (r : Except Er α) (g : α → LineL), (∀ e, r = .error e → e.2 ≠ 0) → (∀ v, r = .ok v → lineOk (g v)) → lineOk (outL fs r g) ∨ ∃ k c, outL fs r g = wrongL k c ∧ k ≠ 0 ∧ ∃ i, c = colOf fs i := by
    intro α r g h1 h2
    cases r with
    | ok v => exact .inl (h2 v rfl)
    | error e => exact .inr ⟨_, _, rfl, h1 e rfl, _, rfl⟩
  have hbind : ∀ {α β : Type} {x : Except Er α} {f : α → Except Er β} {e : Er}, x.bind f = .error e → (∀ e, x = .error e → e.2 ≠ 0) → (∀ a e, f a = .error e → e.2 ≠ 0) → e.2 ≠ 0 := by
    intro α β x f e h h1 h2
    cases x with
    | error e' => exact h1 e (by injection h with h; rw [h])
    | ok a => exact h2 a e h
  have hreq : ∀ {α : Type} (o : Option α) (i : Nat) (k : Int), k ≠ 0 → ∀ e, req o i k = .error e → e.2 ≠ 0 := by
    intro α o i k hk e h
    cases o with
    | some v => cases h
    | none => injection h with h; subst h; exact hk
  have hchk : ∀ (b : Bool) (i : Nat) (k : Int), k ≠ 0 → ∀ e, chk b i k = .error e → e.2 ≠ 0 := by
    intro b i k hk e h
    cases b with
    | true => cases h
    | false => injection h with h; subst h; exact hk
  have hok : ∀ {α : Type} (v : α) (e : Er), (Except.ok v : Except Er α) = .error e → e.2 ≠ 0 := fun v e h => by cases h
  have htil : ∀ (f : List Bs) (a : Nat) (e : Er), untilP f a = .error e → e.2 ≠ 0 := by
    intro f a e h
    unfold untilP at h
    refine hbind h (hreq _ _ _ (by decide)) (fun y e h => hbind h ?_ (fun m e h => hbind h ?_ (fun d e h => hbind h ?_ (fun t e h => hok _ _ h))))
    · intro e h
      unfold tilMonth at h
      split at h
      · exact hreq _ _ _ (by decide) _ h
      · exact hok _ _ h
    · intro e h
      unfold tilDay at h
      split at h
      · exact hbind h (hreq _ _ _ (by decide)) (fun d e h => hbind h (hchk _ _ _ (by decide)) (fun _ e h => hok _ _ h))
      · exact hok _ _ h
    · intro e h
      unfold tilTime at h
      split at h
      · exact hreq _ _ _ (by decide) _ h
      · exact hok _ _ h
  have hera : ∀ (f : List Bs) (a : Nat) (e : Er), eraP f a = .error e → e.2 ≠ 0 := by
    intro f a e h
    unfold eraP at h
    refine hbind h (hreq _ _ _ (by decide)) (fun o e h => hbind h (hreq _ _ _ (by decide)) (fun r e h => hbind h (hchk _ _ _ (by decide)) (fun _ e h => hbind h ?_ (fun u e h => hok _ _ h))))
    intro e h
    split at h
    · exact htil _ _ _ h
    · exact hok _ _ h
  unfold lineP
  split
  · exact .inl (.inl rfl)
  · split
    · split
      · exact .inr ⟨_, _, rfl, by decide, _, rfl⟩
      · exact hw _ _ (hera _ _) (fun e he => .inr (.inr (.inr (.inl ⟨rfl, era_right he⟩))))
    · split
      · split
        · exact .inr ⟨_, _, rfl, by decide, _, rfl⟩
        · refine hw _ _ ?_ (fun r hr => .inr (.inl ⟨rfl, rule_right hr⟩))
          intro e h
          unfold ruleP at h
          exact hbind h (hchk _ _ _ (by decide)) (fun _ e h => hbind h (hreq _ _ _ (by decide)) (fun _ e h => hbind h (hreq _ _ _ (by decide)) (fun _ e h => hbind h (hchk _ _ _ (by decide)) (fun _ e h => hbind h (hreq _ _ _ (by decide)) (fun _ e h =>
            hbind h (hreq _ _ _ (by decide)) (fun _ e h => hbind h (hchk _ _ _ (by decide)) (fun _ e h => hbind h (hreq _ _ _ (by decide)) (fun _ e h => hbind h (hreq _ _ _ (by decide)) (fun _ e h => hbind h (hreq _ _ _ (by decide)) (fun _ e h => hok _ _ h))))))))))
      · split
        · split
          · exact .inr ⟨_, _, rfl, by decide, _, rfl⟩
          · refine hw _ _ (fun e h => hbind h (hchk _ _ _ (by decide)) (fun _ e h => hera _ _ _ h)) ?_
            intro e h
            obtain ⟨_, a1, h⟩ := of_bind h
            exact .inr (.inr (.inl ⟨rfl, of_chk a1, era_right h⟩))
        · split
          · split
            · exact .inr ⟨_, _, rfl, by decide, _, rfl⟩
            · refine hw _ _ (fun e h => hbind h (hchk _ _ _ (by decide)) (fun _ e h => hchk _ _ _ (by decide) _ h)) ?_
              intro u h
              exact .inr (.inr (.inr (.inr ⟨rfl, link_right h⟩)))
          · exact .inr ⟨_, _, rfl, by decide, _, rfl⟩
/-- what a line says hangs on its fields alone, but for the columns -/
theorem line_fields {fs gs : List FPair} (h : fs.map (·.1) = gs.map (·.1)) : { lineP fs with col := 0 } = { lineP gs with col := 0 } := by
  have hlen : fs.length = gs.length := by have := congrArg List.length h; simpa using this
  have hnil : fs = [] ↔ gs = [] := by rw [← List.length_eq_zero_iff, ← List.length_eq_zero_iff, hlen]
  have hw : ∀ k c d : Int, ({ wrongL k c with col := 0 } : LineL) = { wrongL k d with col := 0 } := fun _ _ _ => rfl
  have ho : ∀ {α : Type} (r : Except Er α) (g : α → LineL), ({ outL fs r g with col := 0 } : LineL) = { outL gs r g with col := 0 } := by
    intro α r g
    cases r <;> rfl
  unfold lineP
  rw [h, hlen]
  by_cases hf : fs = []
  · rw [if_pos hf, if_pos (hnil.1 hf)]
  · rw [if_neg hf, if_neg (fun e => hf (hnil.2 e))]
    split
    · split
      · exact hw _ _ _
      · exact ho _ _
    · split
      · split
        · exact hw _ _ _
        · exact ho _ _
      · split
        · split
          · exact hw _ _ _
          · exact ho _ _
        · split
          · split
            · exact hw _ _ _
            · exact ho _ _
          · exact hw _ _ _
end Go.Lin
namespace Go.Lin
open Go.Lib

/-- a text of at most n bytes, none of them a quote -/
def Pl (n : Nat) (s : Bs) : Prop := (34 : UInt8) ∉ s ∧ s.length ≤ n
theorem Pl.mono {n m : Nat} {a : Bs} (h : Pl n a) (hn : n ≤ m) : Pl m a := ⟨h.1, Nat.le_trans h.2 hn⟩
/- fields, with a bound of what a line of them is long -/
inductive Pls : Nat → List Bs → Prop
  | nil : Pls 0 []
  | cons (n m : Nat) (s : Bs) (l : List Bs) : Pl n s → Pls m l → Pls (n + 3 + m) (s :: l)
theorem Pls.no {n : Nat} {l : List Bs} (h : Pls n l) : (l.any fun s => s.contains 34) = false := by
  induction h with
  | nil => rfl
  | cons n m s l h1 _ ih =>
    rw [List.any_cons, ih, Bool.or_false]
    have := h1.1
    simpa using this
theorem one_le (x : Bs) : (Go.Lxr.showOne x).length ≤ x.length + 2 := by
  unfold Go.Lxr.showOne
  split <;> simp
theorem Pls.len {n : Nat} {l : List Bs} (h : Pls n l) : (Go.Lxr.joinL l).length ≤ n := by
  induction h with
  | nil => simp [Go.Lxr.joinL]
  | cons n m s l h1 _ ih =>
    have h2 := one_le s
    have h3 := h1.2
    cases l with
    | nil =>
      show (Go.Lxr.showOne s).length ≤ _
      omega
    | cons t l =>
      show (Go.Lxr.showOne s ++ 32 :: Go.Lxr.joinL (t :: l)).length ≤ _
      rw [List.length_append, List.length_cons]
      omega
theorem Pls.show {n : Nat} {l : List Bs} (h : Pls n l) (hn : n ≤ 200) : Go.Lxr.showD l = (Go.Lxr.joinL l, 0) := by
  unfold Go.Lxr.showD
  have := h.len
  rw [h.no, if_neg (by decide), if_neg (by omega)]
end Go.Lin
