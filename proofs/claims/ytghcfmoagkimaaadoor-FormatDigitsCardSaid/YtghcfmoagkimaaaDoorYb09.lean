import Derived.Test.YtghcfmoagkimaaaDoorYb07
namespace Go.Dcm
open Go.Lin

/- what lines make -/
structure ZoneL where
  name : Bs
  eras : List EraL
  lines : List Int
structure LinkL where
  target : Bs
  name : Bs
  line : Int
structure DiagL where
  line : Int
  col : Int
  k : Int
/-- while lines are gathered: zones that are done with, and the last one -/
structure StL where
  rules : List (RuleL × Int)
  done : List ZoneL
  cur : Option ZoneL
  links : List LinkL
  diags : List DiagL
  opn : Bool
def StL.zones (s : StL) : List ZoneL := s.done ++ s.cur.toList
def tell (s : StL) (i c k : Int) : StL := { s with diags := s.diags ++ [⟨i, c, k⟩] }
def brk (s : StL) (i : Int) : StL := if s.opn = true then { tell s i 0 21 with opn := false } else s
def ruleD (s : StL) (i : Int) (x : LineL) : StL := { brk s i with rules := s.rules ++ [(x.rule, i)] }
/- what is always so -/
/- how many there are -/
def size (s : StL) : Nat := s.rules.length + s.zones.length + s.links.length + s.diags.length
end Go.Dcm
/- fires of rules; no program -/
namespace Go.Xpd
open Go.Lin

/-- the number of a rule's day in a month -/
def dayX (x : DayL) (y m : Int) : Int := if x.k = 1 then Go.Civil.longI y m else x.d
def numX (x : DayL) (y m : Int) : Option Int :=
  if Go.Dfm.rightB x.k x.d x.w = true ∧ Go.Civil.rightB y m (dayX x y m) = true then
    some (if x.k = 2 then Go.Civil.numD y m (dayX x y m) + (x.w - (Go.Civil.numD y m (dayX x y m) + 4) % 7 + 7) % 7
      else if x.k = 0 then Go.Civil.numD y m (dayX x y m)
      else Go.Civil.numD y m (dayX x y m) - ((Go.Civil.numD y m (dayX x y m) + 4) % 7 - x.w + 7) % 7)
  else none
/-- lasts a rule in a year? -/
def lasts (r : RuleL) (y : Int) : Prop := r.fr ≤ y ∧ y ≤ r.to ∧ 1 ≤ y ∧ y ≤ 9999
instance (r : RuleL) (y : Int) : Decidable (lasts r y) := by unfold lasts; infer_instance
/-- the second at which a rule fires in a year -/
def atR (r : RuleL) (y : Int) : Option Int := if lasts r y then (numX r.on y r.month).map (fun n => n * 86400 + r.at_.s) else none
/-- a fire -/
structure FireL where
  i : Int
  y : Int
  at_ : Int
  bef : Int
deriving DecidableEq, Inhabited
/-- ahead of another one of its year -/
def befo (a b : FireL) : Prop := a.at_ < b.at_ ∨ (a.at_ = b.at_ ∧ a.i < b.i)
instance (a b : FireL) : Decidable (befo a b) := by unfold befo; infer_instance
end Go.Xpd
/- spans, letters, orders of fires; no program -/
namespace Go.Xpd
open Go.Lin

/-- the first fire of a rule -/
def firstF (r : RuleL) (y : Int) : Nat → Option (Int × Int)
  | 0 => none
  | n + 1 => match atR r y with
    | some a => some (y, a)
    | none => firstF r (y + 1) n
def firstN (r : RuleL) : Nat := (min (min r.to 9999) (max r.fr 1 + 8) + 1 - max r.fr 1).toNat
def firstR (r : RuleL) : Option (Int × Int) := firstF r (max r.fr 1) (firstN r)
/-- the letter ahead of all fires -/
def letF (b : Option (Int × Int × Bs)) (r : RuleL) : Option (Int × Int × Bs) :=
  if r.save = 0 then
    match firstR r with
    | none => b
    | some p => match b with
      | none => some (p.1, p.2, r.letter)
      | some q => if p.1 < q.1 ∨ (p.1 = q.1 ∧ p.2 < q.2.1) then some (p.1, p.2, r.letter) else b
  else b
def letB (l : List RuleL) : Option (Int × Int × Bs) := l.foldl letF none
end Go.Xpd
/- what clocks do; no program -/
namespace Go.Den
open Go.Lin Go.Xpd

/- zones -/
/-- the clock of an until: its second, and whether it can be -/
def clockD (u : UntilL) : Int × Bool := match numX u.on u.year u.month with
  | none => (u.at_.s, false)
  | some n => (n * 86400 + u.at_.s, decide (1 ≤ u.year ∧ u.year ≤ 9999))
def within (n m : Int) : Prop := -m ≤ n ∧ n ≤ m
instance (n m : Int) : Decidable (within n m) := by unfold within; infer_instance
def ruleOk (r : RuleL) : Prop := within r.save 86400 ∧ within r.at_.s 604799 ∧ 0 ≤ r.at_.k ∧ r.at_.k ≤ 2
instance (r : RuleL) : Decidable (ruleOk r) := by unfold ruleOk; infer_instance
def tilOk (u : UntilL) : Prop := u.has = true → ((clockD u).2 = true ∧ within u.at_.s 604799 ∧ 0 ≤ u.at_.k ∧ u.at_.k ≤ 2)
instance (u : UntilL) : Decidable (tilOk u) := by unfold tilOk; infer_instance
def eraOk (e : EraL) (l : List RuleL) : Prop := within e.off 86400 ∧ 0 ≤ e.kind ∧ e.kind ≤ 2 ∧ (e.kind = 1 → within e.save 86400) ∧ l.length ≤ 24 ∧ (∀ r ∈ l, ruleOk r) ∧ tilOk e.til
instance (e : EraL) (l : List RuleL) : Decidable (eraOk e l) := by unfold eraOk; infer_instance
structure StateD where
  era : Int
  save : Int
  letter : Bs
deriving DecidableEq
end Go.Den
/- fires as the code gathers, sorts and marks them; no program -/
namespace Go.Xpd
open Go.Lin

/-- the order of fires -/
def ltF (a b : FireL) : Prop := a.y < b.y ∨ (a.y = b.y ∧ (a.at_ < b.at_ ∨ (a.at_ = b.at_ ∧ a.i < b.i)))
instance (a b : FireL) : Decidable (ltF a b) := by unfold ltF; infer_instance
end Go.Xpd
/- what clocks show in an era and state; no program -/
namespace Go.Fmx
open Go.Lin Go.Den

structure LocD where
  off : Int
  dst : Bool
  abbr : Bs
deriving DecidableEq
def loc0 : LocD := ⟨0, false, []⟩
def ofD16 (e : EraL) (s : StateD) : LocD × Int :=
  if (abbrD e.format s.letter (e.off + s.save) (s.save != 0)).2 = 0 then (⟨e.off + s.save, s.save != 0, (abbrD e.format s.letter (e.off + s.save) (s.save != 0)).1⟩, 0) else (loc0, (abbrD e.format s.letter (e.off + s.save) (s.save != 0)).2)
theorem of_yes {e : EraL} {s : StateD} {a : Bs} {b : Bool} (hb : (s.save != 0) = b) (h : abbrD e.format s.letter (e.off + s.save) b = (a, 0)) : ofD16 e s = (⟨e.off + s.save, b, a⟩, 0) := by unfold ofD16; rw [hb, h]; rfl
theorem of_no {e : EraL} {s : StateD} {a : Bs} {b : Bool} {k : Int} (hb : (s.save != 0) = b) (h : abbrD e.format s.letter (e.off + s.save) b = (a, k)) (hk : k ≠ 0) : ofD16 e s = (loc0, k) := by unfold ofD16; rw [hb, h]; exact if_neg hk
end Go.Fmx
