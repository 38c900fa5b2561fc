import Derived.Test.YtgcheollgnhdlaaGreatDoorS5Plain
import Derived.Test.YtgcheollgnhdlaaGreatDoorS6Plain
import Derived.Test.YtgcheollgnhdlaaGreatDoorS6Cpl
import Derived.Test.YtgcheollgnhdlaaGreatDoorS7Plain
import Derived.Test.YtgcheollgnhdlaaGreatDoorS8Pla
namespace Go.Lin
open Go.Lib
abbrev Bs := List UInt8

/- what a line says -/
structure DayL where
  k : Int
  d : Int
  w : Int
deriving DecidableEq
structure AtL where
  s : Int
  k : Int
deriving DecidableEq
structure RuleL where
  name : Bs
  fr : Int
  to : Int
  month : Int
  on : DayL
  at_ : AtL
  save : Int
  letter : Bs
deriving DecidableEq
structure UntilL where
  has : Bool
  year : Int
  month : Int
  on : DayL
  at_ : AtL
deriving DecidableEq
structure EraL where
  off : Int
  kind : Int
  save : Int
  rules : Bs
  format : Bs
  til : UntilL
deriving DecidableEq
structure LineL where
  kind : Int
  rule : RuleL
  name : Bs
  target : Bs
  era : EraL
  err : Int
  col : Int
deriving DecidableEq
def dayZ : DayL := ⟨0, 0, 0⟩
def day1 : DayL := ⟨0, 1, 0⟩
def atZ : AtL := ⟨0, 0⟩
def ruleZ : RuleL := ⟨[], 0, 0, 0, dayZ, atZ, 0, []⟩
def tilZ : UntilL := ⟨false, 0, 0, dayZ, atZ⟩
def eraZ : EraL := ⟨0, 0, 0, [], [], tilZ⟩
def lineZ : LineL := ⟨0, ruleZ, [], [], eraZ, 0, 0⟩

/- what a field tells -/
def letB (c : UInt8) : Bool := Go.Kwd.letterB c || Go.Kwd.digitB c || c == 43
def canB (d : DayL) (y m : Int) : Bool := Go.Civil.rightB y m (if d.k = 1 then Go.Civil.longI y m else d.d)
def timeP (l : Bs) : Option AtL := (Go.Clk.parseD l).map fun x => ⟨x.1, (x.2 : Int)⟩
def dayP (l : Bs) : Option DayL := if (Go.Dfm.parseD l).2.2.2 = 0 then some ⟨(Go.Dfm.parseD l).1, (Go.Dfm.parseD l).2.1, (Go.Dfm.parseD l).2.2.1⟩ else none
def monthP (l : Bs) : Option Int := if Go.Kwd.monthD l = 0 then none else some (Go.Kwd.monthD l : Int)
def fromP (l : Bs) : Option Int := if (Go.Kwd.yearD (Go.Esc.parsed l)).2 = 0 then some (Go.Kwd.yearD (Go.Esc.parsed l)).1 else none
def toD (l : Bs) (fr : Int) : Int × Int := Go.Kwd.lastD (Go.Kwd.endD l) (Go.Kwd.yearD (Go.Esc.parsed l)) fr
def toP (l : Bs) (fr : Int) : Option Int := if (toD l fr).2 = 0 then some (toD l fr).1 else none
def letterP (l : Bs) : Option Bs := if l = [45] then some [] else if 1 ≤ l.length ∧ l.length ≤ 6 ∧ l.all letB = true then some l else none
/-- kind, save, name -/
def rulesP (l : Bs) : Option (Int × Int × Bs) := if Go.Kwd.ruleD l = true then some (2, 0, l) else if l = [45] then some (0, 0, []) else (Go.Clk.amtD l).map fun n => (1, n, [])
/-- n: marks that are left -/
def fmtM : Nat → Bs → Bool
  | _, [] => true
  | n, c :: r => if c = 37 then (match r.head? with
      | some d => d == 115 || d == 122
      | none => false) && decide (1 ≤ n) && fmtM (n - 1) r
    else if c = 47 then decide (1 ≤ n) && fmtM (n - 1) r else (letB c || c == 45) && fmtM n r
def formatB (l : Bs) : Bool := decide (1 ≤ l.length) && decide (l.length ≤ 20) && fmtM 1 l

/- what fields tell: a value, or the place of the wrong one and why -/
abbrev Er := Nat × Int
def req {α : Type} (o : Option α) (i : Nat) (k : Int) : Except Er α := match o with
  | some v => .ok v
  | none => .error (i, k)
def chk (b : Bool) (i : Nat) (k : Int) : Except Er Unit := if b = true then .ok () else .error (i, k)
def gt (f : List Bs) (i : Nat) : Bs := f.getD i []
def ruleP (f : List Bs) : Except Er RuleL :=
  (chk (Go.Kwd.ruleD (gt f 1)) 1 5).bind fun _ =>
  (req (fromP (gt f 2)) 2 8).bind fun y =>
  (req (toP (gt f 3) y) 3 8).bind fun z =>
  (chk (decide (gt f 4 = [45])) 4 3).bind fun _ =>
  (req (monthP (gt f 5)) 5 6).bind fun m =>
  (req (dayP (gt f 6)) 6 6).bind fun d =>
  (chk (canB d 2000 m) 6 6).bind fun _ =>
  (req (timeP (gt f 7)) 7 7).bind fun t =>
  (req (Go.Clk.amtD (gt f 8)) 8 7).bind fun s =>
  (req (letterP (gt f 9)) 9 15).bind fun l => .ok ⟨gt f 1, y, z, m, d, t, s, l⟩
def tilMonth (f : List Bs) (a : Nat) : Except Er Int := if a + 1 < f.length then req (monthP (gt f (a + 1))) (a + 1) 6 else .ok 1
def tilDay (f : List Bs) (a : Nat) (y m : Int) : Except Er DayL := if a + 2 < f.length then (req (dayP (gt f (a + 2))) (a + 2) 6).bind fun d => (chk (canB d y m) (a + 2) 6).bind fun _ => .ok d else .ok day1
def tilTime (f : List Bs) (a : Nat) : Except Er AtL := if a + 3 < f.length then req (timeP (gt f (a + 3))) (a + 3) 7 else .ok atZ
def untilP (f : List Bs) (a : Nat) : Except Er UntilL :=
  (req (fromP (gt f a)) a 8).bind fun y =>
  (tilMonth f a).bind fun m =>
  (tilDay f a y m).bind fun d =>
  (tilTime f a).bind fun t => .ok ⟨true, y, m, d, t⟩
def eraP (f : List Bs) (a : Nat) : Except Er EraL :=
  (req (Go.Clk.amtD (gt f a)) a 7).bind fun o =>
  (req (rulesP (gt f (a + 1))) (a + 1) 5).bind fun r =>
  (chk (formatB (gt f (a + 2))) (a + 2) 15).bind fun _ =>
  (if a + 3 < f.length then untilP f (a + 3) else .ok tilZ).bind fun u => .ok ⟨o, r.1, r.2.1, r.2.2, gt f (a + 2), u⟩
def linkP (f : List Bs) : Except Er Unit := (chk (Go.Kwd.zoneD (gt f 1)) 1 5).bind fun _ => chk (Go.Kwd.zoneD (gt f 2)) 2 5
abbrev FPair := Bs × Nat
def wrongL (k c : Int) : LineL := { lineZ with kind := 5, err := k, col := c }
def colOf (fs : List FPair) (i : Nat) : Int := ((fs.getD i ([], 0)).2 : Int)
def outL {α : Type} (fs : List FPair) (r : Except Er α) (g : α → LineL) : LineL := match r with
  | .ok v => g v
  | .error e => wrongL e.2 (colOf fs e.1)
def contB (l : Bs) : Bool := match l with
  | [] => false
  | c :: _ => c == 45 || Go.Kwd.digitB c
def lineP (fs : List FPair) : LineL :=
  if fs = [] then lineZ
  else if contB (gt (fs.map (·.1)) 0) = true then (if fs.length < 3 ∨ 7 < fs.length then wrongL 4 (colOf fs 0) else outL fs (eraP (fs.map (·.1)) 0) fun e => { lineZ with kind := 3, era := e })
  else if Go.Kwd.headD (gt (fs.map (·.1)) 0) = 1 then (if fs.length ≠ 10 then wrongL 4 (colOf fs 0) else outL fs (ruleP (fs.map (·.1))) fun r => { lineZ with kind := 1, rule := r })
  else if Go.Kwd.headD (gt (fs.map (·.1)) 0) = 2 then (if fs.length < 5 ∨ 9 < fs.length then wrongL 4 (colOf fs 0) else
    outL fs ((chk (Go.Kwd.zoneD (gt (fs.map (·.1)) 1)) 1 5).bind fun _ => eraP (fs.map (·.1)) 2) fun e => { lineZ with kind := 2, name := gt (fs.map (·.1)) 1, era := e })
  else if Go.Kwd.headD (gt (fs.map (·.1)) 0) = 3 then (if fs.length ≠ 3 then wrongL 4 (colOf fs 0) else outL fs (linkP (fs.map (·.1))) fun _ => { lineZ with kind := 4, target := gt (fs.map (·.1)) 1, name := gt (fs.map (·.1)) 2 })
  else wrongL 3 (colOf fs 0)

/- which lines are right, and their fields -/
def timeOk (t : AtL) : Prop := -604799 ≤ t.s ∧ t.s ≤ 604799 ∧ 0 ≤ t.k ∧ t.k ≤ 2
def amtOk (n : Int) : Prop := -86400 ≤ n ∧ n ≤ 86400
def dayOk (d : DayL) : Prop := Go.Dfm.rightP d.k d.d d.w
def letterOk (l : Bs) : Prop := l = [] ∨ (1 ≤ l.length ∧ l.length ≤ 6 ∧ l.all letB = true)
def ruleOk (r : RuleL) : Prop := Go.Kwd.ruleD r.name = true ∧ (1 ≤ r.fr ∧ r.fr ≤ 9999) ∧ (Go.Kwd.showToD r.fr r.to).2 = 0 ∧ (1 ≤ r.month ∧ r.month ≤ 12) ∧ dayOk r.on ∧ canB r.on 2000 r.month = true ∧ timeOk r.at_ ∧ amtOk r.save ∧ letterOk r.letter
def tilOk (u : UntilL) : Prop := u.has = true ∧ (1 ≤ u.year ∧ u.year ≤ 9999) ∧ (1 ≤ u.month ∧ u.month ≤ 12) ∧ dayOk u.on ∧ canB u.on u.year u.month = true ∧ timeOk u.at_
def rulesOk (k s : Int) (n : Bs) : Prop := (k = 0 ∧ s = 0 ∧ n = []) ∨ (k = 1 ∧ amtOk s ∧ n = []) ∨ (k = 2 ∧ s = 0 ∧ Go.Kwd.ruleD n = true)
def eraOk (e : EraL) : Prop := amtOk e.off ∧ rulesOk e.kind e.save e.rules ∧ formatB e.format = true ∧ (e.til = tilZ ∨ tilOk e.til)
def lineOk (l : LineL) : Prop := l = lineZ ∨ (l = { lineZ with kind := 1, rule := l.rule } ∧ ruleOk l.rule) ∨ (l = { lineZ with kind := 2, name := l.name, era := l.era } ∧ Go.Kwd.zoneD l.name = true ∧ eraOk l.era) ∨
  (l = { lineZ with kind := 3, era := l.era } ∧ eraOk l.era) ∨ (l = { lineZ with kind := 4, target := l.target, name := l.name } ∧ Go.Kwd.zoneD l.target = true ∧ Go.Kwd.zoneD l.name = true)
def ruleW : Bs := [82, 117, 108, 101]
def zoneW : Bs := [90, 111, 110, 101]
def linkW : Bs := [76, 105, 110, 107]
def timeT (t : AtL) : Bs := Go.Clk.textL t.s ++ Go.Clk.markL t.k.toNat
def dayT (d : DayL) : Bs := Go.Dfm.textD d.k d.d d.w
def letterT (l : Bs) : Bs := if l = [] then [45] else l
def rulesT (k s : Int) (n : Bs) : Bs := if k = 0 then [45] else if k = 1 then Go.Clk.textL s else n
def ruleT (r : RuleL) : List Bs := [ruleW, r.name, itoa r.fr, (Go.Kwd.showToD r.fr r.to).1, [45], Go.Kwd.showMonthD r.month, dayT r.on, timeT r.at_, Go.Clk.textL r.save, letterT r.letter]
def tilN (u : UntilL) : Nat := if u.at_ ≠ atZ then 4 else if u.on ≠ day1 then 3 else if u.month ≠ 1 then 2 else 1
def tilT (u : UntilL) : List Bs := [itoa u.year, Go.Kwd.showMonthD u.month, dayT u.on, timeT u.at_].take (tilN u)
def eraT (e : EraL) : List Bs := [Go.Clk.textL e.off, rulesT e.kind e.save e.rules, e.format] ++ (if e.til.has = true then tilT e.til else [])
def lineT (l : LineL) : List Bs := if l.kind = 1 then ruleT l.rule else if l.kind = 2 then zoneW :: l.name :: eraT l.era else if l.kind = 3 then eraT l.era else if l.kind = 4 then [linkW, l.target, l.name] else []
end Go.Lin
