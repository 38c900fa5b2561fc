namespace Go.Lxr
abbrev Bs := List UInt8

/- Show -/
end Go.Lxr
namespace Go.Kwd
abbrev Bs := List UInt8

/-- a letter of ASCII, small -/
def lowB (c : UInt8) : UInt8 := if 65 ≤ c.toNat ∧ c.toNat ≤ 90 then c + 32 else c
def small (l : Bs) : Bs := l.map lowB
def preB : Bs → Bs → Bool
  | [], _ => true
  | _ :: _, [] => false
  | a :: l, b :: m => a == b && preB l m
/-- the place of the word that t (small) stands for, from 1 on; 0: none; i: places gone by, at and n: the last begun one and how many -/
def findL (t : Bs) : Nat → Nat → Nat → List Bs → Nat
  | _, at_, n, [] => if n = 1 then at_ else 0
  | i, at_, n, w :: ws => if t.isEmpty || !preB t w then findL t (i + 1) at_ n ws else if t.length = w.length then i + 1 else findL t (i + 1) (i + 1) (n + 1) ws
def findD (s : Bs) (ws : List Bs) : Nat := findL (small s) 0 0 0 ws
def months : List Bs := [[106, 97, 110, 117, 97, 114, 121], [102, 101, 98, 114, 117, 97, 114, 121], [109, 97, 114, 99, 104], [97, 112, 114, 105, 108], [109, 97, 121], [106, 117, 110, 101], [106, 117, 108, 121],
  [97, 117, 103, 117, 115, 116], [115, 101, 112, 116, 101, 109, 98, 101, 114], [111, 99, 116, 111, 98, 101, 114], [110, 111, 118, 101, 109, 98, 101, 114], [100, 101, 99, 101, 109, 98, 101, 114]]
def monthD (s : Bs) : Nat := findD s months
def showMonthD (m : Int) : Bs := if 1 ≤ m ∧ m ≤ 12 then match months[(m - 1).toNat]? with
  | some (c :: r) => (c - 32) :: r.take 2
  | _ => []
  else []
/-- what the law on longer words asks: the place, the bytes that are left, with the first one great or not -/
def cutM (m n : Nat) (great : Bool) : Bs := match months[m - 1]? with
  | some w => match w.take n with
    | c :: r => (if great then c - 32 else c) :: r
    | [] => []
  | none => []
theorem whole : ∀ (m : Fin 12), monthD (cutM (m.val + 1) 9 false) = m.val + 1 ∧ monthD (cutM (m.val + 1) 3 false) = m.val + 1 ∧ monthD (showMonthD ((m.val + 1 : Nat) : Int)) = m.val + 1 := by decide +kernel
/- names -/
def letterB (c : UInt8) : Bool := (decide (97 ≤ c.toNat) && decide (c.toNat ≤ 122)) || (decide (65 ≤ c.toNat) && decide (c.toNat ≤ 90))
def digitB (c : UInt8) : Bool := decide (48 ≤ c.toNat) && decide (c.toNat ≤ 57)
def ruleB (c : UInt8) : Bool := letterB c || digitB c || c == 45 || c == 95
def ruleM : Bs → Bool
  | [] => false
  | c :: r => (letterB c || c == 95) && r.all ruleB
def ruleD (l : Bs) : Bool := decide (1 ≤ l.length) && decide (l.length ≤ 30) && ruleM l
/- years -/
end Go.Kwd
