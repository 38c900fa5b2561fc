namespace Go.Civil

/-- a year that 4 parts, but 100 does not, or 400 does -/
def leapB (y : Int) : Bool := y % 4 == 0 && (y % 100 != 0 || y % 400 == 0)
def leapI (y : Int) : Int := if leapB y then 1 else 0
/-- how many days a month has -/
def longI (y m : Int) : Int :=
  if m = 2 then 28 + leapI y else if m = 4 ∨ m = 6 ∨ m = 9 ∨ m = 11 then 30 else if 1 ≤ m ∧ m ≤ 12 then 31 else 0
def rightB (y m d : Int) : Bool := decide (-9999 ≤ y ∧ y ≤ 9999 ∧ 1 ≤ m ∧ m ≤ 12 ∧ 1 ≤ d ∧ d ≤ longI y m)
/-- days of an era ahead of its year r -/
def toY (r : Int) : Int := r * 365 + (r + 3) / 4 - (r + 99) / 100 + (r + 399) / 400
/-- the number of January 1 of a year -/
def begD (y : Int) : Int := (y / 400) * 146097 + toY (y % 400) - 719528
/-- days of the months 1 to k -/
def sumM (y : Int) : Nat → Int
  | 0 => 0
  | k + 1 => sumM y k + longI y ((k : Int) + 1)
/-- a right date's number -/
def numD (y m d : Int) : Int := begD y + sumM y (m - 1).toNat + (d - 1)
end Go.Civil
