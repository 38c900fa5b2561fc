namespace Go.Rope
abbrev Bs := List UInt8

def linesL : Bs → List Bs
  | [] => [[]]
  | c :: r => if c = 10 then [] :: linesL r else match linesL r with
    | [] => [[c]]
    | x :: xs => (c :: x) :: xs
/-- from a on, below b -/
def cut (l : Bs) (a b : Nat) : Bs := (l.take b).drop a

/-! lines -/
theorem lines_ne (l : Bs) : linesL l ≠ [] := by
  cases l with
  | nil => simp [linesL]
  | cons c r =>
    unfold linesL
    split
    · simp
    · split <;> simp
theorem cut_len {l : Bs} {a b : Nat} (h1 : a ≤ b) (h2 : b ≤ l.length) : (cut l a b).length = b - a := by
  unfold cut
  rw [List.length_drop, List.length_take]
  omega
end Go.Rope
