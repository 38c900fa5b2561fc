namespace Go.Rope
abbrev Bs := List UInt8

/-- how many line Qes -/
def Qes (l : Bs) : Nat := l.count 10
def Qbf : Bs → List Bs
 | [] => [[]]
 | c :: r => if c = 10 then [] :: Qbf r else match Qbf r with
  | [] => [[c]]
  | x :: xs => (c :: x) :: xs
/-- from a on,below b -/
def cut (l : Bs) (a b : Nat) : Bs := (l.take b).drop a

theorem QpO (a b : Bs) : Qes (a ++ b) = Qes a + Qes b := List.count_append
theorem Qgz (r : Bs) : Qes (10 :: r) = Qes r + 1 := by simp [Qes]
theorem Qiw {c : UInt8} (h : c ≠ 10) (r : Bs) : Qes (c :: r) = Qes r := by simp [Qes,h]
/-! lines -/
theorem Qma (l : Bs) : Qbf l ≠ [] := by
 cases l with
 | nil => simp [Qbf]
 | cons c r =>
  unfold Qbf;split
  ·simp
  ·split <;> simp
/-- a line without a feed -/
theorem Qpd {x : Bs} (h : Qes x = 0) : Qbf x = [x] := by
 induction x with
 | nil => rfl
 | cons c r ih =>
  by_cases hc : c = 10
  ·subst hc; rw [Qgz] at h; omega
  ·rw [Qiw hc] at h;unfold Qbf;rw [if_neg hc,ih h]
theorem Qpe {x : Bs} (h : Qes x = 0) (r : Bs) : Qbf (x ++ 10 :: r) = x :: Qbf r := by
 induction x with
 | nil => simp [Qbf]
 | cons c y ih =>
  by_cases hc : c = 10
  ·subst hc; rw [Qgz] at h; omega
  ·rw [Qiw hc] at h;rw [List.cons_append]
   conv => lhs; unfold Qbf
   rw [if_neg hc,ih h]
theorem QgA (l : Bs) (a b : Nat) : cut l a b = (l.drop a).take (b - a) := by
 unfold cut;rw [List.drop_take]
theorem QdD {l : Bs} {a b : Nat} (h1 : a ≤ b) (h2 : b ≤ l.length) : (cut l a b).length = b - a := by
 unfold cut;rw [List.length_drop,List.length_take];omega
/-- how few bytes a height may have -/
def least : Nat → Nat
 | 0 => 1
 | 1 => 1
 | n + 2 => least n + least (n + 1)
end Go.Rope
