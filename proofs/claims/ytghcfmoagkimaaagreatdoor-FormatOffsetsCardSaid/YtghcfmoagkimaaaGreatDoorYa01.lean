namespace Go.Civil

/-- a year that 4 parts, but 100 does not, or 400 does -/
def leapB (y : Int) : Bool := y % 4 == 0 && (y % 100 != 0 || y % 400 == 0)
theorem leapB_iff {y : Int} : leapB y = true ↔ y % 4 = 0 ∧ (y % 100 ≠ 0 ∨ y % 400 = 0) := by simp [leapB]
def leapI (y : Int) : Int := if leapB y then 1 else 0
theorem leapI_le (y : Int) : 0 ≤ leapI y ∧ leapI y ≤ 1 := by unfold leapI; split <;> omega
/-- how many days a month has -/
def longI (y m : Int) : Int :=
  if m = 2 then 28 + leapI y else if m = 4 ∨ m = 6 ∨ m = 9 ∨ m = 11 then 30 else if 1 ≤ m ∧ m ≤ 12 then 31 else 0
theorem longI_le (y m : Int) : 0 ≤ longI y m ∧ longI y m ≤ 31 := by
  have := leapI_le y
  unfold longI; repeat' split
  all_goals omega
theorem longI_ge {y m : Int} (h : 1 ≤ m ∧ m ≤ 12) : 28 ≤ longI y m := by
  have := leapI_le y
  unfold longI; repeat' split
  all_goals omega
def rightB (y m d : Int) : Bool := decide (-9999 ≤ y ∧ y ≤ 9999 ∧ 1 ≤ m ∧ m ≤ 12 ∧ 1 ≤ d ∧ d ≤ longI y m)
theorem rightB_iff {y m d : Int} : rightB y m d = true ↔ -9999 ≤ y ∧ y ≤ 9999 ∧ 1 ≤ m ∧ m ≤ 12 ∧ 1 ≤ d ∧ d ≤ longI y m := by simp [rightB]
theorem rightB_no {y m d : Int} : rightB y m d = false ↔ ¬ (-9999 ≤ y ∧ y ≤ 9999 ∧ 1 ≤ m ∧ m ≤ 12 ∧ 1 ≤ d ∧ d ≤ longI y m) := by simp only [rightB, decide_eq_false_iff_not]
/-- days of an era ahead of its year r -/
def toY (r : Int) : Int := r * 365 + (r + 3) / 4 - (r + 99) / 100 + (r + 399) / 400
/-- the number of January 1 of a year -/
def begD (y : Int) : Int := (y / 400) * 146097 + toY (y % 400) - 719528
theorem begD_succ (y : Int) : begD (y + 1) = begD y + 365 + leapI y := by
  unfold leapI
  split
  · rename_i h
    rw [leapB_iff] at h
    unfold begD toY
    omega
  · rename_i h
    rw [leapB_iff] at h
    unfold begD toY
    omega
theorem begD_add (y : Int) : begD (y + 400) = begD y + 146097 := by unfold begD toY; omega
theorem begD_sub (y : Int) : begD (y - 400) = begD y - 146097 := by unfold begD toY; omega
theorem begD_0 : begD 1970 = 0 := by decide
theorem begD_first : begD (-9999) = -4371587 := by decide
theorem begD_end : begD 10000 = 2932897 := by decide
theorem begD_mono {y z : Int} (h : y < z) : begD (y + 1) ≤ begD z := by
  obtain ⟨k, rfl⟩ : ∃ k : Nat, z = y + 1 + k := ⟨(z - (y + 1)).toNat, by omega⟩
  clear h
  induction k with
  | zero => simp
  | succ k ih =>
    have := begD_succ (y + 1 + k)
    have := leapI_le (y + 1 + k)
    rw [show y + 1 + ((k + 1 : Nat) : Int) = y + 1 + k + 1 by omega]
    omega
/-- at least 365 days a year, at most 366 -/
theorem begD_far {y z : Int} (h : y ≤ z) : begD y + 365 * (z - y) ≤ begD z ∧ begD z ≤ begD y + 366 * (z - y) := by
  obtain ⟨k, rfl⟩ : ∃ k : Nat, z = y + k := ⟨(z - y).toNat, by omega⟩
  clear h
  induction k with
  | zero => simp
  | succ k ih =>
    have := begD_succ (y + k)
    have := leapI_le (y + k)
    rw [show y + ((k + 1 : Nat) : Int) = y + k + 1 by omega]
    omega
theorem begD_range {y : Int} (h : -9999 ≤ y ∧ y ≤ 10000) : -4371587 ≤ begD y ∧ begD y ≤ 2932897 := by
  have h1 := begD_far h.1
  have h2 := begD_far h.2
  rw [begD_first] at h1
  rw [begD_end] at h2
  omega
theorem begD_wide {y : Int} (h : -10400 ≤ y ∧ y ≤ 10000) : -4520000 ≤ begD y ∧ begD y ≤ 2932897 := by
  have h1 := begD_far h.1
  have h2 := begD_far h.2
  rw [show begD (-10400) = -4518050 by decide] at h1
  rw [begD_end] at h2
  omega
theorem begD_one {y z n : Int} (h1 : begD y ≤ n) (h2 : n < begD (y + 1)) (h3 : begD z ≤ n) (h4 : n < begD (z + 1)) : y = z := by
  rcases Int.lt_trichotomy y z with h | h | h
  · have := begD_mono h; omega
  · exact h
  · have := begD_mono h; omega
/-- days of the months 1 to k -/
def sumM (y : Int) : Nat → Int
  | 0 => 0
  | k + 1 => sumM y k + longI y ((k : Int) + 1)
theorem sumM_all (y : Int) : sumM y 12 = 365 + leapI y := by
  simp [sumM, longI]
  omega
theorem sumM_mono {y : Int} {j k : Nat} (h : j ≤ k) : sumM y j ≤ sumM y k := by
  induction h with
  | refl => exact Int.le_refl _
  | @step m _ ih => have := (longI_le y ((m : Int) + 1)).1; exact Int.le_trans ih (by show _ ≤ sumM y m + longI y _; omega)
theorem sumM_pos {y : Int} (k : Nat) : 0 ≤ sumM y k := sumM_mono (j := 0) (Nat.zero_le k)
theorem sumM_one {y r : Int} {j k : Nat} (h1 : sumM y j ≤ r) (h2 : r < sumM y (j + 1)) (h3 : sumM y k ≤ r) (h4 : r < sumM y (k + 1)) : j = k := by
  rcases Nat.lt_trichotomy j k with h | h | h
  · have := sumM_mono (y := y) (show j + 1 ≤ k by omega); omega
  · exact h
  · have := sumM_mono (y := y) (show k + 1 ≤ j by omega); omega
/-- a right date's number -/
def numD (y m d : Int) : Int := begD y + sumM y (m - 1).toNat + (d - 1)
theorem numD_in {y m d : Int} (h : rightB y m d = true) : begD y ≤ numD y m d ∧ numD y m d < begD (y + 1) ∧ sumM y (m - 1).toNat ≤ numD y m d - begD y ∧ numD y m d - begD y < sumM y ((m - 1).toNat + 1) := by
  rw [rightB_iff] at h
  have h1 := sumM_pos (y := y) (m - 1).toNat
  have h2 := sumM_mono (y := y) (show (m - 1).toNat + 1 ≤ 12 by omega)
  rw [sumM_all] at h2
  have h3 := begD_succ y
  have h4 : sumM y ((m - 1).toNat + 1) = sumM y (m - 1).toNat + longI y m := by
    show _ + longI y _ = _
    rw [show (((m - 1).toNat : Nat) : Int) + 1 = m by omega]
  unfold numD
  omega
theorem numD_one {y m d y' m' d' : Int} (h : rightB y m d = true) (h' : rightB y' m' d' = true) (e : numD y m d = numD y' m' d') : y = y' ∧ m = m' ∧ d = d' := by
  obtain ⟨a1, a2, a3, a4⟩ := numD_in h
  obtain ⟨b1, b2, b3, b4⟩ := numD_in h'
  obtain rfl : y = y' := begD_one a1 a2 (e ▸ b1) (e ▸ b2)
  have hm := sumM_one a3 a4 (e ▸ b3) (e ▸ b4)
  rw [rightB_iff] at h h'
  obtain rfl : m = m' := by omega
  refine ⟨rfl, rfl, ?_⟩
  unfold numD at e
  omega
theorem numD_range {y m d : Int} (h : rightB y m d = true) : -4371587 ≤ numD y m d ∧ numD y m d < 2932897 := by
  obtain ⟨a1, a2, -, -⟩ := numD_in h
  rw [rightB_iff] at h
  have h1 := (begD_range (y := y) (by omega)).1
  have h2 := (begD_range (y := y + 1) (by omega)).2
  omega
/-- the year in its era that holds a day of the era -/
theorem era_year {day : Int} (h : 0 ≤ day ∧ day < 146097) {r : Int} (hr : r = if day < toY (day / 365) then day / 365 - 1 else day / 365) :
    0 ≤ r ∧ r < 400 ∧ toY r ≤ day ∧ day < toY (r + 1) ∧ day / 365 ≤ 400 := by
  obtain ⟨q, hq⟩ : ∃ q, day / 365 = q := ⟨_, rfl⟩
  have q1 : q * 365 ≤ day ∧ day ≤ q * 365 + 364 := by omega
  rw [hq] at hr ⊢
  clear hq
  subst hr
  split
  · rename_i h1
    rw [show q - 1 + 1 = q by omega]
    unfold toY at *
    omega
  · rename_i h1
    unfold toY at *
    omega
theorem begD_era (e r : Int) (h : 0 ≤ r ∧ r < 400) : begD (e * 400 + r) = e * 146097 + toY r - 719528 := by
  unfold begD
  rw [show (e * 400 + r) / 400 = e by omega, show (e * 400 + r) % 400 = r by omega]
theorem begD_era_next (e r : Int) (h : 0 ≤ r ∧ r < 400) : begD (e * 400 + r + 1) = e * 146097 + toY (r + 1) - 719528 := by
  rcases Int.lt_or_le r 399 with h1 | h1
  · rw [show e * 400 + r + 1 = e * 400 + (r + 1) by omega, begD_era e (r + 1) (by omega)]
  · obtain rfl : r = 399 := by omega
    rw [show e * 400 + 399 + 1 = (e + 1) * 400 + 0 by omega, begD_era (e + 1) 0 (by omega)]
    unfold toY
    omega
/-- the next day's date -/
theorem sumM_13 (y : Int) : begD y + sumM y 12 = begD (y + 1) := by rw [sumM_all, begD_succ]; omega
end Go.Civil
