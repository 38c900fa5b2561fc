import Derived.Test.YtcjednmenbdmnaaDoorPure
namespace Go.Wire

/-- the digits of a length: were they stopped at a digit that may not be; the number; how many -/
def scanW : List Int → Int → Nat → Bool × Int × Nat
  | [], n, k => (false, n, k)
  | c :: r, n, k => if isDig c then (if k = 5 ∨ (0 < k ∧ n = 0) then (true, n, k) else scanW r (n * 10 + (c - 48)) (k + 1)) else (false, n, k)

/-- the document's answer for the begin of a stream: not whole 0, whole 1, none 2; up to where; the bytes -/
def firstW (b : List Int) : Nat × Nat × List Int :=
  match scanW b 0 0 with
  | (true, _, k) => (2, k, [])
  | (false, n, k) =>
    if k = b.length then (0, 0, [])
    else if k = 0 ∨ b.getD k 0 ≠ 58 ∨ 20000 < n then (2, k, [])
    else if b.length ≤ k + 1 + n.toNat then (0, 0, [])
    else if b.getD (k + 1 + n.toNat) 0 ≠ 10 then (2, k + 1 + n.toNat, [])
    else (1, k + 1 + n.toNat + 1, (b.drop (k + 1)).take n.toNat)

/-- from the place k on up to a line feed -/
def lineW (b : List Int) (k : Nat) : Nat := k + ((b.drop k).takeWhile (· ≠ 10)).length

def splitW (b : List Int) : List It × List Int :=
  if h : b = [] then ([], [])
  else if (firstW b).1 = 0 then ([], b)
  else if (firstW b).1 = 1 then (some (firstW b).2.2 :: (splitW (b.drop ((firstW b).2.1 - 1 + 1))).1, (splitW (b.drop ((firstW b).2.1 - 1 + 1))).2)
  else if b.length ≤ lineW b (firstW b).2.1 then ([none], [])
  else (none :: (splitW (b.drop (lineW b (firstW b).2.1 + 1))).1, (splitW (b.drop (lineW b (firstW b).2.1 + 1))).2)
termination_by b.length
decreasing_by
  all_goals
    have : 0 < b.length := List.length_pos_iff.2 h
    simp only [List.length_drop]
    omega

/-- what holds of a scan -/
theorem scanW_spec (r : List Int) (n : Int) (k : Nat) (hn0 : 0 ≤ n) (hn : n < 10 ^ k) (hk : k ≤ 5) :
    k ≤ (scanW r n k).2.2 ∧ (scanW r n k).2.2 ≤ k + r.length ∧ (scanW r n k).2.2 ≤ 5 ∧ 0 ≤ (scanW r n k).2.1 ∧ (scanW r n k).2.1 < 10 ^ (scanW r n k).2.2 := by
  induction r generalizing n k with
  | nil => simp [scanW]; omega
  | cons c r ih =>
    unfold scanW
    by_cases hd : isDig c = true
    · rw [if_pos hd]
      by_cases hs : k = 5 ∨ (0 < k ∧ n = 0)
      · rw [if_pos hs]
        simp only [List.length_cons]
        omega
      · rw [if_neg hs]
        rw [isDig_iff] at hd
        have := ih (n * 10 + (c - 48)) (k + 1) (by omega) (pow_step hn hd.2) (by omega)
        simp only [List.length_cons]
        omega
    · rw [if_neg hd]
      simp only [List.length_cons]
      omega

theorem firstW_whole (b : List Int) (h : (firstW b).1 = 1) : 1 ≤ (firstW b).2.1 ∧ (firstW b).2.1 ≤ b.length := by
  unfold firstW at *
  grind
theorem firstW_bad (b : List Int) (h : (firstW b).1 = 2) : (firstW b).2.1 ≤ b.length := by
  have hs := scanW_spec b 0 0 (by omega) (by simp) (by omega)
  unfold firstW at *
  grind
theorem firstW_le (b : List Int) : (firstW b).1 ≤ 2 := by
  unfold firstW
  grind
theorem lineW_end (b : List Int) (k : Nat) (h : b.length ≤ k) : lineW b k = k := by
  unfold lineW
  rw [List.drop_of_length_le h]
  simp
theorem lineW_hit (b : List Int) (k : Nat) (h : b[k]? = some 10) : lineW b k = k := by
  unfold lineW
  obtain ⟨hl, he⟩ := List.getElem?_eq_some_iff.1 h
  rw [List.drop_eq_getElem_cons hl, he]
  simp
theorem lineW_miss (b : List Int) (k : Nat) (c : Int) (h : b[k]? = some c) (hc : c ≠ 10) : lineW b k = lineW b (k + 1) := by
  unfold lineW
  obtain ⟨hl, he⟩ := List.getElem?_eq_some_iff.1 h
  rw [List.drop_eq_getElem_cons hl, he, List.takeWhile_cons]
  simp [hc]
  omega
theorem splitW_nil : splitW [] = ([], []) := by
  rw [splitW]
  simp
theorem splitW_left (b : List Int) (hb : b ≠ []) (h : (firstW b).1 = 0) : splitW b = ([], b) := by
  rw [splitW, dif_neg hb, if_pos h]
theorem splitW_whole (b : List Int) (hb : b ≠ []) (h : (firstW b).1 = 1) : splitW b = (some (firstW b).2.2 :: (splitW (b.drop (firstW b).2.1)).1, (splitW (b.drop (firstW b).2.1)).2) := by
  have h1 := (firstW_whole b h).1
  have e : (firstW b).2.1 - 1 + 1 = (firstW b).2.1 := by omega
  rw [splitW, dif_neg hb, if_neg (by omega), if_pos h, e]
theorem splitW_bad_end (b : List Int) (hb : b ≠ []) (h : (firstW b).1 = 2) (hl : b.length ≤ lineW b (firstW b).2.1) : splitW b = ([none], []) := by
  rw [splitW, dif_neg hb, if_neg (by omega), if_neg (by omega), if_pos hl]
theorem splitW_bad (b : List Int) (hb : b ≠ []) (h : (firstW b).1 = 2) (hl : lineW b (firstW b).2.1 < b.length) :
    splitW b = (none :: (splitW (b.drop (lineW b (firstW b).2.1 + 1))).1, (splitW (b.drop (lineW b (firstW b).2.1 + 1))).2) := by
  rw [splitW, dif_neg hb, if_neg (by omega), if_neg (by omega), if_neg (by omega)]
end Go.Wire
