import Derived.Below
namespace Go.Wire

/-- what a splitter holds -/
structure St where
  st : Nat
  held : List Int
  size : Int
  left : Int

def isDig (c : Int) : Bool := decide (48 ≤ c) && decide (c ≤ 57)
def failSt (c : Int) : Nat := if c = 10 then 0 else 5
def fail (σ : St) (c : Int) : St × Nat := ({ σ with held := [], st := failSt c }, 2)
def colon (σ : St) (c : Int) : St × Nat :=
  if 20000 < σ.size then fail σ c else ({ σ with held := σ.held ++ [c], left := σ.size, st := if σ.size = 0 then 4 else 3 }, 0)
def stepW (σ : St) (c : Int) : St × Nat :=
  if σ.st = 0 then (if isDig c then ({ σ with held := σ.held ++ [c], size := c - 48, st := if c = 48 then 1 else 2 }, 0) else fail σ c)
  else if σ.st = 1 then (if c = 58 then colon σ c else fail σ c)
  else if σ.st = 2 then (if c = 58 then colon σ c else if isDig c = true ∧ σ.held.length ≠ 5 then ({ σ with held := σ.held ++ [c], size := σ.size * 10 + (c - 48) }, 0) else fail σ c)
  else if σ.st = 3 then ({ σ with held := σ.held ++ [c], left := σ.left - 1, st := if σ.left - 1 = 0 then 4 else 3 }, 0)
  else if σ.st = 4 then (if c = 10 then ({ σ with st := 0 }, 1) else fail σ c)
  else ({ σ with st := if c = 10 then 0 else 5 }, 0)

/-- the bounds that hold of every splitter -/
structure Inv (σ : St) : Prop where
  st : σ.st ≤ 5
  held : σ.held.length ≤ 30000
  size0 : 0 ≤ σ.size
  size : σ.size ≤ 99999
  left0 : 0 ≤ σ.left
  left : σ.left ≤ 20000
  s0 : σ.st = 0 ∨ σ.st = 5 → σ.held = []
  s1 : σ.st = 1 → σ.held.length = 1 ∧ σ.size = 0
  s2 : σ.st = 2 → 1 ≤ σ.held.length ∧ σ.held.length ≤ 5 ∧ σ.size < 10 ^ σ.held.length
  s3 : σ.st = 3 → 1 ≤ σ.left ∧ σ.left ≤ σ.size ∧ σ.size ≤ 20000 ∧ (σ.held.length : Int) ≤ 6 + σ.size - σ.left ∧ σ.size - σ.left + 2 ≤ σ.held.length
  s4 : σ.st = 4 → σ.size ≤ 20000 ∧ σ.size + 2 ≤ σ.held.length ∧ (σ.held.length : Int) ≤ 6 + σ.size

/-- an item: none: a bad place; else a frame's bytes -/
abbrev It := Option (List Int)
/-- what is told of one byte -/
def outW (σ : St) (c : Int) : St × List It :=
  if (stepW σ c).2 = 1 then ({ (stepW σ c).1 with held := [] }, [some ((stepW σ c).1.held.drop ((stepW σ c).1.held.length - (stepW σ c).1.size.toNat))])
  else if (stepW σ c).2 = 2 then ((stepW σ c).1, [none])
  else ((stepW σ c).1, [])
def runW : St → List Int → St × List It
  | σ, [] => (σ, [])
  | σ, c :: l => ((runW (outW σ c).1 l).1, (outW σ c).2 ++ (runW (outW σ c).1 l).2)

theorem runW_append (σ : St) (a b : List Int) : runW σ (a ++ b) = ((runW (runW σ a).1 b).1, (runW σ a).2 ++ (runW (runW σ a).1 b).2) := by
  induction a generalizing σ with
  | nil => simp [runW]
  | cons c a ih => simp [runW, ih]
theorem runW_snoc (σ : St) (a : List Int) (c : Int) : runW σ (a ++ [c]) = ((outW (runW σ a).1 c).1, (runW σ a).2 ++ (outW (runW σ a).1 c).2) := by
  rw [runW_append]
  simp [runW]

theorem isDig_iff {c : Int} : isDig c = true ↔ 48 ≤ c ∧ c ≤ 57 := by simp [isDig]

theorem Inv.fail {σ : St} (i : Inv σ) (c : Int) : Inv (fail σ c).1 := by
  have h := i.size0
  have h1 := i.size
  have h2 := i.left0
  have h3 := i.left
  unfold Wire.fail failSt
  constructor <;> simp <;> (try split) <;> (try simp) <;> (try omega)
theorem Inv.colon {σ : St} (i : Inv σ) (c : Int) (hl : 1 ≤ σ.held.length) (hl : σ.held.length ≤ 5) : Inv (colon σ c).1 := by
  unfold Wire.colon
  split
  · exact i.fail c
  · have h := i.size0
    have h1 := i.size
    have h2 := i.left0
    have h3 := i.left
    constructor <;> simp <;> (try split) <;> (try simp) <;> (try omega)
theorem pow_step {n : Nat} {s c : Int} (h : s < 10 ^ n) (hc : c ≤ 57) : s * 10 + (c - 48) < 10 ^ (n + 1) := by
  rw [Int.pow_succ]
  omega
theorem pow5 {n : Nat} {s : Int} (h : s < 10 ^ n) (hn : n ≤ 5) : s ≤ 99999 := by
  have h1 : n = 0 ∨ n = 1 ∨ n = 2 ∨ n = 3 ∨ n = 4 ∨ n = 5 := by omega
  rcases h1 with rfl | rfl | rfl | rfl | rfl | rfl <;> simp at h <;> omega

theorem Inv.step {σ : St} (i : Inv σ) {c : Int} (c0 : 0 ≤ c) (c1 : c ≤ 255) (hg : (stepW σ c).2 ≠ 1) : Inv (stepW σ c).1 := by
  have h := i.size0
  have h1 := i.size
  have h2 := i.left0
  have h3 := i.left
  have hh := i.held
  unfold stepW at hg ⊢
  by_cases e0 : σ.st = 0
  · rw [if_pos e0]
    have he := i.s0 (.inl e0)
    by_cases hd : isDig c = true
    · rw [if_pos hd]
      rw [isDig_iff] at hd
      constructor <;> simp [he] <;> (try split) <;> (try simp) <;> (try omega)
    · rw [if_neg hd]
      exact i.fail c
  · rw [if_neg e0] at hg ⊢
    by_cases e1 : σ.st = 1
    · rw [if_pos e1] at hg ⊢
      have he := i.s1 e1
      split
      · exact i.colon c (by omega) (by omega)
      · exact i.fail c
    · rw [if_neg e1] at hg ⊢
      by_cases e2 : σ.st = 2
      · rw [if_pos e2] at hg ⊢
        obtain ⟨ha, hb, hc⟩ := i.s2 e2
        split
        · exact i.colon c (by omega) (by omega)
        · split
          · rename_i hd
            obtain ⟨hd, hl⟩ := hd
            rw [isDig_iff] at hd
            have hp := pow_step hc hd.2
            have hp5 := pow5 hp (by omega)
            constructor <;> simp [e2] <;> (try refine ⟨?_, hp⟩) <;> omega
          · exact i.fail c
      · rw [if_neg e2] at hg ⊢
        by_cases e3 : σ.st = 3
        · rw [if_pos e3] at hg ⊢
          obtain ⟨ha, hb, hc, hd, he⟩ := i.s3 e3
          constructor <;> simp <;> (try split) <;> (try simp) <;> (try omega)
        · rw [if_neg e3] at hg ⊢
          by_cases e4 : σ.st = 4
          · rw [if_pos e4] at hg ⊢
            split
            · rename_i hc
              rw [if_pos hc] at hg
              simp at hg
            · exact i.fail c
          · rw [if_neg e4]
            have e5 : σ.st = 5 := by have := i.st; omega
            have he := i.s0 (.inr e5)
            constructor <;> simp [he] <;> (try split) <;> (try simp) <;> (try omega)

theorem whole_iff {σ : St} {c : Int} (h : (stepW σ c).2 = 1) : σ.st = 4 ∧ c = 10 ∧ (stepW σ c).1 = { σ with st := 0 } := by
  unfold stepW Wire.colon Wire.fail at *
  grind
theorem Inv.out {σ : St} (i : Inv σ) {c : Int} (c0 : 0 ≤ c) (c1 : c ≤ 255) : Inv (outW σ c).1 := by
  unfold outW
  by_cases h : (stepW σ c).2 = 1
  · rw [if_pos h]
    obtain ⟨h4, hc, hs⟩ := whole_iff h
    rw [hs]
    have h := i.size0
    have h1 := i.size
    have h2 := i.left0
    have h3 := i.left
    constructor <;> simp <;> omega
  · rw [if_neg h]
    have := i.step c0 c1 h
    split <;> exact this

theorem stepW_le (σ : St) (c : Int) : (stepW σ c).2 ≤ 2 := by
  unfold stepW Wire.colon Wire.fail
  grind
theorem outW_len (σ : St) (c : Int) : (outW σ c).2.length ≤ 1 := by
  unfold outW
  split
  · simp
  · split <;> simp
theorem runW_len (σ : St) (l : List Int) : (runW σ l).2.length ≤ l.length := by
  induction l generalizing σ with
  | nil => simp [runW]
  | cons c l ih =>
    have h1 := outW_len σ c
    have h2 := ih (outW σ c).1
    simp only [runW, List.length_append, List.length_cons]
    omega
theorem Inv.run {σ : St} (i : Inv σ) (l : List Int) (h : ∀ x ∈ l, 0 ≤ x ∧ x ≤ 255) : Inv (runW σ l).1 := by
  induction l generalizing σ with
  | nil => exact i
  | cons c l ih =>
    have hc := h c (by simp)
    exact ih (i.out hc.1 hc.2) fun x hx => h x (by simp [hx])
end Go.Wire
