import Derived.Test.YtcjednmenbdmnaaDoorFrm
import Derived.Test.YtcjednmenbdmnaaDoorEqv
namespace Go.Proofs.YtcjednmenbdmnaaDoor
open Go.RowKit Go.Mem Go.Wire

theorem digW_small {n : Nat} (h : n < 10) : digW n = [(48 : Int) + n] := by
  unfold digW
  rw [Lib.decDigits_one h]
  simp
  omega
theorem digW_big {n : Nat} (h : ¬ n < 10) : digW n = digW (n / 10) ++ [(48 : Int) + (n % 10 : Nat)] := by
  unfold digW
  rw [Lib.decDigits, dif_neg h]
  simp
  omega
theorem digW_bytes (k : Nat) : ∀ n, n < 10 ^ (k + 1) → ∀ x ∈ digW n, 48 ≤ x ∧ x ≤ 57 := by
  induction k with
  | zero =>
    intro n h x hx
    have h' : n < 10 := by simpa using h
    rw [digW_small h'] at hx
    simp at hx
    omega
  | succ k ih =>
    intro n h x hx
    by_cases hs : n < 10
    · rw [digW_small hs] at hx
      simp at hx
      omega
    · rw [digW_big hs, List.mem_append] at hx
      rcases hx with hx | hx
      · exact ih (n / 10) (by rw [Nat.pow_succ] at h; omega) x hx
      · simp at hx
        omega

/-- a length's digits -/
theorem dig_phase (k : Nat) (hk : k ≤ 4) : ∀ n, n < 10 ^ (k + 1) → ∀ σ, Begin σ → ∃ σ', runW σ (digW n) = (σ', []) ∧ Phase (digW n).length n σ' ∧ σ'.held = digW n ∧ 1 ≤ (digW n).length ∧ (digW n).length ≤ k + 1 := by
  induction k with
  | zero =>
    intro n h σ hs
    have h' : n < 10 := by simpa using h
    rw [digW_small h']
    have hd : isDig (48 + (n : Int)) = true := by rw [isDig_iff]; omega
    refine ⟨{ σ with held := σ.held ++ [48 + (n : Int)], size := 48 + (n : Int) - 48, st := if 48 + (n : Int) = 48 then 1 else 2 }, ?_, ⟨by simp [hs.2], .inr ⟨by simp, by simp; omega, ?_⟩⟩, by simp [hs.2], by simp, by simp⟩
    · simp [runW, outW, stepW, hs.1, hd]
    · by_cases h0 : n = 0
      · exact .inl ⟨by omega, by simp [h0]⟩
      · exact .inr ⟨by omega, by simp; omega⟩
  | succ k ih =>
    intro n h σ hs
    by_cases hsm : n < 10
    · have h1 := ih (by omega)
      rw [digW_small hsm]
      have hd : isDig (48 + (n : Int)) = true := by rw [isDig_iff]; omega
      refine ⟨{ σ with held := σ.held ++ [48 + (n : Int)], size := 48 + (n : Int) - 48, st := if 48 + (n : Int) = 48 then 1 else 2 }, ?_, ⟨by simp [hs.2], .inr ⟨by simp, by simp; omega, ?_⟩⟩, by simp [hs.2], by simp, by simp⟩
      · simp [runW, outW, stepW, hs.1, hd]
      · by_cases h0 : n = 0
        · exact .inl ⟨by omega, by simp [h0]⟩
        · exact .inr ⟨by omega, by simp; omega⟩
    · rw [digW_big hsm]
      obtain ⟨σ1, h1, ⟨hl, hp⟩, h3, h4, h5⟩ := ih (by omega) (n / 10) (by rw [Nat.pow_succ] at h; omega) σ hs
      have h2 : σ1.st = 2 ∧ σ1.size = (n / 10 : Nat) := by
        rcases hp with hp | ⟨_, hz, hp⟩
        · omega
        · rcases hp with hp | hp
          · omega
          · exact ⟨hp.2, hz⟩
      obtain ⟨c, hc⟩ : ∃ c : Int, c = 48 + ((n % 10 : Nat) : Int) := ⟨_, rfl⟩
      have hd : isDig c = true := by rw [isDig_iff]; omega
      have h58 : c ≠ 58 := by omega
      have h5' : σ1.held.length ≠ 5 := by omega
      have ho : outW σ1 c = ({ σ1 with held := σ1.held ++ [c], size := σ1.size * 10 + (c - 48) }, []) := by
        simp [outW, stepW, h2.1, h58, hd, h5']
      rw [← hc]
      refine ⟨_, by rw [runW_snoc, h1, ho]; rfl, ⟨by simp [hl], .inr ⟨by simp, ?_, ?_⟩⟩, by simp [h3], by simp, by simp; omega⟩
      · simp only [h2.2]
        omega
      · exact .inr ⟨by omega, h2.1⟩

/-- a frame is one item -/
theorem frame_run (bs : List Int) (hn : bs.length ≤ 20000) (σ : St) (hs : Begin σ) : ∃ σ', runW σ (frameW bs) = (σ', [some bs]) ∧ Begin σ' := by
  obtain ⟨σ1, h1, ⟨hl, hp⟩, h3, h4, h5⟩ := dig_phase 4 (by omega) bs.length (by omega) σ hs
  have hsz : σ1.size = (bs.length : Nat) := by
    rcases hp with hp | ⟨_, hz, _⟩
    · omega
    · exact hz
  have hm : ¬ (20000 : Int) < (bs.length : Nat) := by omega
  have hcol : outW σ1 58 = ({ σ1 with held := σ1.held ++ [58], left := (bs.length : Nat), st := if ((bs.length : Nat) : Int) = 0 then 4 else 3 }, []) := by
    have : stepW σ1 58 = ({ σ1 with held := σ1.held ++ [58], left := (bs.length : Nat), st := if ((bs.length : Nat) : Int) = 0 then 4 else 3 }, 0) := by
      rcases hp with h | ⟨_, _, ⟨hz, h1'⟩ | ⟨hz, h2'⟩⟩
      · omega
      · simp only [stepW, h1', colon, hsz, if_neg hm]
        simp
      · simp only [stepW, h2', colon, hsz, if_neg hm]
        simp
    simp [outW, this]
  obtain ⟨σ3, e1, e2, e3, e4, e5⟩ := body_run bs { σ1 with held := σ1.held ++ [58], left := (bs.length : Nat), st := if ((bs.length : Nat) : Int) = 0 then 4 else 3 }
    (by
      by_cases hz : ((bs.length : Nat) : Int) = 0
      · exact .inr ⟨by simp only; rw [if_pos hz], hz⟩
      · exact .inl ⟨by simp only; rw [if_neg hz], by simp only; omega⟩) (by simp)
  simp only at e2 e3 e4
  have h34 : σ3.st = 4 := by
    rcases e5 with h | h
    · omega
    · exact h.1
  have ho : outW σ3 10 = ({ σ3 with st := 0, held := [] }, [some bs]) := by
    have : stepW σ3 10 = ({ σ3 with st := 0 }, 1) := by simp [stepW, h34]
    unfold outW
    rw [this]
    simp only [if_true]
    rw [e2, e3, hsz]
    have : (σ1.held ++ [58] ++ bs).drop ((σ1.held ++ [58] ++ bs).length - ((bs.length : Nat) : Int).toNat) = bs := by
      rw [List.drop_left' (by simp; omega)]
    rw [this]
  refine ⟨{ σ3 with st := 0, held := [] }, ?_, ⟨rfl, rfl⟩⟩
  have hf : frameW bs = digW bs.length ++ ([58] ++ (bs ++ [10])) := by simp [frameW]
  rw [hf, runW_of h1]
  have h2 : runW σ1 [58] = ({ σ1 with held := σ1.held ++ [58], left := (bs.length : Nat), st := if ((bs.length : Nat) : Int) = 0 then 4 else 3 }, []) := by simp [runW, hcol]
  rw [runW_of h2, runW_of e1]
  simp [runW, ho]

theorem frame_bytes (bs : List Int) (hn : bs.length ≤ 20000) (hb : ∀ x ∈ bs, 0 ≤ x ∧ x ≤ 255) : ∀ x ∈ frameW bs, 0 ≤ x ∧ x ≤ 255 := by
  intro x hx
  simp only [frameW, List.mem_append, List.mem_cons, List.not_mem_nil, or_false] at hx
  rcases hx with hx | hx | hx | hx
  · have := digW_bytes 4 _ (by omega) x hx
    omega
  · omega
  · exact hb x hx
  · omega

/-- a bad place, a line feed, and a frame -/
theorem again_run (j bs : List Int) (hn : bs.length ≤ 20000) (hj : ∀ x ∈ j, x ≠ 10) : ∃ σ', runW ⟨0, [], 0, 0⟩ (120 :: (j ++ (10 :: frameW bs))) = (σ', [none, some bs]) ∧ σ'.held = [] := by
  have hstep : stepW ⟨0, [], 0, 0⟩ 120 = fail ⟨0, [], 0, 0⟩ 120 := by simp [stepW, isDig]
  have hcut : cutAt (120 :: (j ++ (10 :: frameW bs))) = j.length + 1 := by
    rw [cutAt_cons _ _ (by decide)]
    congr 1
    unfold cutAt
    induction j with
    | nil => simp
    | cons x j ih =>
      have hx := hj x (by simp)
      rw [List.cons_append, List.takeWhile_cons, if_pos (by simpa using hx), List.length_cons, ih (fun y hy => hj y (by simp [hy]))]
      rfl
  obtain ⟨σ2, hb, he⟩ := (fail_run 120 (j ++ (10 :: frameW bs)) _ hstep).2 (by rw [hcut]; simp)
  rw [hcut] at he
  have hd : (120 :: (j ++ (10 :: frameW bs))).drop (j.length + 1 + 1) = frameW bs := by
    have : 120 :: (j ++ (10 :: frameW bs)) = (120 :: (j ++ [10])) ++ frameW bs := by simp
    rw [this, List.drop_left' (by simp)]
  rw [hd] at he
  obtain ⟨σ3, hr, hb3⟩ := frame_run bs hn σ2 hb
  rw [hr] at he
  exact ⟨σ3, he, hb3.2⟩
end Go.Proofs.YtcjednmenbdmnaaDoor
