import Derived.Test.YtcjednmenbdmnaaDoorRef
namespace Go.Wire

/-- at a frame's begin -/
def Begin (σ : St) : Prop := σ.st = 0 ∧ σ.held = []
/-- behind k digits of the number s -/
def Phase (k : Nat) (s : Int) (σ : St) : Prop :=
  σ.held.length = k ∧ ((k = 0 ∧ σ.st = 0 ∧ s = 0) ∨ (1 ≤ k ∧ σ.size = s ∧ ((s = 0 ∧ σ.st = 1) ∨ (s ≠ 0 ∧ σ.st = 2))))

def cutAt (q : List Int) : Nat := (q.takeWhile (· ≠ 10)).length
theorem cutAt_le (q : List Int) : cutAt q ≤ q.length := by
  unfold cutAt
  exact (List.takeWhile_prefix _).length_le
theorem cutAt_nl (r : List Int) : cutAt (10 :: r) = 0 := by simp [cutAt]
theorem cutAt_cons (c : Int) (r : List Int) (h : c ≠ 10) : cutAt (c :: r) = cutAt r + 1 := by simp [cutAt, h]

/-- what is left out, up to a line feed -/
theorem waste_run (r : List Int) (σ : St) (h5 : σ.st = 5) (hh : σ.held = []) :
    (cutAt r = r.length → (runW σ r).2 = [] ∧ (runW σ r).1.held = []) ∧
    (cutAt r < r.length → ∃ σ', Begin σ' ∧ runW σ r = runW σ' (r.drop (cutAt r + 1))) := by
  induction r generalizing σ with
  | nil => exact ⟨fun _ => ⟨rfl, hh⟩, fun h => by simp [cutAt] at h⟩
  | cons c r ih =>
    have hs : outW σ c = ({ σ with st := if c = 10 then 0 else 5 }, []) := by
      unfold outW stepW
      simp [h5]
    by_cases hc : c = 10
    · subst hc
      rw [cutAt_nl]
      refine ⟨fun h => by simp at h, fun _ => ⟨{ σ with st := 0 }, ⟨rfl, hh⟩, ?_⟩⟩
      simp [runW, hs]
    · rw [cutAt_cons c r hc]
      have hr : runW σ (c :: r) = runW { σ with st := 5 } r := by simp [runW, hs, hc]
      rw [hr]
      have := ih { σ with st := 5 } rfl hh
      refine ⟨fun h => this.1 (by simpa using h), fun h => ?_⟩
      obtain ⟨σ', hb, he⟩ := this.2 (by simpa using h)
      exact ⟨σ', hb, by simpa using he⟩

theorem fail_run (c : Int) (r : List Int) (σ : St) (hf : stepW σ c = fail σ c) :
    (cutAt (c :: r) = (c :: r).length → (runW σ (c :: r)).2 = [none] ∧ (runW σ (c :: r)).1.held = []) ∧
    (cutAt (c :: r) < (c :: r).length → ∃ σ', Begin σ' ∧ runW σ (c :: r) = ((runW σ' ((c :: r).drop (cutAt (c :: r) + 1))).1, none :: (runW σ' ((c :: r).drop (cutAt (c :: r) + 1))).2)) := by
  have ho : outW σ c = ((fail σ c).1, [none]) := by
    unfold outW
    rw [hf]
    simp [fail]
  by_cases hc : c = 10
  · subst hc
    rw [cutAt_nl]
    refine ⟨fun h => by simp at h, fun _ => ⟨(fail σ 10).1, ⟨by simp [fail, failSt], by simp [fail]⟩, ?_⟩⟩
    simp [runW, ho]
  · rw [cutAt_cons c r hc]
    have hr : runW σ (c :: r) = ((runW (fail σ c).1 r).1, none :: (runW (fail σ c).1 r).2) := by simp [runW, ho]
    rw [hr]
    have h5 : (fail σ c).1.st = 5 := by simp [fail, failSt, hc]
    have := waste_run r (fail σ c).1 h5 (by simp [fail])
    refine ⟨fun h => ?_, fun h => ?_⟩
    · have := this.1 (by simpa using h)
      simp [this]
    · obtain ⟨σ', hb, he⟩ := this.2 (by simpa using h)
      exact ⟨σ', hb, by simp [he]⟩

/-- the digits of a length -/
theorem scan_run (r : List Int) (s : Int) (k : Nat) (σ : St) (hp : Phase k s σ) (hk : k ≤ 5) (hs0 : 0 ≤ s) :
    ∃ d r' σ', r = d ++ r' ∧ d.length + k = (scanW r s k).2.2 ∧ runW σ d = (σ', []) ∧ Phase (scanW r s k).2.2 (scanW r s k).2.1 σ' ∧ σ'.held = σ.held ++ d ∧ (scanW r s k).2.2 ≤ 5 ∧ 0 ≤ (scanW r s k).2.1 ∧
      ((scanW r s k).1 = true → ∃ c r'', r' = c :: r'' ∧ isDig c = true ∧ ((scanW r s k).2.2 = 5 ∨ (0 < (scanW r s k).2.2 ∧ (scanW r s k).2.1 = 0))) ∧
      ((scanW r s k).1 = false → r' = [] ∨ ∃ c r'', r' = c :: r'' ∧ isDig c = false) := by
  induction r generalizing s k σ with
  | nil => exact ⟨[], [], σ, rfl, by simp [scanW], rfl, by simpa [scanW] using hp, by simp, by simpa [scanW] using hk, by simpa [scanW] using hs0, by simp [scanW], by simp⟩
  | cons c r ih =>
    by_cases hd : isDig c = true
    · by_cases hst : k = 5 ∨ (0 < k ∧ s = 0)
      · have e : scanW (c :: r) s k = (true, s, k) := by rw [scanW, if_pos hd, if_pos hst]
        rw [e]
        exact ⟨[], c :: r, σ, rfl, by simp, rfl, hp, by simp, hk, hs0, fun _ => ⟨c, r, rfl, hd, hst⟩, fun h => by simp at h⟩
      · have e : scanW (c :: r) s k = scanW r (s * 10 + (c - 48)) (k + 1) := by rw [scanW, if_pos hd, if_neg hst]
        rw [e]
        have hd' := isDig_iff.1 hd
        obtain ⟨hl, hph⟩ := hp
        have hstep : ∃ σ1, outW σ c = (σ1, []) ∧ Phase (k + 1) (s * 10 + (c - 48)) σ1 ∧ σ1.held = σ.held ++ [c] := by
          rcases hph with ⟨hk0, hs, hz⟩ | ⟨hk1, hsz, hcase⟩
          · refine ⟨{ σ with held := σ.held ++ [c], size := c - 48, st := if c = 48 then 1 else 2 }, ?_, ⟨by simp [hl], .inr ⟨by omega, by simp [hz], ?_⟩⟩, rfl⟩
            · simp [outW, stepW, hs, hd]
            · simp only [hz]
              by_cases hc : c = 48
              · exact .inl ⟨by omega, by simp [hc]⟩
              · exact .inr ⟨by omega, by simp [hc]⟩
          · have hne : s ≠ 0 := fun h => hst (.inr ⟨by omega, h⟩)
            have h2 : σ.st = 2 := by
              rcases hcase with h | h
              · exact absurd h.1 hne
              · exact h.2
            have h58 : c ≠ 58 := by omega
            have hl5 : σ.held.length ≠ 5 := by omega
            refine ⟨{ σ with held := σ.held ++ [c], size := σ.size * 10 + (c - 48) }, ?_, ⟨by simp [hl], .inr ⟨by omega, by simp [hsz], .inr ⟨by omega, h2⟩⟩⟩, rfl⟩
            simp [outW, stepW, h2, h58, hd, hl5]
        obtain ⟨σ1, ho, hp1, hh1⟩ := hstep
        obtain ⟨d, r', σ', h1, h2, h3, h4, h5, h6⟩ := ih (s * 10 + (c - 48)) (k + 1) σ1 hp1 (by omega) (by omega)
        refine ⟨c :: d, r', σ', by simp [h1], by simp; omega, by simp [runW, ho, h3], h4, by simp [h5, hh1], h6⟩
    · have hd0 : isDig c = false := by simpa using hd
      have e : scanW (c :: r) s k = (false, s, k) := by rw [scanW, if_neg hd]
      rw [e]
      exact ⟨[], c :: r, σ, rfl, by simp, rfl, hp, by simp, hk, hs0, fun h => by simp at h, fun _ => .inr ⟨c, r, rfl, hd0⟩⟩

/-- the bytes of a frame -/
theorem body_run (x : List Int) (σ : St) (h : (σ.st = 3 ∧ 1 ≤ σ.left) ∨ (σ.st = 4 ∧ σ.left = 0)) (hl : (x.length : Int) ≤ σ.left) :
    ∃ σ', runW σ x = (σ', []) ∧ σ'.held = σ.held ++ x ∧ σ'.size = σ.size ∧ σ'.left = σ.left - x.length ∧ ((σ'.st = 3 ∧ 1 ≤ σ'.left) ∨ (σ'.st = 4 ∧ σ'.left = 0)) := by
  induction x generalizing σ with
  | nil => exact ⟨σ, rfl, by simp, rfl, by simp, h⟩
  | cons c x ih =>
    simp only [List.length_cons] at hl
    rcases h with ⟨h3, h1⟩ | ⟨h4, h0⟩
    · have ho : outW σ c = ({ σ with held := σ.held ++ [c], left := σ.left - 1, st := if σ.left - 1 = 0 then 4 else 3 }, []) := by simp [outW, stepW, h3]
      obtain ⟨σ', e1, e2, e3, e4, e5⟩ := ih { σ with held := σ.held ++ [c], left := σ.left - 1, st := if σ.left - 1 = 0 then 4 else 3 } (by
        by_cases hz : σ.left - 1 = 0
        · exact .inr ⟨by simp [hz], hz⟩
        · exact .inl ⟨by simp [hz], by simp only; omega⟩) (by simp only; omega)
      exact ⟨σ', by simp [runW, ho, e1], by simp [e2], e3, by simp only [List.length_cons]; rw [e4]; simp only; omega, e5⟩
    · omega

def Same (σ : St) (b : List Int) : Prop := (runW σ b).2 = (splitW b).1 ∧ (runW σ b).1.held = (splitW b).2

theorem runW_of {σ σ' : St} {u q : List Int} (h : runW σ u = (σ', [])) : runW σ (u ++ q) = runW σ' q := by
  rw [runW_append, h]
  simp

theorem bad_case (σ σ' : St) (u : List Int) (c : Int) (q : List Int) (hr : runW σ u = (σ', [])) (hf : stepW σ' c = fail σ' c) (hw : (firstW (u ++ c :: q)).1 = 2) (hat : (firstW (u ++ c :: q)).2.1 = u.length)
    (ih : ∀ b', b'.length < (u ++ c :: q).length → ∀ σ, Begin σ → Same σ b') : Same σ (u ++ c :: q) := by
  have hne : u ++ c :: q ≠ [] := by simp
  have hline : lineW (u ++ c :: q) u.length = u.length + cutAt (c :: q) := by
    unfold lineW cutAt
    simp
  have hfr := fail_run c q σ' hf
  have hle := cutAt_le (c :: q)
  unfold Same
  rw [runW_of hr]
  by_cases hc : cutAt (c :: q) = (c :: q).length
  · have := hfr.1 hc
    rw [splitW_bad_end _ hne hw (by rw [hat, hline, hc]; simp)]
    exact this
  · obtain ⟨σ2, hb, he⟩ := hfr.2 (by omega)
    rw [splitW_bad _ hne hw (by rw [hat, hline, List.length_append]; omega), he, hat, hline]
    have hdrop : (u ++ c :: q).drop (u.length + cutAt (c :: q) + 1) = (c :: q).drop (cutAt (c :: q) + 1) := by
      rw [Nat.add_assoc, List.drop_append]
      simp
    rw [hdrop]
    have := ih ((c :: q).drop (cutAt (c :: q) + 1)) (by simp only [List.length_drop, List.length_append]; have : 1 ≤ (c :: q).length := by simp
                                                        omega) σ2 hb
    exact ⟨by rw [this.1], this.2⟩

theorem same_all (n : Nat) : ∀ b : List Int, b.length ≤ n → ∀ σ, Begin σ → Same σ b := by
  induction n with
  | zero =>
    intro b hb σ hs
    have : b = [] := List.eq_nil_of_length_eq_zero (by omega)
    subst this
    unfold Same
    rw [splitW_nil]
    exact ⟨rfl, hs.2⟩
  | succ n ihn =>
    intro b hb σ hs
    by_cases hnil : b = []
    · subst hnil
      unfold Same
      rw [splitW_nil]
      exact ⟨rfl, hs.2⟩
    have ih : ∀ b', b'.length < b.length → ∀ σ, Begin σ → Same σ b' := fun b' h => ihn b' (by omega)
    obtain ⟨d, r', σ', h1, h2, h3, h4, h5, h6, h7, h8, h9⟩ := scan_run b 0 0 σ ⟨by simp [hs.2], .inl ⟨rfl, hs.1, rfl⟩⟩ (by omega) (by omega)
    obtain ⟨st, s, k, hsc⟩ : ∃ st s k, scanW b 0 0 = (st, s, k) := ⟨_, _, _, rfl⟩
    rw [hsc] at h2 h4 h6 h7 h8 h9
    simp only [Nat.add_zero] at h2 h4 h6 h7 h8 h9
    obtain ⟨hlen, hph⟩ := h4
    rw [hs.2, List.nil_append] at h5
    cases st with
    | true =>
      obtain ⟨c, r'', e, hd, hk⟩ := h8 rfl
      subst e
      have hf : firstW b = (2, k, []) := by unfold firstW; rw [hsc]
      rw [h1] at hf ih ⊢
      have hd' := isDig_iff.1 hd
      refine bad_case σ σ' d c r'' h3 ?_ (by rw [hf]) (by rw [hf]; exact h2.symm) ih
      have h58 : c ≠ 58 := by omega
      rcases hph with ⟨hk0, _, _⟩ | ⟨hk1, hsz, ⟨hz, h1'⟩ | ⟨hz, h2'⟩⟩
      · omega
      · simp [stepW, h1', h58]
      · have : k = 5 := by
          rcases hk with h | h
          · exact h
          · exact absurd h.2 hz
        simp [stepW, h2', h58, hlen, this]
    | false =>
      rcases h9 rfl with e | ⟨c, r'', e, hd⟩
      · subst e
        rw [List.append_nil] at h1
        subst h1
        have hf : firstW b = (0, 0, []) := by
          unfold firstW
          rw [hsc]
          simp [h2]
        unfold Same
        rw [splitW_left b hnil (by rw [hf]), h3]
        exact ⟨rfl, h5⟩
      · subst e
        have hkl : k ≠ b.length := by rw [h1, List.length_append, List.length_cons]; omega
        have hgk : b.getD k 0 = c := by
          rw [h1, List.getD_eq_getElem?_getD, List.getElem?_append_right (by omega)]
          simp [h2]
        have hnd : ¬ isDig c = true := by simp [hd]
        by_cases hb1 : k = 0 ∨ c ≠ 58 ∨ 20000 < s
        · have hf : firstW b = (2, k, []) := by
            unfold firstW
            rw [hsc]
            simp only
            rw [if_neg hkl, hgk, if_pos hb1]
          rw [h1] at hf ih ⊢
          refine bad_case σ σ' d c r'' h3 ?_ (by rw [hf]) (by rw [hf]; exact h2.symm) ih
          rcases hph with ⟨hk0, h0', _⟩ | ⟨hk1, hsz, ⟨hz, h1'⟩ | ⟨hz, h2'⟩⟩
          · simp [stepW, h0', hd]
          · have h58 : c ≠ 58 := by
              rcases hb1 with h | h | h
              · omega
              · exact h
              · omega
            simp [stepW, h1', h58]
          · by_cases h58 : c = 58
            · have hm : 20000 < s := by
                rcases hb1 with h | h | h
                · omega
                · exact absurd h58 h
                · exact h
              simp [stepW, h2', h58, colon, hsz, hm]
            · simp [stepW, h2', h58, hd]
        · have hk1 : 1 ≤ k := by omega
          have h58 : c = 58 := by omega
          have hm : s ≤ 20000 := by omega
          subst h58
          obtain ⟨t, ht⟩ : ∃ t : Nat, s = t := ⟨s.toNat, by omega⟩
          have htn : s.toNat = t := by omega
          have hpre : firstW b = if b.length ≤ k + 1 + t then (0, 0, []) else if b.getD (k + 1 + t) 0 ≠ 10 then (2, k + 1 + t, []) else (1, k + 1 + t + 1, (b.drop (k + 1)).take t) := by
            unfold firstW
            rw [hsc]
            simp only
            rw [if_neg hkl, hgk, if_neg (by omega), htn]
          have hsz : σ'.size = s := by
            rcases hph with h | h
            · omega
            · exact h.2.1
          have hcol : outW σ' 58 = ({ σ' with held := σ'.held ++ [58], left := s, st := if s = 0 then 4 else 3 }, []) := by
            have : stepW σ' 58 = ({ σ' with held := σ'.held ++ [58], left := s, st := if s = 0 then 4 else 3 }, 0) := by
              have hnm : ¬ 20000 < s := by omega
              rcases hph with h | ⟨_, _, ⟨hz, h1'⟩ | ⟨hz, h2'⟩⟩
              · omega
              · simp [stepW, h1', colon, hsz, hnm]
              · simp [stepW, h2', colon, hsz, hnm]
            simp [outW, this]
          have hrun2 : runW σ (d ++ [58]) = ({ σ' with held := σ'.held ++ [58], left := s, st := if s = 0 then 4 else 3 }, []) := by
            rw [runW_of h3]
            simp [runW, hcol]
          have hb2 : b = (d ++ [58]) ++ r'' := by rw [h1]; simp
          have hlb : b.length = k + 1 + r''.length := by rw [hb2]; simp [h2]; omega
          have hbody : ({ σ' with held := σ'.held ++ [58], left := s, st := if s = 0 then 4 else 3 } : St).st = 3 ∧ 1 ≤ s ∨ ({ σ' with held := σ'.held ++ [58], left := s, st := if s = 0 then 4 else 3 } : St).st = 4 ∧ s = 0 := by
            by_cases hz : s = 0
            · exact .inr ⟨by simp [hz], hz⟩
            · exact .inl ⟨by simp [hz], by omega⟩
          by_cases hshort : b.length ≤ k + 1 + t
          · rw [if_pos hshort] at hpre
            obtain ⟨σ3, e1, e2, e3, e4, e5⟩ := body_run r'' _ hbody (by simp only; omega)
            unfold Same
            rw [splitW_left b hnil (by rw [hpre])]
            rw [hb2, runW_of hrun2, e1]
            refine ⟨rfl, ?_⟩
            rw [e2]
            simp only
            rw [h5]
          · rw [if_neg hshort] at hpre
            obtain ⟨x, e, r3, hr3, hxl⟩ : ∃ x e r3, r'' = x ++ e :: r3 ∧ x.length = t := by
              have hlt : t < r''.length := by omega
              exact ⟨r''.take t, r''[t], r''.drop (t + 1), by rw [← List.drop_eq_getElem_cons hlt, List.take_append_drop], by simp; omega⟩
            obtain ⟨σ3, e1, e2, e3, e4, e5⟩ := body_run x _ hbody (by simp only; omega)
            simp only at e2 e3 e4
            have h34 : σ3.st = 4 := by
              rcases e5 with h | h
              · omega
              · exact h.1
            have hrun3 : runW σ ((d ++ [58]) ++ x) = (σ3, []) := by rw [runW_of hrun2, e1]
            have hul : ((d ++ [58]) ++ x).length = k + 1 + t := by simp [h2, hxl]; omega
            have hb3 : b = ((d ++ [58]) ++ x) ++ e :: r3 := by rw [hb2, hr3]; simp
            have hge : b.getD (k + 1 + t) 0 = e := by
              have h0 : k + 1 + t - ((d ++ [58]) ++ x).length = 0 := by omega
              rw [hb3, List.getD_eq_getElem?_getD, List.getElem?_append_right (by omega), h0]
              rfl
            rw [hge] at hpre
            by_cases he10 : e = 10
            · subst he10
              rw [if_neg (by simp)] at hpre
              have hx : (b.drop (k + 1)).take t = x := by
                have : b = (d ++ [58]) ++ (x ++ 10 :: r3) := by rw [hb3]; simp
                rw [this, ← hxl]
                rw [List.drop_left' (by simp [h2])]
                simp
              rw [hx] at hpre
              have ho : outW σ3 10 = ({ σ3 with st := 0, held := [] }, [some x]) := by
                have : stepW σ3 10 = ({ σ3 with st := 0 }, 1) := by simp [stepW, h34]
                unfold outW
                rw [this]
                simp only [if_true]
                rw [e2, e3, hsz, htn]
                have : (σ'.held ++ [58] ++ x).drop ((σ'.held ++ [58] ++ x).length - t) = x := by
                  rw [List.drop_left' (by simp [hxl]; omega)]
                rw [this]
              have hdr : b.drop (k + 1 + t + 1) = r3 := by
                rw [hb3]
                have : ((d ++ [58]) ++ x) ++ 10 :: r3 = (((d ++ [58]) ++ x) ++ [10]) ++ r3 := by simp
                rw [this, List.drop_left' (by simp [h2, hxl]; omega)]
              have hi := ih r3 (by rw [hb3]; simp; omega) { σ3 with st := 0, held := [] } ⟨rfl, rfl⟩
              unfold Same
              rw [splitW_whole b hnil (by rw [hpre]), hpre]
              simp only
              rw [hdr]
              have hrb : runW σ b = ((runW { σ3 with st := 0, held := [] } r3).1, some x :: (runW { σ3 with st := 0, held := [] } r3).2) := by
                rw [hb3, runW_of hrun3]
                simp [runW, ho]
              rw [hrb]
              exact ⟨by rw [hi.1], hi.2⟩
            · rw [if_pos he10] at hpre
              rw [hb3] at hpre ih ⊢
              refine bad_case σ σ3 _ e r3 hrun3 ?_ (by rw [hpre]) (by rw [hpre]; exact hul.symm) ih
              simp [stepW, h34, he10]

theorem split_same (b : List Int) : (runW ⟨0, [], 0, 0⟩ b).2 = (splitW b).1 ∧ (runW ⟨0, [], 0, 0⟩ b).1.held = (splitW b).2 :=
  same_all b.length b (Nat.le_refl _) _ ⟨rfl, rfl⟩
end Go.Wire
