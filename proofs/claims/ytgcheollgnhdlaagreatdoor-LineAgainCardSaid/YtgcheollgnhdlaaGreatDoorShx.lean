import Derived.Test.YtgcheollgnhdlaaGreatDoorPrs
namespace Go.Proofs.YtgcheollgnhdlaaGreatDoor
open Go.RowKit Go.Mem Go.Lin

/- the fields of a line as the code makes them: no byte, where one can't be shown -/
def letterX (s : Bs) : Bs := if s = [] then [45] else s
def rulesX (e : EraL) : Bs := if e.kind = 0 then [45] else if e.kind = 1 then (amtS e.save).1 else if e.kind = 2 then e.rules else []
def til4 (u : UntilL) : List Bs := [Go.Lib.itoa u.year, Go.Kwd.showMonthD u.month, (dayS u.on).1, (timeS u.at_).1]
def tilX (u : UntilL) : List Bs := if u.has = true then (til4 u).take (tilN u) else []
def era3 (e : EraL) : List Bs := [(amtS e.off).1, rulesX e, e.format]
def eraX (e : EraL) : List Bs := era3 e ++ tilX e.til
def ruleX (r : RuleL) : List Bs := [ruleW, r.name, Go.Lib.itoa r.fr, (Go.Kwd.showToD r.fr r.to).1, [45], Go.Kwd.showMonthD r.month, (dayS r.on).1, (timeS r.at_).1, (amtS r.save).1, letterX r.letter]
def lineX (l : LineL) : List Bs := if l.kind = 1 then ruleX l.rule else if l.kind = 2 then [zoneW, l.name] ++ eraX l.era else if l.kind = 3 then eraX l.era else if l.kind = 4 then [linkW, l.target, l.name] else []
theorem dayS_of {d : DayL} (h : dayOk d) : (dayS d).1 = dayT d := by unfold dayS; rw [if_pos h]
theorem timeS_of {t : AtL} (h : timeOk t) : (timeS t).1 = timeT t := by unfold timeS; rw [if_pos h]
theorem amtS_of {n : Int} (h : amtOk n) : (amtS n).1 = Go.Clk.textL n := by unfold amtS; rw [if_pos h]
theorem tilX_of {u : UntilL} (h : u = tilZ ∨ tilOk u) : tilX u = if u.has = true then tilT u else [] := by
  rcases h with h | h
  · rw [h]; rfl
  · unfold tilX til4 tilT
    rw [dayS_of h.2.2.2.1, timeS_of h.2.2.2.2.2]
theorem rulesX_of {e : EraL} (h : rulesOk e.kind e.save e.rules) : rulesX e = rulesT e.kind e.save e.rules := by
  unfold rulesX rulesT
  rcases h with ⟨h, -, -⟩ | ⟨h, h2, -⟩ | ⟨h, -, -⟩
  · rw [if_pos h, if_pos h]
  · rw [h, amtS_of h2]; rfl
  · rw [h]; rfl
theorem eraX_of {e : EraL} (h : eraOk e) : eraX e = eraT e := by
  unfold eraX era3 eraT
  rw [amtS_of h.1, rulesX_of h.2.1, tilX_of h.2.2.2]
theorem line_x {l : LineL} (h : lineOk l) : lineX l = lineT l := by
  unfold lineX lineT
  rcases h with h | ⟨h, hr⟩ | ⟨h, hz, he⟩ | ⟨h, he⟩ | ⟨h, h1, h2⟩
  · rw [h]; rfl
  · have hk : l.kind = 1 := by rw [h]
    rw [if_pos hk, if_pos hk]
    unfold ruleX ruleT
    rw [dayS_of hr.2.2.2.2.1, timeS_of hr.2.2.2.2.2.2.1, amtS_of hr.2.2.2.2.2.2.2.1]
    rfl
  · have hk : l.kind = 2 := by rw [h]
    rw [hk, eraX_of he]; rfl
  · have hk : l.kind = 3 := by rw [h]
    rw [hk, eraX_of he]; rfl
  · have hk : l.kind = 4 := by rw [h]
    rw [hk]; rfl
/-- what Show answers, as the code reckons it -/
theorem show_x (l : LineL) : showL l = if (Go.Lxr.showD (lineX l)).2 ≠ 0 ∨ parseL (Go.Lxr.showD (lineX l)).1 ≠ l then ([], 1) else ((Go.Lxr.showD (lineX l)).1, 0) := by
  by_cases h : lineOk l
  · rw [show_right h, line_x h, line_show h, if_neg]
    rintro (h1 | h1)
    · exact h1 rfl
    · exact h1 (parse_back h)
  · rw [show_wrong h, if_pos]
    by_cases h1 : (Go.Lxr.showD (lineX l)).2 = 0
    · right
      intro e
      rcases parse_cases (Go.Lxr.showD (lineX l)).1 with h2 | ⟨k, c, h2, hk⟩
      · rw [e] at h2
        exact h h2
      · rw [e] at h2
        have hx : lineX l = [] := by rw [h2]; rfl
        rw [hx] at e
        have he : parseL (Go.Lxr.showD []).1 = lineZ := by decide +kernel
        rw [he, h2] at e
        have := congrArg LineL.kind e
        exact absurd (show (0 : Int) = 5 from this) (by decide)
    · exact .inl h1
theorem dayS_len (d : DayL) : (dayS d).1.length ≤ 300 := by
  unfold dayS
  split
  · rename_i h; exact Nat.le_trans (pl_day h).2 (by omega)
  · exact Nat.zero_le _
theorem timeS_len (d : AtL) : (timeS d).1.length ≤ 300 := by
  unfold timeS
  split
  · rename_i h; exact Nat.le_trans (pl_time h).2 (by omega)
  · exact Nat.zero_le _
theorem amtS_len (d : Int) : (amtS d).1.length ≤ 300 := by
  unfold amtS
  split
  · rename_i h; exact Nat.le_trans (pl_amt h).2 (by omega)
  · exact Nat.zero_le _
theorem month_len (m : Int) : (Go.Kwd.showMonthD m).length ≤ 300 := by
  by_cases h : 1 ≤ m ∧ m ≤ 12
  · exact Nat.le_trans (pl_month h).2 (by omega)
  · unfold Go.Kwd.showMonthD
    rw [if_neg h]
    exact Nat.zero_le _
theorem to_len (fr tt : Int) : (Go.Kwd.showToD fr tt).1.length ≤ 300 := by
  by_cases h : (Go.Kwd.showToD fr tt).2 = 0
  · exact Nat.le_trans (pl_to h).2 (by omega)
  · unfold Go.Kwd.showToD at *
    split
    · exact Nat.zero_le _
    · split
      · rename_i h1 h2
        rw [if_neg h1, if_pos h2] at h
        exact absurd rfl h
      · split
        · exact Nat.zero_le _
        · split
          · rename_i h1 h2 h3 h4
            rw [if_neg h1, if_neg h2, if_neg h3, if_pos h4] at h
            exact absurd rfl h
          · rename_i h1 h2 h3 h4
            rw [if_neg h1, if_neg h2, if_neg h3, if_neg h4] at h
            exact absurd rfl h
theorem int_len {n : Int} (h : inR n) : (Go.Lib.itoa n).length ≤ 300 := Nat.le_trans (Go.Esc.itoa_len n h) (by omega)
theorem fit_open {l : LineL} (h : FitP l) : l.name.length ≤ 200 ∧ l.target.length ≤ 200 ∧ l.rule.name.length ≤ 200 ∧ l.rule.letter.length ≤ 200 ∧ l.era.rules.length ≤ 200 ∧ l.era.format.length ≤ 200 := by
  have := h.light
  unfold lightB at this
  simp only [Bool.and_eq_true, decide_eq_true_eq] at this
  exact ⟨this.1.1.1.1.1, this.1.1.1.1.2, this.1.1.1.2, this.1.1.2, this.1.2, this.2⟩
theorem til_light {u : UntilL} (h : inR u.year) : ∀ x ∈ tilX u, x.length ≤ 300 := by
  unfold tilX
  split
  · intro x hx
    have hx := List.mem_of_mem_take hx
    simp only [til4, List.mem_cons, List.not_mem_nil, or_false] at hx
    rcases hx with rfl | rfl | rfl | rfl
    · exact int_len h
    · exact month_len _
    · exact dayS_len _
    · exact timeS_len _
  · intro x hx; cases hx
theorem til_len (u : UntilL) : (tilX u).length ≤ 4 := by
  unfold tilX
  split
  · exact Nat.le_trans (List.length_take_le' _ _) (Nat.le_refl 4)
  · exact Nat.zero_le _
theorem era_light {e : EraL} (h : inR e.til.year) (h1 : e.rules.length ≤ 200) (h2 : e.format.length ≤ 200) : (∀ x ∈ eraX e, x.length ≤ 300) ∧ (eraX e).length ≤ 7 := by
  refine ⟨?_, ?_⟩
  · intro x hx
    rcases List.mem_append.1 hx with hx | hx
    · simp only [era3, List.mem_cons, List.not_mem_nil, or_false] at hx
      rcases hx with rfl | rfl | rfl
      · exact amtS_len _
      · unfold rulesX
        split
        · decide
        · split
          · exact amtS_len _
          · split
            · omega
            · exact Nat.zero_le _
      · omega
    · exact til_light h x hx
  · unfold eraX
    rw [List.length_append]
    have := til_len e.til
    simp [era3]
    omega
theorem x_light {l : LineL} (h : FitP l) : S7.Light (lineX l).length (lineX l) := by
  obtain ⟨h1, h2, h3, h4, h5, h6⟩ := fit_open h
  have he := era_light h.year h5 h6
  unfold lineX
  split
  · refine ⟨by show 10 ≤ _; decide, fun x hx => ?_⟩
    simp only [ruleX, List.mem_cons, List.not_mem_nil, or_false] at hx
    rcases hx with rfl | rfl | rfl | rfl | rfl | rfl | rfl | rfl | rfl | rfl
    · decide
    · omega
    · exact int_len h.fr
    · exact to_len _ _
    · decide
    · exact month_len _
    · exact dayS_len _
    · exact timeS_len _
    · exact amtS_len _
    · unfold letterX
      split
      · decide
      · omega
  · split
    · refine ⟨by rw [List.length_append]; have := he.2; simp; omega, fun x hx => ?_⟩
      rcases List.mem_append.1 hx with hx | hx
      · simp only [List.mem_cons, List.not_mem_nil, or_false] at hx
        rcases hx with rfl | rfl
        · decide
        · omega
      · exact he.1 x hx
    · split
      · exact ⟨by have := he.2; omega, he.1⟩
      · split
        · refine ⟨by simp, fun x hx => ?_⟩
          simp only [List.mem_cons, List.not_mem_nil, or_false] at hx
          rcases hx with rfl | rfl | rfl
          · decide
          · omega
          · omega
        · exact ⟨by simp, fun x hx => by cases hx⟩
end Go.Proofs.YtgcheollgnhdlaaGreatDoor
