import Derived.Test.YtgcheollgnhdlaaGreatDoorLin
namespace Go.Lin
open Go.Lib

theorem byte_all {P : UInt8 → Prop} [DecidablePred P] (h : ∀ k : Fin 256, P (UInt8.ofNat k.val)) (c : UInt8) : P c := by
  have := h ⟨c.toNat, c.toNat_lt⟩
  simpa using this
/- each field's text is read as it -/
theorem from_text {y : Int} (h : 1 ≤ y ∧ y ≤ 9999) : fromP (itoa y) = some y := by
  have hr : Go.Esc.inRange y := by unfold Go.Esc.inRange; omega
  unfold fromP
  rw [Go.Esc.parsed_itoa y hr, show Go.Kwd.yearD (y, 0) = (y, 0) by rw [Go.Kwd.yearD, if_pos ⟨rfl, h.1, h.2⟩], if_pos rfl]
theorem to_text {fr to : Int} (h : (Go.Kwd.showToD fr to).2 = 0) : toP (Go.Kwd.showToD fr to).1 fr = some to := by
  have := (Go.Kwd.show_last fr to h _ rfl).1
  unfold toP toD
  rw [this, if_pos rfl]
theorem month_text {m : Int} (h : 1 ≤ m ∧ m ≤ 12) : monthP (Go.Kwd.showMonthD m) = some m := by
  obtain ⟨k, hk⟩ : ∃ k : Nat, m = (k : Int) + 1 := ⟨(m - 1).toNat, by omega⟩
  have := (Go.Kwd.whole ⟨k, by omega⟩).2.2
  simp only at this
  unfold monthP
  rw [show m = ((k + 1 : Nat) : Int) by omega, this, if_neg (by omega)]
theorem day_text {d : DayL} (h : dayOk d) : dayP (dayT d) = some d := by
  unfold dayP dayT
  rw [Go.Dfm.parse_text h]
  rfl
theorem time_text {t : AtL} (h : timeOk t) : timeP (timeT t) = some t := by
  obtain ⟨h1, h2, h3, h4⟩ := h
  unfold timeP timeT
  rw [Go.Clk.parse_show h1 h2 (by omega)]
  show some (⟨t.s, (t.k.toNat : Int)⟩ : AtL) = some t
  rw [show ((t.k.toNat : Int)) = t.k by omega]
theorem amt_text {n : Int} (h : amtOk n) : Go.Clk.amtD (Go.Clk.textL n) = some n := Go.Clk.amt_show h.1 h.2
theorem letter_text {l : Bs} (h : letterOk l) : letterP (letterT l) = some l := by
  unfold letterP letterT
  by_cases e : l = []
  · rw [if_pos e, if_pos rfl, e]
  · rw [if_neg e]
    rcases h with h | h
    · exact absurd h e
    · rw [if_neg ?_, if_pos h]
      intro e2
      subst e2
      exact absurd h.2.2 (by decide)
theorem text_head (n : Int) (h : amtOk n) : ∃ c r, Go.Clk.textL n = c :: r ∧ (c = 45 ∨ Go.Clk.digB c = true) ∧ Go.Clk.textL n ≠ [45] := by
  have hs := Go.Clk.sgn_show (n := n) (by have := h.1; omega) (by have := h.2; omega)
  have hne := (Go.Clk.sgn_ne hs).2.1
  generalize Go.Clk.textL n = t at *
  cases hs with
  | pos _ _ ht =>
    obtain ⟨a, r, rfl, ha⟩ := Go.Clk.txt_head ht
    exact ⟨a, r, rfl, .inr ha, hne⟩
  | neg _ _ ht => exact ⟨45, _, rfl, .inl rfl, hne⟩
theorem no_rule {c : UInt8} (r : Bs) (h : c = 45 ∨ Go.Clk.digB c = true) : Go.Kwd.ruleD (c :: r) = false := by
  have H : (Go.Kwd.letterB c || c == 95) = false := by
    revert h
    refine byte_all (P := fun c => (c = 45 ∨ Go.Clk.digB c = true) → (Go.Kwd.letterB c || c == 95) = false) ?_ c
    decide +kernel
  unfold Go.Kwd.ruleD
  rw [Bool.and_eq_false_iff]
  refine .inr ?_
  show (_ && _) = false
  rw [H]
  rfl
theorem cont_of {c : UInt8} (r : Bs) (h : c = 45 ∨ Go.Clk.digB c = true) : contB (c :: r) = true := by
  revert h
  refine byte_all (P := fun c => (c = 45 ∨ Go.Clk.digB c = true) → (c == 45 || Go.Kwd.digitB c) = true) ?_ c
  decide +kernel
theorem rules_text {k s : Int} {n : Bs} (h : rulesOk k s n) : rulesP (rulesT k s n) = some (k, s, n) := by
  rcases h with ⟨rfl, rfl, rfl⟩ | ⟨rfl, h, rfl⟩ | ⟨rfl, rfl, h⟩
  · decide +kernel
  · obtain ⟨c, r, e, hc, hne⟩ := text_head s h
    show rulesP (Go.Clk.textL s) = _
    unfold rulesP
    rw [show Go.Kwd.ruleD (Go.Clk.textL s) = false by rw [e]; exact no_rule r hc, if_neg (by decide), if_neg hne, amt_text h]
    rfl
  · show rulesP n = _
    unfold rulesP
    rw [if_pos h]
theorem bind_ok {α β : Type} (v : α) (f : α → Except Er β) : (Except.ok v : Except Er α).bind f = f v := rfl
theorem bind_error {α β : Type} (e : Er) (f : α → Except Er β) : (Except.error e : Except Er α).bind f = .error e := rfl
theorem req_some {α : Type} (v : α) (i : Nat) (k : Int) : req (some v) i k = .ok v := rfl
theorem chk_true (i : Nat) (k : Int) : chk true i k = .ok () := rfl
theorem rule_back {r : RuleL} (h : ruleOk r) : ruleP (ruleT r) = .ok r := by
  obtain ⟨h1, h2, h3, h4, h5, h6, h7, h8, h9⟩ := h
  unfold ruleP ruleT
  simp only [gt, List.getD_cons_succ, List.getD_cons_zero, h1, from_text h2, to_text h3, month_text h4, day_text h5, h6, time_text h7, amt_text h8, letter_text h9, req_some, chk_true, bind_ok, decide_true]
theorem til_back {u : UntilL} (h : tilOk u) (f : List Bs) : untilP (f ++ tilT u) f.length = .ok u := by
  obtain ⟨h1, h2, h3, h4, h5, h6⟩ := h
  obtain ⟨has, y, m, d, t⟩ := u
  obtain rfl : has = true := h1
  have g : ∀ (l : List Bs) (i : Nat), gt (f ++ l) (f.length + i) = gt l i := fun l i => by
    unfold gt
    rw [List.getD_eq_getElem?_getD, List.getD_eq_getElem?_getD, List.getElem?_append_right (by omega), Nat.add_sub_cancel_left]
  have g0 : ∀ (l : List Bs), gt (f ++ l) f.length = gt l 0 := fun l => g l 0
  unfold untilP tilT
  have hN : tilN ⟨true, y, m, d, t⟩ = if t ≠ atZ then 4 else if d ≠ day1 then 3 else if m ≠ 1 then 2 else 1 := rfl
  rw [hN]
  simp only [tilMonth, tilDay, tilTime, g, g0, List.length_append]
  by_cases e1 : t = atZ
  · by_cases e2 : d = day1
    · by_cases e3 : m = 1
      · subst e1 e2 e3
        simp [gt, from_text h2, req_some, bind_ok]
      · subst e1 e2
        simp [gt, from_text h2, month_text h3, req_some, bind_ok, e3]
    · subst e1
      simp [gt, from_text h2, month_text h3, day_text h4, h5, req_some, chk_true, bind_ok, e2]
  · simp [gt, from_text h2, month_text h3, day_text h4, h5, time_text h6, req_some, chk_true, bind_ok, e1]
theorem tilT_len (u : UntilL) : 1 ≤ (tilT u).length ∧ (tilT u).length ≤ 4 := by
  unfold tilT
  rw [List.length_take]
  have : 1 ≤ tilN u ∧ tilN u ≤ 4 := by
    unfold tilN
    split
    · omega
    · split
      · omega
      · split <;> omega
  simp
  omega
theorem eraT_len (e : EraL) : 3 ≤ (eraT e).length ∧ (eraT e).length ≤ 7 := by
  unfold eraT
  have := tilT_len e.til
  rw [List.length_append]
  split <;> simp <;> omega
theorem era_back {e : EraL} (h : eraOk e) (f : List Bs) : eraP (f ++ eraT e) f.length = .ok e := by
  obtain ⟨h1, h2, h3, h4⟩ := h
  have g : ∀ (l : List Bs) (i : Nat), gt (f ++ l) (f.length + i) = gt l i := fun l i => by
    unfold gt
    rw [List.getD_eq_getElem?_getD, List.getD_eq_getElem?_getD, List.getElem?_append_right (by omega), Nat.add_sub_cancel_left]
  have g0 : ∀ (l : List Bs), gt (f ++ l) f.length = gt l 0 := fun l => g l 0
  unfold eraP
  rcases h4 with h4 | h4
  · have hT : eraT e = [Go.Clk.textL e.off, rulesT e.kind e.save e.rules, e.format] := by
      unfold eraT
      rw [h4]
      simp [tilZ]
    rw [hT]
    simp only [g, g0]
    have : ¬ (f.length + 3 < (f ++ [Go.Clk.textL e.off, rulesT e.kind e.save e.rules, e.format]).length) := by simp
    rw [if_neg this]
    simp only [gt, List.getD_cons_succ, List.getD_cons_zero, amt_text h1, rules_text h2, h3, req_some, chk_true, bind_ok]
    rw [← h4]
  · have hT : eraT e = [Go.Clk.textL e.off, rulesT e.kind e.save e.rules, e.format] ++ tilT e.til := by
      unfold eraT
      rw [if_pos h4.1]
    have hb := til_back h4 (f ++ [Go.Clk.textL e.off, rulesT e.kind e.save e.rules, e.format])
    have hlen := tilT_len e.til
    rw [hT]
    simp only [g, g0]
    have : f.length + 3 < (f ++ ([Go.Clk.textL e.off, rulesT e.kind e.save e.rules, e.format] ++ tilT e.til)).length := by simp; omega
    rw [if_pos this]
    rw [List.append_assoc, List.length_append] at hb
    have hb : untilP (f ++ ([Go.Clk.textL e.off, rulesT e.kind e.save e.rules, e.format] ++ tilT e.til)) (f.length + 3) = .ok e.til := hb
    rw [hb]
    have a0 : gt ([Go.Clk.textL e.off, rulesT e.kind e.save e.rules, e.format] ++ tilT e.til) 0 = Go.Clk.textL e.off := rfl
    have a1 : gt ([Go.Clk.textL e.off, rulesT e.kind e.save e.rules, e.format] ++ tilT e.til) 1 = rulesT e.kind e.save e.rules := rfl
    have a2 : gt ([Go.Clk.textL e.off, rulesT e.kind e.save e.rules, e.format] ++ tilT e.til) 2 = e.format := rfl
    rw [a0, a1, a2]
    simp only [amt_text h1, rules_text h2, h3, req_some, chk_true, bind_ok]
theorem link_back {a b : Bs} (h1 : Go.Kwd.zoneD a = true) (h2 : Go.Kwd.zoneD b = true) : linkP [linkW, a, b] = .ok () := by
  unfold linkP
  simp only [gt, List.getD_cons_succ, List.getD_cons_zero, h1, h2, chk_true, bind_ok]
theorem heads : contB ruleW = false ∧ contB zoneW = false ∧ contB linkW = false ∧ Go.Kwd.headD ruleW = 1 ∧ Go.Kwd.headD zoneW = 2 ∧ Go.Kwd.headD linkW = 3 := by decide +kernel
/-- what is shown is read as the same line, wherever its fields stand -/
theorem line_back {l : LineL} (h : lineOk l) {fs : List FPair} (hf : fs.map (·.1) = lineT l) : lineP fs = l := by
  have hlen : fs.length = (lineT l).length := by rw [← hf, List.length_map]
  obtain ⟨c1, c2, c3, d1, d2, d3⟩ := heads
  unfold lineP
  rcases h with h | ⟨h, hr⟩ | ⟨h, hz, he⟩ | ⟨h, he⟩ | ⟨h, ht, hn⟩
  · have hT : lineT l = [] := by rw [h]; rfl
    rw [hT] at hlen
    rw [if_pos (List.length_eq_zero_iff.1 hlen), h]
  · have hT : lineT l = ruleT l.rule := by rw [h]; rfl
    rw [hT] at hf hlen
    have hlen : fs.length = 10 := hlen
    rw [hf, if_neg (fun e => by rw [e] at hlen; cases hlen), show gt (ruleT l.rule) 0 = ruleW from rfl, c1, d1, if_neg (by decide), if_pos rfl, if_neg (by omega), rule_back hr]
    exact h.symm
  · have hT : lineT l = zoneW :: l.name :: eraT l.era := by rw [h]; rfl
    rw [hT] at hf hlen
    have hel := eraT_len l.era
    simp only [List.length_cons] at hlen
    rw [hf, if_neg (fun e => by rw [e] at hlen; simp at hlen), show gt (zoneW :: l.name :: eraT l.era) 0 = zoneW from rfl, show gt (zoneW :: l.name :: eraT l.era) 1 = l.name from rfl, c2, d2, if_neg (by decide), if_neg (by decide), if_pos rfl,
      if_neg (by omega), hz, chk_true, bind_ok, show eraP (zoneW :: l.name :: eraT l.era) 2 = .ok l.era from era_back he [zoneW, l.name]]
    exact h.symm
  · have hT : lineT l = eraT l.era := by rw [h]; rfl
    rw [hT] at hf hlen
    have hel := eraT_len l.era
    obtain ⟨c, r, e, hc, -⟩ := text_head l.era.off he.1
    have hc0 : contB (gt (eraT l.era) 0) = true := by
      show contB (Go.Clk.textL l.era.off) = true
      rw [e]
      exact cont_of r hc
    rw [hf, if_neg (fun e => by rw [e] at hlen; simp at hlen; omega), if_pos hc0, if_neg (by omega), show eraP (eraT l.era) 0 = .ok l.era from era_back he []]
    exact h.symm
  · have hT : lineT l = [linkW, l.target, l.name] := by rw [h]; rfl
    rw [hT] at hf hlen
    have hlen : fs.length = 3 := hlen
    rw [hf, if_neg (fun e => by rw [e] at hlen; cases hlen), show gt [linkW, l.target, l.name] 0 = linkW from rfl, show gt [linkW, l.target, l.name] 1 = l.target from rfl, show gt [linkW, l.target, l.name] 2 = l.name from rfl, c3, d3,
      if_neg (by decide), if_neg (by decide), if_neg (by decide), if_pos rfl, if_neg (by omega), link_back ht hn]
    exact h.symm
end Go.Lin
