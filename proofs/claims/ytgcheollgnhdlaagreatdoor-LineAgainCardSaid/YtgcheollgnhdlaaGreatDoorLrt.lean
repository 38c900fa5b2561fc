import Derived.Test.YtgcheollgnhdlaaGreatDoorLbk
namespace Go.Lin
open Go.Lib

/- what is read is right -/
theorem from_right {l : Bs} {y : Int} (h : fromP l = some y) : 1 ≤ y ∧ y ≤ 9999 := by
  unfold fromP at h
  generalize Go.Esc.parsed l = p at h
  by_cases hp : p.2 = 0 ∧ 1 ≤ p.1 ∧ p.1 ≤ 9999
  · rw [show Go.Kwd.yearD p = (p.1, 0) by rw [Go.Kwd.yearD, if_pos hp], if_pos rfl] at h
    injection h with h
    subst h
    exact hp.2
  · rw [show Go.Kwd.yearD p = (0, 8) by rw [Go.Kwd.yearD, if_neg hp], if_neg (by decide)] at h
    cases h
theorem to_right {l : Bs} {fr z : Int} (hf : 1 ≤ fr ∧ fr ≤ 9999) (h : toP l fr = some z) : (Go.Kwd.showToD fr z).2 = 0 := by
  unfold toP toD at h
  split at h
  · rename_i h1
    injection h with h
    generalize Go.Kwd.endD l = e at *
    unfold Go.Kwd.lastD at h1 h
    have hs : ∀ z : Int, (z = 10000 ∨ (fr ≤ z ∧ z ≤ 9999)) → (Go.Kwd.showToD fr z).2 = 0 := by
      intro z hz
      unfold Go.Kwd.showToD
      rw [if_neg (by omega)]
      rcases hz with rfl | hz
      · rw [if_pos rfl]
      · rw [if_neg (by omega), if_neg (by omega)]
        split <;> rfl
    split at h
    · exact hs z (by simp at h; omega)
    · split at h
      · exact hs z (by simp at h; omega)
      · rename_i g1 g2
        rw [if_neg g1, if_neg g2] at h1
        split at h
        · rename_i g3
          unfold Go.Kwd.yearD at g3 h
          split at h
          · rename_i g4
            rw [if_pos g4] at g3
            simp at h g3
            exact hs z (by omega)
          · rename_i g4
            rw [if_neg g4] at g3
            exact absurd g3.1 (by decide)
        · rename_i g3
          rw [if_neg g3] at h1
          exact absurd h1 (by decide)
  · cases h
theorem month_right {l : Bs} {m : Int} (h : monthP l = some m) : 1 ≤ m ∧ m ≤ 12 := by
  unfold monthP at h
  split at h
  · cases h
  · rename_i h0
    injection h with h
    have h1 : Go.Kwd.monthD l ≤ 0 + Go.Kwd.months.length := Go.Kwd.find_le _ _ 0 0 0 (Nat.le_refl _)
    have h2 : Go.Kwd.months.length = 12 := rfl
    omega
theorem day_right {l : Bs} {d : DayL} (h : dayP l = some d) : dayOk d := by
  unfold dayP at h
  rcases Go.Dfm.parse_cases l with ⟨k, n, w, hp, -, e⟩ | ⟨-, e⟩
  · rw [e] at h
    simp at h
    rw [← h]
    exact hp
  · rw [e] at h
    simp at h
theorem time_right {l : Bs} {t : AtL} (h : timeP l = some t) : timeOk t := by
  unfold timeP at h
  obtain ⟨⟨n, k⟩, hx, rfl⟩ := Option.map_eq_some_iff.1 h
  obtain ⟨h1, h2, h3⟩ := Go.Clk.parse_range hx
  exact ⟨h1, h2, by show (0 : Int) ≤ (k : Int); omega, by show (k : Int) ≤ 2; omega⟩
theorem amt_right {l : Bs} {n : Int} (h : Go.Clk.amtD l = some n) : amtOk n := by
  cases Go.Clk.of_amt h with
  | dash => exact ⟨by decide, by decide⟩
  | mk _ _ _ h1 h2 => exact ⟨h1, h2⟩
theorem letter_right {l x : Bs} (h : letterP l = some x) : letterOk x := by
  unfold letterP at h
  split at h
  · injection h with h
    exact .inl h.symm
  · split at h
    · rename_i h2
      injection h with h
      subst h
      exact .inr h2
    · cases h
theorem rules_right {l : Bs} {r : Int × Int × Bs} (h : rulesP l = some r) : rulesOk r.1 r.2.1 r.2.2 := by
  unfold rulesP at h
  split at h
  · rename_i h1
    injection h with h
    subst h
    exact .inr (.inr ⟨rfl, rfl, h1⟩)
  · split at h
    · injection h with h
      subst h
      exact .inl ⟨rfl, rfl, rfl⟩
    · obtain ⟨n, hn, rfl⟩ := Option.map_eq_some_iff.1 h
      exact .inr (.inl ⟨rfl, amt_right hn, rfl⟩)
theorem of_bind {α β : Type} {x : Except Er α} {f : α → Except Er β} {v : β} (h : x.bind f = .ok v) : ∃ a, x = .ok a ∧ f a = .ok v := by
  cases x with
  | error e => cases h
  | ok a => exact ⟨a, rfl, h⟩
theorem of_req {α : Type} {o : Option α} {i : Nat} {k : Int} {v : α} (h : req o i k = .ok v) : o = some v := by
  cases o with
  | none => cases h
  | some x => injection h with h; rw [h]
theorem of_chk {b : Bool} {i : Nat} {k : Int} {u : Unit} (h : chk b i k = .ok u) : b = true := by
  cases b with
  | false => cases h
  | true => rfl
theorem rule_right {f : List Bs} {r : RuleL} (h : ruleP f = .ok r) : ruleOk r := by
  unfold ruleP at h
  obtain ⟨_, a1, h⟩ := of_bind h
  obtain ⟨y, a2, h⟩ := of_bind h
  obtain ⟨z, a3, h⟩ := of_bind h
  obtain ⟨_, a4, h⟩ := of_bind h
  obtain ⟨m, a5, h⟩ := of_bind h
  obtain ⟨d, a6, h⟩ := of_bind h
  obtain ⟨_, a7, h⟩ := of_bind h
  obtain ⟨t, a8, h⟩ := of_bind h
  obtain ⟨s, a9, h⟩ := of_bind h
  obtain ⟨l, a10, h⟩ := of_bind h
  injection h with h
  subst h
  have hy := from_right (of_req a2)
  exact ⟨of_chk a1, hy, to_right hy (of_req a3), month_right (of_req a5), day_right (of_req a6), of_chk a7, time_right (of_req a8), amt_right (of_req a9), letter_right (of_req a10)⟩
theorem can_day1 {y m : Int} (hy : 1 ≤ y ∧ y ≤ 9999) (hm : 1 ≤ m ∧ m ≤ 12) : canB day1 y m = true := by
  have := Go.Civil.longI_ge (y := y) hm
  show Go.Civil.rightB y m 1 = true
  rw [Go.Civil.rightB_iff]
  omega
theorem til_right {f : List Bs} {a : Nat} {u : UntilL} (h : untilP f a = .ok u) : tilOk u := by
  unfold untilP at h
  obtain ⟨y, a1, h⟩ := of_bind h
  obtain ⟨m, a2, h⟩ := of_bind h
  obtain ⟨d, a3, h⟩ := of_bind h
  obtain ⟨t, a4, h⟩ := of_bind h
  injection h with h
  subst h
  have hy := from_right (of_req a1)
  have hm : 1 ≤ m ∧ m ≤ 12 := by
    unfold tilMonth at a2
    split at a2
    · exact month_right (of_req a2)
    · injection a2 with a2
      omega
  have hd : dayOk d ∧ canB d y m = true := by
    unfold tilDay at a3
    split at a3
    · obtain ⟨d', b1, a3⟩ := of_bind a3
      obtain ⟨_, b2, a3⟩ := of_bind a3
      injection a3 with a3
      subst a3
      exact ⟨day_right (of_req b1), of_chk b2⟩
    · injection a3 with a3
      subst a3
      exact ⟨.inl ⟨rfl, by decide, by decide, rfl⟩, can_day1 hy hm⟩
  have ht : timeOk t := by
    unfold tilTime at a4
    split at a4
    · exact time_right (of_req a4)
    · injection a4 with a4
      subst a4
      exact ⟨by decide, by decide, by decide, by decide⟩
  exact ⟨rfl, hy, hm, hd.1, hd.2, ht⟩
theorem era_right {f : List Bs} {a : Nat} {e : EraL} (h : eraP f a = .ok e) : eraOk e := by
  unfold eraP at h
  obtain ⟨o, a1, h⟩ := of_bind h
  obtain ⟨r, a2, h⟩ := of_bind h
  obtain ⟨_, a3, h⟩ := of_bind h
  obtain ⟨u, a4, h⟩ := of_bind h
  injection h with h
  subst h
  refine ⟨amt_right (of_req a1), rules_right (of_req a2), of_chk a3, ?_⟩
  split at a4
  · exact .inr (til_right a4)
  · injection a4 with a4
    exact .inl a4.symm
theorem link_right {f : List Bs} {u : Unit} (h : linkP f = .ok u) : Go.Kwd.zoneD (gt f 1) = true ∧ Go.Kwd.zoneD (gt f 2) = true := by
  unfold linkP at h
  obtain ⟨_, a1, h⟩ := of_bind h
  exact ⟨of_chk a1, of_chk h⟩
/-- what a line says is right, or it is wrong -/
theorem line_right (fs : List FPair) : lineOk (lineP fs) ∨ ∃ k c, lineP fs = wrongL k c ∧ k ≠ 0 ∧ ∃ i, c = colOf fs i := by
  have hw : ∀ {α : Type} (r : Except Er α) (g : α → LineL), (∀ e, r = .error e → e.2 ≠ 0) → (∀ v, r = .ok v → lineOk (g v)) → lineOk (outL fs r g) ∨ ∃ k c, outL fs r g = wrongL k c ∧ k ≠ 0 ∧ ∃ i, c = colOf fs i := by
    intro α r g h1 h2
    cases r with
    | ok v => exact .inl (h2 v rfl)
    | error e => exact .inr ⟨_, _, rfl, h1 e rfl, _, rfl⟩
  have hbind : ∀ {α β : Type} {x : Except Er α} {f : α → Except Er β} {e : Er}, x.bind f = .error e → (∀ e, x = .error e → e.2 ≠ 0) → (∀ a e, f a = .error e → e.2 ≠ 0) → e.2 ≠ 0 := by
    intro α β x f e h h1 h2
    cases x with
    | error e' => exact h1 e (by injection h with h; rw [h])
    | ok a => exact h2 a e h
  have hreq : ∀ {α : Type} (o : Option α) (i : Nat) (k : Int), k ≠ 0 → ∀ e, req o i k = .error e → e.2 ≠ 0 := by
    intro α o i k hk e h
    cases o with
    | some v => cases h
    | none => injection h with h; subst h; exact hk
  have hchk : ∀ (b : Bool) (i : Nat) (k : Int), k ≠ 0 → ∀ e, chk b i k = .error e → e.2 ≠ 0 := by
    intro b i k hk e h
    cases b with
    | true => cases h
    | false => injection h with h; subst h; exact hk
  have hok : ∀ {α : Type} (v : α) (e : Er), (Except.ok v : Except Er α) = .error e → e.2 ≠ 0 := fun v e h => by cases h
  have htil : ∀ (f : List Bs) (a : Nat) (e : Er), untilP f a = .error e → e.2 ≠ 0 := by
    intro f a e h
    unfold untilP at h
    refine hbind h (hreq _ _ _ (by decide)) (fun y e h => hbind h ?_ (fun m e h => hbind h ?_ (fun d e h => hbind h ?_ (fun t e h => hok _ _ h))))
    · intro e h
      unfold tilMonth at h
      split at h
      · exact hreq _ _ _ (by decide) _ h
      · exact hok _ _ h
    · intro e h
      unfold tilDay at h
      split at h
      · exact hbind h (hreq _ _ _ (by decide)) (fun d e h => hbind h (hchk _ _ _ (by decide)) (fun _ e h => hok _ _ h))
      · exact hok _ _ h
    · intro e h
      unfold tilTime at h
      split at h
      · exact hreq _ _ _ (by decide) _ h
      · exact hok _ _ h
  have hera : ∀ (f : List Bs) (a : Nat) (e : Er), eraP f a = .error e → e.2 ≠ 0 := by
    intro f a e h
    unfold eraP at h
    refine hbind h (hreq _ _ _ (by decide)) (fun o e h => hbind h (hreq _ _ _ (by decide)) (fun r e h => hbind h (hchk _ _ _ (by decide)) (fun _ e h => hbind h ?_ (fun u e h => hok _ _ h))))
    intro e h
    split at h
    · exact htil _ _ _ h
    · exact hok _ _ h
  unfold lineP
  split
  · exact .inl (.inl rfl)
  · split
    · split
      · exact .inr ⟨_, _, rfl, by decide, _, rfl⟩
      · exact hw _ _ (hera _ _) (fun e he => .inr (.inr (.inr (.inl ⟨rfl, era_right he⟩))))
    · split
      · split
        · exact .inr ⟨_, _, rfl, by decide, _, rfl⟩
        · refine hw _ _ ?_ (fun r hr => .inr (.inl ⟨rfl, rule_right hr⟩))
          intro e h
          unfold ruleP at h
          exact hbind h (hchk _ _ _ (by decide)) (fun _ e h => hbind h (hreq _ _ _ (by decide)) (fun _ e h => hbind h (hreq _ _ _ (by decide)) (fun _ e h => hbind h (hchk _ _ _ (by decide)) (fun _ e h => hbind h (hreq _ _ _ (by decide)) (fun _ e h =>
            hbind h (hreq _ _ _ (by decide)) (fun _ e h => hbind h (hchk _ _ _ (by decide)) (fun _ e h => hbind h (hreq _ _ _ (by decide)) (fun _ e h => hbind h (hreq _ _ _ (by decide)) (fun _ e h => hbind h (hreq _ _ _ (by decide)) (fun _ e h => hok _ _ h))))))))))
      · split
        · split
          · exact .inr ⟨_, _, rfl, by decide, _, rfl⟩
          · refine hw _ _ (fun e h => hbind h (hchk _ _ _ (by decide)) (fun _ e h => hera _ _ _ h)) ?_
            intro e h
            obtain ⟨_, a1, h⟩ := of_bind h
            exact .inr (.inr (.inl ⟨rfl, of_chk a1, era_right h⟩))
        · split
          · split
            · exact .inr ⟨_, _, rfl, by decide, _, rfl⟩
            · refine hw _ _ (fun e h => hbind h (hchk _ _ _ (by decide)) (fun _ e h => hchk _ _ _ (by decide) _ h)) ?_
              intro u h
              exact .inr (.inr (.inr (.inr ⟨rfl, link_right h⟩)))
          · exact .inr ⟨_, _, rfl, by decide, _, rfl⟩
theorem ok_kind {l : LineL} (h : lineOk l) : l.kind ≠ 5 := by
  rcases h with h | ⟨h, -⟩ | ⟨h, -, -⟩ | ⟨h, -⟩ | ⟨h, -, -⟩ 
  · rw [h]; exact by decide
  · rw [h]; exact (by decide : (1 : Int) ≠ 5)
  · rw [h]; exact (by decide : (2 : Int) ≠ 5)
  · rw [h]; exact (by decide : (3 : Int) ≠ 5)
  · rw [h]; exact (by decide : (4 : Int) ≠ 5)
theorem wrong_no (k c : Int) : ¬ lineOk (wrongL k c) := fun h => ok_kind h rfl
/-- what a line says hangs on its fields alone, but for the columns -/
theorem line_fields {fs gs : List FPair} (h : fs.map (·.1) = gs.map (·.1)) : { lineP fs with col := 0 } = { lineP gs with col := 0 } := by
  have hlen : fs.length = gs.length := by have := congrArg List.length h; simpa using this
  have hnil : fs = [] ↔ gs = [] := by rw [← List.length_eq_zero_iff, ← List.length_eq_zero_iff, hlen]
  have hw : ∀ k c d : Int, ({ wrongL k c with col := 0 } : LineL) = { wrongL k d with col := 0 } := fun _ _ _ => rfl
  have ho : ∀ {α : Type} (r : Except Er α) (g : α → LineL), ({ outL fs r g with col := 0 } : LineL) = { outL gs r g with col := 0 } := by
    intro α r g
    cases r <;> rfl
  unfold lineP
  rw [h, hlen]
  by_cases hf : fs = []
  · rw [if_pos hf, if_pos (hnil.1 hf)]
  · rw [if_neg hf, if_neg (fun e => hf (hnil.2 e))]
    split
    · split
      · exact hw _ _ _
      · exact ho _ _
    · split
      · split
        · exact hw _ _ _
        · exact ho _ _
      · split
        · split
          · exact hw _ _ _
          · exact ho _ _
        · split
          · split
            · exact hw _ _ _
            · exact ho _ _
          · exact hw _ _ _
end Go.Lin
