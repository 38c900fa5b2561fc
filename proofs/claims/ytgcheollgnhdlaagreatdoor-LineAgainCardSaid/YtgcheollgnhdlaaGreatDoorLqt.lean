import Derived.Test.YtgcheollgnhdlaaGreatDoorLrt
namespace Go.Lin
open Go.Lib

/-- a text of at most n bytes, none of them a quote -/
def Pl (n : Nat) (s : Bs) : Prop := (34 : UInt8) ∉ s ∧ s.length ≤ n
theorem Pl.app {n m : Nat} {a b : Bs} (h : Pl n a) (k : Pl m b) : Pl (n + m) (a ++ b) := by
  refine ⟨fun e => ?_, by rw [List.length_append]; exact Nat.add_le_add h.2 k.2⟩
  rcases List.mem_append.1 e with e | e
  · exact h.1 e
  · exact k.1 e
theorem Pl.mono {n m : Nat} {a : Bs} (h : Pl n a) (hn : n ≤ m) : Pl m a := ⟨h.1, Nat.le_trans h.2 hn⟩
theorem all_no {P : UInt8 → Bool} (hP : P 34 = false) {s : Bs} (h : s.all P = true) : (34 : UInt8) ∉ s := fun e => by
  have := List.all_eq_true.1 h 34 e
  rw [hP] at this
  cases this
theorem pl_itoa {n : Int} (h : 0 ≤ n ∧ n ≤ 9999) : Pl 20 (itoa n) := by
  refine ⟨?_, Go.Esc.itoa_len n (by unfold Go.Esc.inRange; omega)⟩
  rw [Go.Esc.itoa_pos (by omega)]
  exact all_no (by decide) (Go.Esc.dec_digits n.toNat).1
theorem pl_to {fr to : Int} (h : (Go.Kwd.showToD fr to).2 = 0) : Pl 20 (Go.Kwd.showToD fr to).1 := by
  unfold Go.Kwd.showToD at *
  split
  · rename_i h1
    rw [if_pos h1] at h
    exact absurd h (by decide)
  · split
    · exact ⟨by decide, by decide⟩
    · split
      · exact ⟨by decide, by decide⟩
      · split
        · exact ⟨by decide, by decide⟩
        · exact pl_itoa (by omega)
theorem pl_month {m : Int} (h : 1 ≤ m ∧ m ≤ 12) : Pl 3 (Go.Kwd.showMonthD m) := by
  have H : ∀ k : Fin 12, (34 : UInt8) ∉ Go.Kwd.showMonthD ((k.val : Int) + 1) ∧ (Go.Kwd.showMonthD ((k.val : Int) + 1)).length ≤ 3 := by decide +kernel
  obtain ⟨k, hk⟩ : ∃ k : Nat, m = (k : Int) + 1 := ⟨(m - 1).toNat, by omega⟩
  rw [hk]
  exact H ⟨k, by omega⟩
theorem pl_name {w : Int} (h : 0 ≤ w ∧ w < 7) : Pl 3 (Go.Dfm.nameI w) := by
  rcases Go.Dfm.seven h.1 h.2 with rfl | rfl | rfl | rfl | rfl | rfl | rfl <;> exact ⟨by decide, by decide⟩
theorem pl_small {d : Int} (h : 1 ≤ d ∧ d ≤ 31) : Pl 2 (itoa d) := by
  have H : ∀ k : Fin 32, (34 : UInt8) ∉ Go.Dfm.decL k.val ∧ (Go.Dfm.decL k.val).length ≤ 2 := by decide +kernel
  rw [Go.Dfm.itoa_small h.1 h.2]
  exact H ⟨d.toNat, by omega⟩
theorem pl_day {d : DayL} (h : dayOk d) : Pl 7 (dayT d) := by
  obtain ⟨k, n, w⟩ := d
  have g : Pl 2 Go.Dfm.geL := ⟨by decide, by decide⟩
  have g2 : Pl 2 Go.Dfm.leL := ⟨by decide, by decide⟩
  have g3 : Pl 4 Go.Dfm.lastL := ⟨by decide, by decide⟩
  show Pl 7 (Go.Dfm.textD k n w)
  rcases h with ⟨rfl, h1, h2, -⟩ | ⟨rfl, -, h1, h2⟩ | ⟨rfl | rfl, h1, h2, h3, h4⟩
  · exact (pl_small ⟨h1, h2⟩).mono (by decide)
  · exact g3.app (pl_name ⟨h1, h2⟩)
  · exact ((pl_name ⟨h3, h4⟩).app g).app (pl_small ⟨h1, h2⟩)
  · exact ((pl_name ⟨h3, h4⟩).app g2).app (pl_small ⟨h1, h2⟩)
theorem dig_34 {c : UInt8} (h : Go.Clk.digB c = true) : c ≠ 34 := fun e => by rw [e] at h; exact absurd h (by decide)
theorem pl_six {x : Bs} {n : Nat} (h : Go.Clk.Six x n) : Pl 2 x := by
  cases h with
  | mk a b h1 h2 _ => exact ⟨by simp [(dig_34 h1).symm, (dig_34 h2).symm], by simp⟩
theorem pl_hrs {x : Bs} {n : Nat} (h : Go.Clk.Hrs x n) : Pl 3 x := by
  cases h with
  | one a h1 => exact ⟨by simp [(dig_34 h1).symm], by simp⟩
  | two a b h1 h2 => exact ⟨by simp [(dig_34 h1).symm, (dig_34 h2).symm], by simp⟩
  | three a b c h1 h2 h3 => exact ⟨by simp [(dig_34 h1).symm, (dig_34 h2).symm, (dig_34 h3).symm], by simp⟩
theorem pl_cons {c : UInt8} {n : Nat} {x : Bs} (hc : c ≠ 34) (h : Pl n x) : Pl (n + 1) (c :: x) := ⟨by simp [hc.symm, h.1], by simp [h.2]⟩
theorem pl_mns {x : Bs} {n : Nat} (h : Go.Clk.Mns x n) : Pl 6 x := by
  cases h with
  | nil => exact ⟨by simp, by simp⟩
  | m x n h => exact (pl_cons (by decide) (pl_six h)).mono (by decide)
  | ms x y n k h1 h2 => exact (pl_cons (by decide) ((pl_six h1).app (pl_cons (by decide) (pl_six h2)))).mono (by decide)
theorem pl_txt {x : Bs} {n : Nat} (h : Go.Clk.Txt x n) : Pl 9 x := by
  cases h with
  | mk a b n k h1 h2 => exact (pl_hrs h1).app (pl_mns h2)
theorem pl_sgn {x : Bs} {n : Int} (h : Go.Clk.Sgn x n) : Pl 10 x := by
  cases h with
  | pos t m h => exact (pl_txt h).mono (by decide)
  | neg t m h => exact pl_cons (by decide) (pl_txt h)
theorem pl_amt {n : Int} (h : amtOk n) : Pl 10 (Go.Clk.textL n) := pl_sgn (Go.Clk.sgn_show (by have := h.1; omega) (by have := h.2; omega))
theorem pl_time {t : AtL} (h : timeOk t) : Pl 11 (timeT t) := by
  refine (pl_sgn (Go.Clk.sgn_show h.1 h.2.1)).app (m := 1) ?_
  unfold Go.Clk.markL
  split
  · exact ⟨by decide, by decide⟩
  · split
    · exact ⟨by decide, by decide⟩
    · exact ⟨by decide, by decide⟩
theorem pl_letter {l : Bs} (h : letterOk l) : Pl 6 (letterT l) := by
  unfold letterT
  split
  · exact ⟨by decide, by decide⟩
  · rename_i hn
    rcases h with h | h
    · exact absurd h hn
    · exact ⟨all_no (by decide) h.2.2, h.2.1⟩
theorem zone_no : ∀ (l : Bs) (b : Bool), Go.Kwd.zoneM b l = true → (34 : UInt8) ∉ l
  | [], _, _ => by simp
  | c :: r, b, h => by
    unfold Go.Kwd.zoneM at h
    split at h
    · rename_i hc
      rw [Bool.and_eq_true] at h
      have := zone_no r true h.2
      simp [this, hc]
    · rw [Bool.and_eq_true] at h
      have := zone_no r false h.2
      have hc : c ≠ 34 := fun e => by
        have h1 := h.1
        rw [e] at h1
        revert h1
        cases b <;> decide
      simp [this, hc.symm]
theorem pl_zone {l : Bs} (h : Go.Kwd.zoneD l = true) : Pl 30 l := by
  unfold Go.Kwd.zoneD at h
  simp only [Bool.and_eq_true, decide_eq_true_eq] at h
  exact ⟨zone_no l true h.2, h.1.2⟩
theorem pl_rule {l : Bs} (h : Go.Kwd.ruleD l = true) : Pl 30 l := pl_zone (Go.Kwd.rule_zone h)
theorem fmt_no : ∀ (l : Bs) (n : Nat), fmtM n l = true → (34 : UInt8) ∉ l
  | [], _, _ => by simp
  | c :: r, n, h => by
    unfold fmtM at h
    split at h
    · rename_i hc
      rw [Bool.and_eq_true] at h
      have := fmt_no r _ h.2
      simp [this, hc]
    · split at h
      · rename_i hc
        rw [Bool.and_eq_true] at h
        have := fmt_no r _ h.2
        simp [this, hc]
      · rw [Bool.and_eq_true] at h
        have := fmt_no r n h.2
        have hc34 : c ≠ 34 := fun e => by
          have := h.1
          rw [e] at this
          exact absurd this (by decide)
        simp [this, hc34.symm]
theorem pl_format {l : Bs} (h : formatB l = true) : Pl 20 l := by
  unfold formatB at h
  simp only [Bool.and_eq_true, decide_eq_true_eq] at h
  exact ⟨fmt_no l 1 h.2, h.1.2⟩
theorem pl_rules {k s : Int} {n : Bs} (h : rulesOk k s n) : Pl 30 (rulesT k s n) := by
  rcases h with ⟨rfl, rfl, rfl⟩ | ⟨rfl, h, rfl⟩ | ⟨rfl, rfl, h⟩
  · exact ⟨by decide, by decide⟩
  · exact (pl_amt h).mono (by decide)
  · exact pl_rule h

/- fields, with a bound of what a line of them is long -/
inductive Pls : Nat → List Bs → Prop
  | nil : Pls 0 []
  | cons (n m : Nat) (s : Bs) (l : List Bs) : Pl n s → Pls m l → Pls (n + 3 + m) (s :: l)
theorem Pls.no {n : Nat} {l : List Bs} (h : Pls n l) : (l.any fun s => s.contains 34) = false := by
  induction h with
  | nil => rfl
  | cons n m s l h1 _ ih =>
    rw [List.any_cons, ih, Bool.or_false]
    have := h1.1
    simpa using this
theorem one_le (x : Bs) : (Go.Lxr.showOne x).length ≤ x.length + 2 := by
  unfold Go.Lxr.showOne
  split <;> simp
theorem Pls.len {n : Nat} {l : List Bs} (h : Pls n l) : (Go.Lxr.joinL l).length ≤ n := by
  induction h with
  | nil => simp [Go.Lxr.joinL]
  | cons n m s l h1 _ ih =>
    have h2 := one_le s
    have h3 := h1.2
    cases l with
    | nil =>
      show (Go.Lxr.showOne s).length ≤ _
      omega
    | cons t l =>
      show (Go.Lxr.showOne s ++ 32 :: Go.Lxr.joinL (t :: l)).length ≤ _
      rw [List.length_append, List.length_cons]
      omega
theorem Pls.show {n : Nat} {l : List Bs} (h : Pls n l) (hn : n ≤ 200) : Go.Lxr.showD l = (Go.Lxr.joinL l, 0) := by
  unfold Go.Lxr.showD
  have := h.len
  rw [h.no, if_neg (by decide), if_neg (by omega)]
theorem Pls.app {n m : Nat} {a b : List Bs} (h : Pls n a) (k : Pls m b) : Pls (n + m) (a ++ b) := by
  induction h with
  | nil => simpa using k
  | cons n m' s l h1 _ ih =>
    rw [show n + 3 + m' + m = n + 3 + (m' + m) by omega]
    exact .cons _ _ _ _ h1 ih
theorem pls_rule {r : RuleL} (h : ruleOk r) : Pls 142 (ruleT r) := by
  obtain ⟨h1, h2, h3, h4, h5, h6, h7, h8, h9⟩ := h
  have w1 : Pl 4 ruleW := ⟨by decide, by decide⟩
  have w2 : Pl 1 [45] := ⟨by decide, by decide⟩
  have := Pls.cons 4 _ _ _ w1 (.cons 30 _ _ _ (pl_rule h1) (.cons 20 _ _ _ (pl_itoa (n := r.fr) (by omega)) (.cons 20 _ _ _ (pl_to h3) (.cons 1 _ _ _ w2 (.cons 3 _ _ _ (pl_month h4) (.cons 7 _ _ _ (pl_day h5) (.cons 11 _ _ _ (pl_time h7) (.cons 10 _ _ _ (pl_amt h8) (.cons 6 _ _ _ (pl_letter h9) .nil)))))))))
  exact this
theorem pls_tak {n : Nat} {l : List Bs} (h : Pls n l) : ∀ k, ∃ m, m ≤ n ∧ Pls m (l.take k) := by
  induction h with
  | nil => intro k; exact ⟨0, Nat.le_refl _, by simpa using Pls.nil⟩
  | cons n m s l h1 _ ih =>
    intro k
    cases k with
    | zero => exact ⟨0, by omega, .nil⟩
    | succ k =>
      obtain ⟨m', h2, h3⟩ := ih k
      exact ⟨n + 3 + m', by omega, .cons _ _ _ _ h1 h3⟩
theorem pls_til {u : UntilL} (h : tilOk u) : ∃ m, m ≤ 53 ∧ Pls m (tilT u) := by
  obtain ⟨h1, h2, h3, h4, h5, h6⟩ := h
  have := Pls.cons 20 _ _ _ (pl_itoa (n := u.year) (by omega)) (.cons 3 _ _ _ (pl_month h3) (.cons 7 _ _ _ (pl_day h4) (.cons 11 _ _ _ (pl_time h6) .nil)))
  exact pls_tak this (tilN u)
theorem pls_era {e : EraL} (h : eraOk e) : ∃ m, m ≤ 122 ∧ Pls m (eraT e) := by
  obtain ⟨h1, h2, h3, h4⟩ := h
  have hb := Pls.cons 10 _ _ _ (pl_amt h1) (.cons 30 _ _ _ (pl_rules h2) (.cons 20 _ _ _ (pl_format h3) .nil))
  unfold eraT
  split
  · rename_i ht
    rcases h4 with h4 | h4
    · rw [h4] at ht
      exact absurd ht (by decide)
    · obtain ⟨m, hm, hp⟩ := pls_til h4
      exact ⟨_, by omega, hb.app hp⟩
  · exact ⟨_, by omega, hb.app .nil⟩
theorem pls_line {l : LineL} (h : lineOk l) : ∃ m, m ≤ 200 ∧ Pls m (lineT l) := by
  have z : Pl 4 zoneW := ⟨by decide, by decide⟩
  have k : Pl 4 linkW := ⟨by decide, by decide⟩
  rcases h with h | ⟨h, hr⟩ | ⟨h, hz, he⟩ | ⟨h, he⟩ | ⟨h, ht, hn⟩
  · exact ⟨0, by omega, by rw [h]; exact .nil⟩
  · exact ⟨142, by omega, by rw [show lineT l = ruleT l.rule by rw [h]; rfl]; exact pls_rule hr⟩
  · obtain ⟨m, hm, hp⟩ := pls_era he
    exact ⟨4 + 3 + (30 + 3 + m), by omega, by rw [show lineT l = zoneW :: l.name :: eraT l.era by rw [h]; rfl]; exact .cons 4 _ _ _ z (.cons 30 _ _ _ (pl_zone hz) hp)⟩
  · obtain ⟨m, hm, hp⟩ := pls_era he
    exact ⟨m, by omega, by rw [show lineT l = eraT l.era by rw [h]; rfl]; exact hp⟩
  · exact ⟨4 + 3 + (30 + 3 + (30 + 3 + 0)), by omega, by rw [show lineT l = [linkW, l.target, l.name] by rw [h]; rfl]; exact .cons 4 _ _ _ k (.cons 30 _ _ _ (pl_zone ht) (.cons 30 _ _ _ (pl_zone hn) .nil))⟩
/-- a right line can be shown -/
theorem line_show {l : LineL} (h : lineOk l) : Go.Lxr.showD (lineT l) = (Go.Lxr.joinL (lineT l), 0) := by
  obtain ⟨m, hm, hp⟩ := pls_line h
  exact hp.show hm
theorem line_len {l : LineL} (h : lineOk l) : (Go.Lxr.joinL (lineT l)).length ≤ 200 := by
  obtain ⟨m, hm, hp⟩ := pls_line h
  have := hp.len
  omega
/-- its text has its fields, and says it -/
theorem line_read {l : LineL} (h : lineOk l) : ∃ fs, Go.Lxr.fieldsD 0 (Go.Lxr.joinL (lineT l)) = .ok fs ∧ fs.map (·.1) = lineT l ∧ lineP fs = l := by
  obtain ⟨m, hm, hp⟩ := pls_line h
  have hno := hp.no
  obtain ⟨fs, h1, h2⟩ := Go.Lxr.fields_show (lineT l) 0 (fun s hs e => by
    have := List.any_eq_false.1 hno s hs
    simp at this
    exact this e)
  exact ⟨fs, h1, h2, line_back h h2⟩
end Go.Lin
