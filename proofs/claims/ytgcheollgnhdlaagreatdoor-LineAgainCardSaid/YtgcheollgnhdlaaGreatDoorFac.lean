import Derived.Test.YtgcheollgnhdlaaGreatDoorLco
import Derived.Test.YtgcheollgnhdlaaGreatDoorS8Yrs
namespace Go.Proofs.YtgcheollgnhdlaaGreatDoor
open Go.RowKit Go.Mem Go.Lin

/- the packages that line stands on, in its own words -/
def amtV (l : Bs) : Int × Int := match Go.Clk.amtD l with
  | some n => (n, 0)
  | none => (0, 7)
theorem amount_any (l : Bs) (hl : l.length ≤ 1000000) (W : World) (n k : Int) (h : amtV l = (n, k)) : Calls Tryz.prog 72 #[strV l] W fun e w' => e = .returned (.tuple #[intV n, intV k]) ∧ Fr W w' (fun _ => False) := by
  refine (S5.Amount_any l W hl).mono ?_
  rintro e w' ⟨hf, he⟩
  unfold amtV at h
  cases hx : Go.Clk.amtD l with
  | none =>
    rw [hx] at he h
    obtain ⟨rfl, rfl⟩ := Prod.mk.inj h
    exact ⟨he, hf⟩
  | some v =>
    rw [hx] at he h
    obtain ⟨rfl, rfl⟩ := Prod.mk.inj h
    exact ⟨he, hf⟩
def timeV (l : Bs) : AtL × Int := match timeP l with
  | some t => (t, 0)
  | none => (atZ, 7)
theorem time_any (l : Bs) (hl : l.length ≤ 1000000) (W : World) (t : AtL) (k : Int) (h : timeV l = (t, k)) : Calls Tryz.prog 71 #[strV l] W fun e w' => e = .returned (.tuple #[atV t, intV k]) ∧ Fr W w' (fun _ => False) := by
  refine (S5.Parse_any l W hl).mono ?_
  rintro e w' ⟨hf, he⟩
  unfold timeV timeP at h
  cases hx : Go.Clk.parseD l with
  | none =>
    rw [hx] at he h
    obtain ⟨rfl, rfl⟩ := Prod.mk.inj h
    exact ⟨he, hf⟩
  | some v =>
    rw [hx] at he h
    obtain ⟨rfl, rfl⟩ := Prod.mk.inj h
    exact ⟨he, hf⟩
def dayW (l : Bs) : DayL × Int := match dayP l with
  | some d => (d, 0)
  | none => (dayZ, 6)
theorem day_any (l : Bs) (hl : l.length ≤ 100000) (W : World) (hw : LOk W) (d : DayL) (k : Int) (h : dayW l = (d, k)) : Calls Tryz.prog 95 #[strV l] W fun e w' => e = .returned (.tuple #[dayV d, intV k]) ∧ Fr W w' (fun _ => False) := by
  unfold dayW dayP at h
  rcases Go.Dfm.parse_cases l with ⟨a, b, c, -, -, hp⟩ | ⟨-, hp⟩
  · rw [hp] at h
    obtain ⟨rfl, rfl⟩ := Prod.mk.inj h
    exact S6.Parse_any l hl W hw.base _ _ _ _ hp
  · rw [hp] at h
    obtain ⟨rfl, rfl⟩ := Prod.mk.inj h
    exact S6.Parse_any l hl W hw.base _ _ _ _ hp
theorem of_can (d : DayL) (hd : dayOk d) (y m : Int) (W : World) (hw : LOk W) : ∃ n k : Int, (k = 0 ↔ canB d y m = true) ∧ (k = 0 ∨ (n = 0 ∧ k = 6)) ∧ Calls Tryz.prog 96 #[dayV d, intV y, intV m] W fun e w' => e = .returned (.tuple #[intV n, intV k]) ∧ Fr W w' (fun _ => False) := by
  have hr : Go.Dfm.rightB d.k d.d d.w = true := Go.Dfm.rightB_iff.2 hd
  have hE : S6.daysE y m (S6.dayOf d.k d.d y m) = if canB d y m = true then 0 else 6 := rfl
  obtain ⟨n, k, h⟩ : ∃ n k, S6.ofD d.k d.d d.w y m = (n, k) := ⟨_, _, rfl⟩
  refine ⟨n, k, ?_, ?_, S6.Of_any d.k d.d d.w y m W hw.base n k h⟩
  · unfold S6.ofD at h
    rw [if_pos hr, hE] at h
    cases hc : canB d y m with
    | true =>
      rw [hc, if_pos rfl, if_pos rfl] at h
      obtain ⟨-, rfl⟩ := Prod.mk.inj h
      simp
    | false =>
      rw [hc, if_neg (by decide)] at h
      obtain ⟨-, rfl⟩ := Prod.mk.inj h
      simp
  · unfold S6.ofD at h
    rw [if_pos hr, hE] at h
    cases hc : canB d y m with
    | true =>
      rw [hc, if_pos rfl, if_pos rfl] at h
      obtain ⟨-, rfl⟩ := Prod.mk.inj h
      exact .inl rfl
    | false =>
      rw [hc, if_neg (by decide)] at h
      obtain ⟨rfl, rfl⟩ := Prod.mk.inj h
      exact .inr ⟨rfl, rfl⟩
def fromV (l : Bs) : Int × Int := match fromP l with
  | some y => (y, 0)
  | none => (0, 8)
theorem from_any (l : Bs) (hl : l.length ≤ 100000) (W : World) (hw : LOk W) (y k : Int) (h : fromV l = (y, k)) : Calls Tryz.prog 63 #[strV l] W fun e w' => e = .returned (.tuple #[intV y, intV k]) ∧ Fr W w' (fun _ => False) := by
  refine S8.From_any l W (by omega) hw.kwd (y, k) ?_
  rw [← h]
  unfold fromV fromP
  rcases Go.Kwd.year_kind (Go.Esc.parsed l) with hk | hk
  · rw [if_pos hk, ← hk]
  · rw [hk, if_neg (by decide)]
def toV (l : Bs) (fr : Int) : Int × Int := match toP l fr with
  | some y => (y, 0)
  | none => (0, 8)
theorem to_any (l : Bs) (fr : Int) (hl : l.length ≤ 100000) (W : World) (hw : LOk W) (y k : Int) (h : toV l fr = (y, k)) : Calls Tryz.prog 65 #[strV l, intV fr] W fun e w' => e = .returned (.tuple #[intV y, intV k]) ∧ Fr W w' (fun _ => False) := by
  refine S8.To_any l fr W (by omega) hw.kwd (y, k) ?_
  rw [← h]
  unfold toV toP
  show toD l fr = _
  rcases Go.Kwd.last_kind (Go.Kwd.endD l) (Go.Esc.parsed l) fr with hk | hk
  · have hk : (toD l fr).2 = 0 := hk
    rw [if_pos hk, ← hk]
  · have hk : toD l fr = (0, 8) := hk
    rw [hk, if_neg (by decide)]
theorem month_any (l : Bs) (hl : l.length ≤ 1000000) (W : World) (n : Nat) (h : Go.Kwd.monthD l = n) : Calls Tryz.prog 93 #[strV l] W fun e w' => e = .returned (intV (n : Int)) ∧ Fr W w' (fun _ => False) := S8.Month_any l W hl n h
theorem head_any (l : Bs) (hl : l.length ≤ 1000000) (W : World) (n : Nat) (h : Go.Kwd.headD l = n) : Calls Tryz.prog 88 #[strV l] W fun e w' => e = .returned (intV (n : Int)) ∧ Fr W w' (fun _ => False) := S8.Head_any l W hl n h
theorem zone_any (l : Bs) (hl : l.length ≤ 1000000) (W : World) (hw : LOk W) (b : Bool) (h : Go.Kwd.zoneD l = b) : Calls Tryz.prog 75 #[strV l] W fun e w' => e = .returned (.bool b) ∧ Fr W w' (fun _ => False) := S8.Zone_any l W hl hw.kwd b h
theorem rule_any (l : Bs) (hl : l.length ≤ 1000000) (W : World) (b : Bool) (h : Go.Kwd.ruleD l = b) : Calls Tryz.prog 90 #[strV l] W fun e w' => e = .returned (.bool b) ∧ Fr W w' (fun _ => False) := S8.Rule_any l W hl b h
theorem showMonth_any (m : Int) (W : World) (t : Bs) (h : Go.Kwd.showMonthD m = t) : Calls Tryz.prog 37 #[intV m] W fun e w' => e = .returned (strV t) ∧ Fr W w' (fun _ => False) := by
  subst h
  exact S8.ShowMonth_any m W
theorem showTo_any (fr tt : Int) (W : World) (hw : LOk W) (s : Bs) (k : Int) (h : Go.Kwd.showToD fr tt = (s, k)) : Calls Tryz.prog 36 #[intV fr, intV tt] W fun e w' => e = .returned (.tuple #[strV s, intV k]) ∧ Fr W w' (fun _ => False) := S8.ShowTo_any fr tt W hw.kwd s k h
theorem int_any (n : Int) (hn : Go.Esc.inRange n) (W : World) (hw : LOk W) (t : Bs) (h : Go.Lib.itoa n = t) : Calls Tryz.prog 53 #[intV n] W fun e w' => e = .returned (strV t) ∧ Fr W w' (fun _ => False) := by
  subst h
  exact S8.Int_any n W hn hw.kwd
instance (t : AtL) : Decidable (timeOk t) := inferInstanceAs (Decidable (_ ∧ _))
instance (n : Int) : Decidable (amtOk n) := inferInstanceAs (Decidable (_ ∧ _))
instance (d : DayL) : Decidable (dayOk d) := inferInstanceAs (Decidable (Go.Dfm.rightP _ _ _))
def timeS (t : AtL) : Bs × Int := if timeOk t then (timeT t, 0) else ([], 1)
theorem showTime_any (t : AtL) (W : World) (hw : LOk W) (s : Bs) (k : Int) (h : timeS t = (s, k)) : Calls Tryz.prog 39 #[atV t] W fun e w' => e = .returned (.tuple #[strV s, intV k]) ∧ Fr W w' (fun _ => False) := by
  obtain ⟨B, hB, hg⟩ := LOk.clk hw
  refine (S5.Show_any B t.s t.k W hB hg).mono ?_
  rintro e w' ⟨hf, he⟩
  unfold S5.showT at he
  unfold timeS at h
  by_cases ht : timeOk t
  · rw [if_pos ht] at h
    rw [if_pos ⟨⟨ht.1, ht.2.1⟩, ht.2.2⟩] at he
    obtain ⟨rfl, rfl⟩ := Prod.mk.inj h
    exact ⟨he, hf⟩
  · rw [if_neg ht] at h
    rw [if_neg (fun x => ht ⟨x.1.1, x.1.2, x.2⟩)] at he
    obtain ⟨rfl, rfl⟩ := Prod.mk.inj h
    exact ⟨he, hf⟩
def amtS (n : Int) : Bs × Int := if amtOk n then (Go.Clk.textL n, 0) else ([], 1)
theorem showAmount_any (n : Int) (W : World) (hw : LOk W) (s : Bs) (k : Int) (h : amtS n = (s, k)) : Calls Tryz.prog 40 #[intV n] W fun e w' => e = .returned (.tuple #[strV s, intV k]) ∧ Fr W w' (fun _ => False) := by
  obtain ⟨B, hB, hg⟩ := LOk.clk hw
  refine (S5.ShowAmount_any B n W hB hg).mono ?_
  rintro e w' ⟨hf, he⟩
  unfold S5.showA at he
  unfold amtS at h
  by_cases ht : amtOk n
  · rw [if_pos ht] at h
    rw [if_pos (show -86400 ≤ n ∧ n ≤ 86400 from ht)] at he
    obtain ⟨rfl, rfl⟩ := Prod.mk.inj h
    exact ⟨he, hf⟩
  · rw [if_neg ht] at h
    rw [if_neg (show ¬ (-86400 ≤ n ∧ n ≤ 86400) from ht)] at he
    obtain ⟨rfl, rfl⟩ := Prod.mk.inj h
    exact ⟨he, hf⟩
def dayS (d : DayL) : Bs × Int := if dayOk d then (dayT d, 0) else ([], 1)
theorem showDay_any (d : DayL) (W : World) (hw : LOk W) (s : Bs) (k : Int) (h : dayS d = (s, k)) : Calls Tryz.prog 38 #[dayV d] W fun e w' => e = .returned (.tuple #[strV s, intV k]) ∧ Fr W w' (fun _ => False) := by
  refine S6.Show_any d.k d.d d.w W hw.base s k ?_
  rw [← h]
  unfold Go.Dfm.showD dayS
  by_cases hd : dayOk d
  · rw [if_pos hd, if_pos (Go.Dfm.rightB_iff.2 hd)]
    rfl
  · rw [if_neg hd, if_neg (fun x => hd (Go.Dfm.rightB_iff.1 x))]
end Go.Proofs.YtgcheollgnhdlaaGreatDoor
