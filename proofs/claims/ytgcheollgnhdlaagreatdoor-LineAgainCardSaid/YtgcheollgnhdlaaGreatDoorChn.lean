import Derived.Test.YtgcheollgnhdlaaGreatDoorLrt
import Derived.Test.YtgcheollgnhdlaaGreatDoorFmt
namespace Go.Lin
open Go.Lib

/- a line as the code reads it: its kind, how many fields, and what they tell -/
theorem cont_head {l : Bs} (h : contB l = true) : Go.Kwd.headD l = 0 := by
  cases l with
  | nil => cases h
  | cons c r =>
    have H : ∀ k : Fin 256, ((UInt8.ofNat k.val) == 45 || Go.Kwd.digitB (UInt8.ofNat k.val)) = true → Go.Kwd.lowB (UInt8.ofNat k.val) ≠ 114 ∧ Go.Kwd.lowB (UInt8.ofNat k.val) ≠ 122 ∧ Go.Kwd.lowB (UInt8.ofNat k.val) ≠ 108 := by decide +kernel
    have hc := H ⟨c.toNat, c.toNat_lt⟩
    simp only [UInt8.ofNat_toNat] at hc
    obtain ⟨h1, h2, h3⟩ := hc h
    unfold Go.Kwd.headD Go.Kwd.findD Go.Kwd.small Go.Kwd.heads
    simp [Go.Kwd.findL, Go.Kwd.preB, h1, h2, h3]
def kindD (l : Bs) : Nat := if Go.Kwd.headD l = 1 then 1 else if Go.Kwd.headD l = 2 then 2 else if Go.Kwd.headD l = 3 then 4 else if contB l = true then 3 else 0
theorem kind_cases (l : Bs) : kindD l = 0 ∨ kindD l = 1 ∨ kindD l = 2 ∨ kindD l = 3 ∨ kindD l = 4 := by
  unfold kindD
  split
  · simp
  · split
    · simp
    · split
      · simp
      · split <;> simp
def leastD (k : Nat) : Nat := if k = 1 then 10 else if k = 2 then 5 else 3
def mostD (k : Nat) : Nat := if k = 1 then 10 else if k = 2 then 9 else if k = 3 then 7 else 3
def bodyP (k : Nat) (f : List Bs) : Except Er LineL :=
  if k = 1 then (ruleP f).bind fun r => .ok { lineZ with kind := 1, rule := r }
  else if k = 2 then (chk (Go.Kwd.zoneD (gt f 1)) 1 5).bind fun _ => (eraP f 2).bind fun e => .ok { lineZ with kind := 2, name := gt f 1, era := e }
  else if k = 3 then (eraP f 0).bind fun e => .ok { lineZ with kind := 3, era := e }
  else (chk (Go.Kwd.zoneD (gt f 1)) 1 5).bind fun _ => (chk (Go.Kwd.zoneD (gt f 2)) 2 5).bind fun _ => .ok { lineZ with kind := 4, target := gt f 1, name := gt f 2 }
def beginP (fs : List FPair) : Except Er Nat :=
  if kindD (gt (fs.map (·.1)) 0) = 0 then .error (0, 3)
  else if fs.length < leastD (kindD (gt (fs.map (·.1)) 0)) ∨ mostD (kindD (gt (fs.map (·.1)) 0)) < fs.length then .error (0, 4) else .ok (kindD (gt (fs.map (·.1)) 0))
def readP (fs : List FPair) : Except Er LineL := (beginP fs).bind fun k => bodyP k (fs.map (·.1))
theorem out_bind {α : Type} (fs : List FPair) (r : Except Er α) (g : α → LineL) : outL fs (r.bind fun v => .ok (g v)) id = outL fs r g := by cases r <;> rfl
theorem line_code (fs : List FPair) (h : fs ≠ []) : lineP fs = outL fs (readP fs) id := by
  unfold lineP readP beginP
  rw [if_neg h]
  generalize hx : gt (fs.map (·.1)) 0 = x
  by_cases hc : contB x = true
  · have hh := cont_head hc
    rw [if_pos hc]
    have hk : kindD x = 3 := by
      unfold kindD
      rw [hh]
      simp [hc]
    rw [hk]
    simp only [leastD, mostD, Nat.reduceEqDiff, if_false, if_true]
    split
    · rfl
    · show _ = outL fs ((eraP _ 0).bind _) id
      rw [out_bind]
  · rw [if_neg hc]
    by_cases h1 : Go.Kwd.headD x = 1
    · rw [if_pos h1]
      have hk : kindD x = 1 := by
        unfold kindD
        rw [if_pos h1]
      rw [hk]
      simp only [leastD, mostD, Nat.reduceEqDiff, if_false, if_true]
      by_cases hn : fs.length = 10
      · rw [if_neg (by omega), if_neg (by omega)]
        show _ = outL fs ((ruleP _).bind _) id
        rw [out_bind]
      · rw [if_pos hn, if_pos (by omega)]
        rfl
    · rw [if_neg h1]
      by_cases h2 : Go.Kwd.headD x = 2
      · rw [if_pos h2]
        have hk : kindD x = 2 := by
          unfold kindD
          rw [if_neg h1, if_pos h2]
        rw [hk]
        simp only [leastD, mostD, Nat.reduceEqDiff, if_false, if_true]
        by_cases hn : fs.length < 5 ∨ 9 < fs.length
        · rw [if_pos hn, if_pos hn]
          rfl
        · rw [if_neg hn, if_neg hn]
          show _ = outL fs ((chk _ 1 5).bind fun _ => (eraP _ 2).bind _) id
          cases chk (Go.Kwd.zoneD (gt (fs.map (·.1)) 1)) 1 5 with
          | error e => rfl
          | ok u => exact (out_bind fs (eraP _ 2) _).symm
      · rw [if_neg h2]
        by_cases h3 : Go.Kwd.headD x = 3
        · rw [if_pos h3]
          have hk : kindD x = 4 := by
            unfold kindD
            rw [if_neg h1, if_neg h2, if_pos h3]
          rw [hk]
          simp only [leastD, mostD, Nat.reduceEqDiff, if_false]
          by_cases hn : fs.length = 3
          · rw [if_neg (by omega), if_neg (by omega)]
            unfold linkP
            show _ = outL fs ((chk _ 1 5).bind fun _ => (chk _ 2 5).bind _) id
            cases chk (Go.Kwd.zoneD (gt (fs.map (·.1)) 1)) 1 5 with
            | error e => rfl
            | ok u => exact (out_bind fs (chk _ 2 5) _).symm
          · rw [if_pos hn, if_pos (by omega)]
            rfl
        · rw [if_neg h3]
          have hk : kindD x = 0 := by
            unfold kindD
            rw [if_neg h1, if_neg h2, if_neg h3, if_neg hc]
          rw [hk]
          rfl
/- an until, part by part -/
def tilU0 : UntilL := ⟨true, 0, 1, day1, atZ⟩
def stepP (f : List Bs) (a j : Nat) (u : UntilL) : Except Er UntilL :=
  if j = 0 then (req (fromP (gt f a)) a 8).bind fun y => .ok { u with year := y }
  else if j = 1 then (req (monthP (gt f (a + 1))) (a + 1) 6).bind fun m => .ok { u with month := m }
  else if j = 2 then (req (dayP (gt f (a + 2))) (a + 2) 6).bind fun d => (chk (canB d u.year u.month) (a + 2) 6).bind fun _ => .ok { u with on := d }
  else (req (timeP (gt f (a + 3))) (a + 3) 7).bind fun t => .ok { u with at_ := t }
def restP (f : List Bs) (a : Nat) : Nat → Nat → UntilL → Except Er UntilL
  | 0, _, u => .ok u
  | d + 1, j, u => (stepP f a j u).bind fun v => restP f a d (j + 1) v
theorem until_rest (f : List Bs) (a : Nat) (h1 : a < f.length) (h2 : f.length ≤ a + 4) : untilP f a = restP f a (f.length - a) 0 tilU0 := by
  obtain ⟨n, hn, hc⟩ : ∃ n, f.length = a + n ∧ (n = 1 ∨ n = 2 ∨ n = 3 ∨ n = 4) := ⟨f.length - a, by omega, by omega⟩
  rw [show f.length - a = n by omega]
  unfold untilP tilMonth tilDay tilTime
  rw [hn]
  rcases hc with rfl | rfl | rfl | rfl
  · simp only [restP, stepP, if_pos, Nat.add_lt_add_iff_left, Nat.reduceLT, if_false, Nat.lt_irrefl]
    cases req (fromP (gt f a)) a 8 <;> rfl
  · simp only [restP, stepP, if_pos, Nat.add_lt_add_iff_left, Nat.reduceLT, if_false, Nat.lt_irrefl]
    cases req (fromP (gt f a)) a 8 with
    | error e => rfl
    | ok y => cases req (monthP (gt f (a + 1))) (a + 1) 6 <;> rfl
  · simp only [restP, stepP, if_pos, Nat.add_lt_add_iff_left, Nat.reduceLT, if_false, Nat.lt_irrefl]
    cases req (fromP (gt f a)) a 8 with
    | error e => rfl
    | ok y => cases req (monthP (gt f (a + 1))) (a + 1) 6 with
      | error e => rfl
      | ok m => cases req (dayP (gt f (a + 2))) (a + 2) 6 with
        | error e => rfl
        | ok d =>
          show ((chk (canB d y m) (a + 2) 6).bind _).bind _ = ((chk (canB d y m) (a + 2) 6).bind _).bind _
          cases chk (canB d y m) (a + 2) 6 <;> rfl
  · simp only [restP, stepP, if_pos, Nat.add_lt_add_iff_left, Nat.reduceLT]
    cases req (fromP (gt f a)) a 8 with
    | error e => rfl
    | ok y => cases req (monthP (gt f (a + 1))) (a + 1) 6 with
      | error e => rfl
      | ok m => cases req (dayP (gt f (a + 2))) (a + 2) 6 with
        | error e => rfl
        | ok d =>
          show ((chk (canB d y m) (a + 2) 6).bind _).bind _ = ((chk (canB d y m) (a + 2) 6).bind _).bind _
          cases chk (canB d y m) (a + 2) 6 with
          | error e => rfl
          | ok u =>
            show (req _ _ _).bind _ = ((req _ _ _).bind _).bind _
            cases req (timeP (gt f (a + 3))) (a + 3) 7 <;> rfl
theorem gt_at (fs : List FPair) (p : Nat) (h : p < fs.length) : fs.drop p = (gt (fs.map (·.1)) p, (fs.getD p ([], 0)).2) :: fs.drop (p + 1) := by
  rw [List.drop_eq_getElem_cons h]
  congr 1
  unfold gt
  rw [List.getD_eq_getElem?_getD, List.getD_eq_getElem?_getD, List.getElem?_map, List.getElem?_eq_getElem h]
  rfl
theorem rule_dash : Go.Kwd.ruleD [45] = false := by decide
theorem rules_code (l : Bs) : rulesP l = if l = [45] then some (0, 0, []) else if Go.Kwd.ruleD l = true then some (2, 0, l) else (Go.Clk.amtD l).map fun n => (1, n, []) := by
  unfold rulesP
  by_cases h : l = [45]
  · subst h
    rw [rule_dash]
    rfl
  · rw [if_neg h, if_neg h]
end Go.Lin
