import Derived.Test.YtlfjknndkjgciaaGreatDoorYa07
import Derived.Test.YtlfjknndkjgciaaGreatDoorYa08
import Derived.Lib.SplitLaws
namespace Go.Dcm
open Go.Lib Go.Rope

/-- a text without the carriage return at its end -/
def stripR (l : Lin.Bs) : Lin.Bs := if l.getLast? = some 13 then l.dropLast else l
def linesD (l : Lin.Bs) : List Lin.Bs := (linesL l).map stripR
/-- what strings.TrimSuffix makes of it -/
theorem trim_strip (l : Lin.Bs) : trimSuffix l [13] = stripR l := by
  unfold trimSuffix hasSuffix stripR
  by_cases h : l.getLast? = some 13
  · obtain ⟨a, rfl⟩ : ∃ a, l = a ++ [13] := by
      rw [List.getLast?_eq_some_iff] at h
      exact h
    simp
  · rw [if_neg h, if_neg]
    intro hs
    obtain ⟨a, rfl⟩ := List.isSuffixOf_iff_suffix.1 hs
    simp at h
theorem split_nil10 : split [] [10] = [[]] := by
  rw [split, count_miss (by simp [index])]
  rfl
theorem split_eq10 (l : Lin.Bs) : split (10 :: l) [10] = [] :: split l [10] := by
  have hix : index (10 :: l) [10] = ((0 : Nat) : Int) := by rw [index]; simp [List.isPrefixOf]
  rw [split, count_cons_eq, Nat.add_comm, splitK, hix]
  simp [split]
theorem split_one10 (c : UInt8) (l : Lin.Bs) (h : c ≠ 10) : ∃ p ps, split l [10] = p :: ps ∧ split (c :: l) [10] = (c :: p) :: ps := by
  have hp : ([10] : List UInt8).isPrefixOf (c :: l) = false := by simp [List.isPrefixOf, Ne.symm h]
  have hix : index (c :: l) [10] = if index l [10] == -1 then -1 else index l [10] + 1 := by rw [index, hp]; simp
  unfold split
  rw [count_cons_ne c 10 l h]
  by_cases hm : index l [10] = -1
  · rw [count_miss hm]
    exact ⟨l, [], rfl, rfl⟩
  · have hge := index_ge l [10]
    obtain ⟨j, hj⟩ : ∃ j : Nat, index l [10] = j := ⟨(index l [10]).toNat, by omega⟩
    have hix' : index (c :: l) [10] = ((j + 1 : Nat) : Int) := by rw [hix, if_neg (fun e => hm (beq_iff_eq.1 e)), hj]; omega
    rw [count_hit (by simp) hj, Nat.add_comm, splitK, splitK, if_neg (fun e => hm (beq_iff_eq.1 e)), if_neg (by rw [hix']; intro e; have := beq_iff_eq.1 e; omega), hj, hix']
    exact ⟨_, _, rfl, by simp⟩
theorem split_lines : ∀ l : Lin.Bs, split l [10] = linesL l
  | [] => split_nil10
  | c :: l => by
    have ih := split_lines l
    by_cases hc : c = 10
    · subst hc
      rw [split_eq10, ih]
      simp [linesL]
    · obtain ⟨p, ps, h1, h2⟩ := split_one10 c l hc
      rw [ih] at h1
      rw [h2, linesL, if_neg hc, h1]
theorem lines_two (a b : Lin.Bs) : linesL (a ++ 10 :: b) = linesL a ++ linesL b := by
  induction a with
  | nil => simp [linesL]
  | cons c r ih =>
    by_cases hc : c = 10
    · subst hc
      simp [linesL, ih]
    · rw [List.cons_append, linesL, if_neg hc, ih]
      cases h : linesL r with
      | nil => exact absurd h (lines_ne r)
      | cons x xs =>
        have e : linesL (c :: r) = (c :: x) :: xs := by rw [linesL, if_neg hc, h]
        rw [e]
        rfl
theorem linesD_two (a b : Lin.Bs) : linesD (a ++ 10 :: b) = linesD a ++ linesD b := by
  unfold linesD
  rw [lines_two, List.map_append]
theorem lines_le : ∀ l : Lin.Bs, (linesL l).length ≤ l.length + 1 ∧ ∀ x ∈ linesL l, x.length ≤ l.length
  | [] => ⟨Nat.le_refl _, fun x hx => by simp [linesL] at hx; simp [hx]⟩
  | c :: r => by
    obtain ⟨h1, h2⟩ := lines_le r
    by_cases hc : c = 10
    · subst hc
      simp only [linesL, if_true, List.length_cons]
      refine ⟨by omega, fun x hx => ?_⟩
      rcases List.mem_cons.1 hx with hx | hx
      · simp [hx]
      · have := h2 x hx
        omega
    · unfold linesL
      rw [if_neg hc]
      cases h : linesL r with
      | nil => exact absurd h (lines_ne r)
      | cons y ys =>
        rw [h] at h1 h2
        simp only [List.length_cons] at h1 ⊢
        refine ⟨by omega, fun x hx => ?_⟩
        rcases List.mem_cons.1 hx with hx | hx
        · have := h2 y List.mem_cons_self
          rw [hx]
          simp only [List.length_cons]
          omega
        · have := h2 x (List.mem_cons_of_mem _ hx)
          omega
theorem strip_le (l : Lin.Bs) : (stripR l).length ≤ l.length := by
  unfold stripR
  split
  · rw [List.length_dropLast]; omega
  · exact Nat.le_refl _
theorem linesD_le (l : Lin.Bs) : (linesD l).length ≤ l.length + 1 ∧ ∀ x ∈ linesD l, x.length ≤ l.length := by
  obtain ⟨h1, h2⟩ := lines_le l
  unfold linesD
  refine ⟨by rw [List.length_map]; exact h1, fun x hx => ?_⟩
  obtain ⟨y, hy, rfl⟩ := List.mem_map.1 hx
  exact Nat.le_trans (strip_le y) (h2 y hy)
end Go.Dcm
namespace Go.Lin
open Go.Lib

/- a line as the code reads it: its kind, how many fields, and what they tell -/
theorem cont_head {l : Bs} (h : contB l = true) : Go.Kwd.headD l = 0 := by
  cases l with
  | nil => cases h
  | cons c r =>
    have H : ∀ k : Fin 256, ((UInt8.ofNat k.val) == 45 || Go.Kwd.digitB (UInt8.ofNat k.val)) = true → Go.Kwd.lowB (UInt8.ofNat k.val) ≠ 114 ∧ Go.Kwd.lowB (UInt8.ofNat k.val) ≠ 122 ∧ Go.Kwd.lowB (UInt8.ofNat k.val) ≠ 108 := by decide +kernel
    have hc := H ⟨c.toNat, c.toNat_lt⟩
    simp only [UInt8.ofNat_toNat] at hc
    obtain ⟨h1, h2, h3⟩ := hc h
    unfold Go.Kwd.headD Go.Kwd.findD Go.Kwd.small Go.Kwd.heads
    simp [Go.Kwd.findL, Go.Kwd.preB, h1, h2, h3]
def kindD (l : Bs) : Nat := if Go.Kwd.headD l = 1 then 1 else if Go.Kwd.headD l = 2 then 2 else if Go.Kwd.headD l = 3 then 4 else if contB l = true then 3 else 0
theorem kind_cases (l : Bs) : kindD l = 0 ∨ kindD l = 1 ∨ kindD l = 2 ∨ kindD l = 3 ∨ kindD l = 4 := by
  unfold kindD
  split
  · simp
  · split
    · simp
    · split
      · simp
      · split <;> simp
def leastD (k : Nat) : Nat := if k = 1 then 10 else if k = 2 then 5 else 3
def mostD (k : Nat) : Nat := if k = 1 then 10 else if k = 2 then 9 else if k = 3 then 7 else 3
def bodyP (k : Nat) (f : List Bs) : Except Er LineL :=
  if k = 1 then (ruleP f).bind fun r => .ok { lineZ with kind := 1, rule := r }
  else if k = 2 then (chk (Go.Kwd.zoneD (gt f 1)) 1 5).bind fun _ => (eraP f 2).bind fun e => .ok { lineZ with kind := 2, name := gt f 1, era := e }
  else if k = 3 then (eraP f 0).bind fun e => .ok { lineZ with kind := 3, era := e }
  else (chk (Go.Kwd.zoneD (gt f 1)) 1 5).bind fun _ => (chk (Go.Kwd.zoneD (gt f 2)) 2 5).bind fun _ => .ok { lineZ with kind := 4, target := gt f 1, name := gt f 2 }
def beginP (fs : List FPair) : Except Er Nat :=
  if kindD (gt (fs.map (·.1)) 0) = 0 then .error (0, 3)
  else if fs.length < leastD (kindD (gt (fs.map (·.1)) 0)) ∨ mostD (kindD (gt (fs.map (·.1)) 0)) < fs.length then .error (0, 4) else .ok (kindD (gt (fs.map (·.1)) 0))
def readP (fs : List FPair) : Except Er LineL := (beginP fs).bind fun k => bodyP k (fs.map (·.1))
theorem out_bind {α : Type} (fs : List FPair) (r : Except Er α) (g : α → LineL) : outL fs (r.bind fun v => .ok (g v)) id = outL fs r g := by cases r <;> rfl
theorem line_code (fs : List FPair) (h : fs ≠ []) : lineP fs = outL fs (readP fs) id := by
  unfold lineP readP beginP
  rw [if_neg h]
  generalize hx : gt (fs.map (·.1)) 0 = x
  by_cases hc : contB x = true
  · have hh := cont_head hc
    rw [if_pos hc]
    have hk : kindD x = 3 := by
      unfold kindD
      rw [hh]
      simp [hc]
    rw [hk]
    simp only [leastD, mostD, Nat.reduceEqDiff, if_false, if_true]
    split
    · rfl
    · show _ = outL fs ((eraP _ 0).bind _) id
      rw [out_bind]
  · rw [if_neg hc]
    by_cases h1 : Go.Kwd.headD x = 1
    · rw [if_pos h1]
      have hk : kindD x = 1 := by
        unfold kindD
        rw [if_pos h1]
      rw [hk]
      simp only [leastD, mostD, Nat.reduceEqDiff, if_false, if_true]
      by_cases hn : fs.length = 10
      · rw [if_neg (by omega), if_neg (by omega)]
        show _ = outL fs ((ruleP _).bind _) id
        rw [out_bind]
      · rw [if_pos hn, if_pos (by omega)]
        rfl
    · rw [if_neg h1]
      by_cases h2 : Go.Kwd.headD x = 2
      · rw [if_pos h2]
        have hk : kindD x = 2 := by
          unfold kindD
          rw [if_neg h1, if_pos h2]
        rw [hk]
        simp only [leastD, mostD, Nat.reduceEqDiff, if_false, if_true]
        by_cases hn : fs.length < 5 ∨ 9 < fs.length
        · rw [if_pos hn, if_pos hn]
          rfl
        · rw [if_neg hn, if_neg hn]
          show _ = outL fs ((chk _ 1 5).bind fun _ => (eraP _ 2).bind _) id
          cases chk (Go.Kwd.zoneD (gt (fs.map (·.1)) 1)) 1 5 with
          | error e => rfl
          | ok u => exact (out_bind fs (eraP _ 2) _).symm
      · rw [if_neg h2]
        by_cases h3 : Go.Kwd.headD x = 3
        · rw [if_pos h3]
          have hk : kindD x = 4 := by
            unfold kindD
            rw [if_neg h1, if_neg h2, if_pos h3]
          rw [hk]
          simp only [leastD, mostD, Nat.reduceEqDiff, if_false]
          by_cases hn : fs.length = 3
          · rw [if_neg (by omega), if_neg (by omega)]
            unfold linkP
            show _ = outL fs ((chk _ 1 5).bind fun _ => (chk _ 2 5).bind _) id
            cases chk (Go.Kwd.zoneD (gt (fs.map (·.1)) 1)) 1 5 with
            | error e => rfl
            | ok u => exact (out_bind fs (chk _ 2 5) _).symm
          · rw [if_pos hn, if_pos (by omega)]
            rfl
        · rw [if_neg h3]
          have hk : kindD x = 0 := by
            unfold kindD
            rw [if_neg h1, if_neg h2, if_neg h3, if_neg hc]
          rw [hk]
          rfl
/- an until, part by part -/
def tilU0 : UntilL := ⟨true, 0, 1, day1, atZ⟩
def stepP (f : List Bs) (a j : Nat) (u : UntilL) : Except Er UntilL :=
  if j = 0 then (req (fromP (gt f a)) a 8).bind fun y => .ok { u with year := y }
  else if j = 1 then (req (monthP (gt f (a + 1))) (a + 1) 6).bind fun m => .ok { u with month := m }
  else if j = 2 then (req (dayP (gt f (a + 2))) (a + 2) 6).bind fun d => (chk (canB d u.year u.month) (a + 2) 6).bind fun _ => .ok { u with on := d }
  else (req (timeP (gt f (a + 3))) (a + 3) 7).bind fun t => .ok { u with at_ := t }
def restP (f : List Bs) (a : Nat) : Nat → Nat → UntilL → Except Er UntilL
  | 0, _, u => .ok u
  | d + 1, j, u => (stepP f a j u).bind fun v => restP f a d (j + 1) v
theorem until_rest (f : List Bs) (a : Nat) (h1 : a < f.length) (h2 : f.length ≤ a + 4) : untilP f a = restP f a (f.length - a) 0 tilU0 := by
  obtain ⟨n, hn, hc⟩ : ∃ n, f.length = a + n ∧ (n = 1 ∨ n = 2 ∨ n = 3 ∨ n = 4) := ⟨f.length - a, by omega, by omega⟩
  rw [show f.length - a = n by omega]
  unfold untilP tilMonth tilDay tilTime
  rw [hn]
  rcases hc with rfl | rfl | rfl | rfl
  · simp only [restP, stepP, if_pos, Nat.add_lt_add_iff_left, Nat.reduceLT, if_false, Nat.lt_irrefl]
    cases req (fromP (gt f a)) a 8 <;> rfl
  · simp only [restP, stepP, if_pos, Nat.add_lt_add_iff_left, Nat.reduceLT, if_false, Nat.lt_irrefl]
    cases req (fromP (gt f a)) a 8 with
    | error e => rfl
    | ok y => cases req (monthP (gt f (a + 1))) (a + 1) 6 <;> rfl
  · simp only [restP, stepP, if_pos, Nat.add_lt_add_iff_left, Nat.reduceLT, if_false, Nat.lt_irrefl]
    cases req (fromP (gt f a)) a 8 with
    | error e => rfl
    | ok y => cases req (monthP (gt f (a + 1))) (a + 1) 6 with
      | error e => rfl
      | ok m => cases req (dayP (gt f (a + 2))) (a + 2) 6 with
        | error e => rfl
        | ok d =>
          show ((chk (canB d y m) (a + 2) 6).bind _).bind _ = ((chk (canB d y m) (a + 2) 6).bind _).bind _
          cases chk (canB d y m) (a + 2) 6 <;> rfl
  · simp only [restP, stepP, if_pos, Nat.add_lt_add_iff_left, Nat.reduceLT]
    cases req (fromP (gt f a)) a 8 with
    | error e => rfl
    | ok y => cases req (monthP (gt f (a + 1))) (a + 1) 6 with
      | error e => rfl
      | ok m => cases req (dayP (gt f (a + 2))) (a + 2) 6 with
        | error e => rfl
        | ok d =>
          show ((chk (canB d y m) (a + 2) 6).bind _).bind _ = ((chk (canB d y m) (a + 2) 6).bind _).bind _
          cases chk (canB d y m) (a + 2) 6 with
          | error e => rfl
          | ok u =>
            show (req _ _ _).bind _ = ((req _ _ _).bind _).bind _
            cases req (timeP (gt f (a + 3))) (a + 3) 7 <;> rfl
theorem gt_at (fs : List FPair) (p : Nat) (h : p < fs.length) : fs.drop p = (gt (fs.map (·.1)) p, (fs.getD p ([], 0)).2) :: fs.drop (p + 1) := by
  rw [List.drop_eq_getElem_cons h]
  congr 1
  unfold gt
  rw [List.getD_eq_getElem?_getD, List.getD_eq_getElem?_getD, List.getElem?_map, List.getElem?_eq_getElem h]
  rfl
theorem rule_dash : Go.Kwd.ruleD [45] = false := by decide
theorem rules_code (l : Bs) : rulesP l = if l = [45] then some (0, 0, []) else if Go.Kwd.ruleD l = true then some (2, 0, l) else (Go.Clk.amtD l).map fun n => (1, n, []) := by
  unfold rulesP
  by_cases h : l = [45]
  · subst h
    rw [rule_dash]
    rfl
  · rw [if_neg h, if_neg h]
end Go.Lin
namespace Go.Dcm
open Go.Lin

/- a document without a diag -/
def wholeB (z : ZoneL) : Prop := ∀ k (h : k < z.eras.length), z.eras[k].til.has = decide (k + 1 < z.eras.length)
def nearB (z : ZoneL) (o : Bool) : Prop := ∀ k (h : k < z.eras.length), z.eras[k].til.has = (decide (k + 1 < z.eras.length) || o)
def Wh (s : StL) : Prop := s.diags = [] → (∀ z ∈ s.done, wholeB z) ∧ ∀ z, s.cur = some z → nearB z s.opn
theorem near_whole {z : ZoneL} (h : nearB z false) : wholeB z := fun k hk => by rw [h k hk, Bool.or_false]
theorem wh_brk {s : StL} (i : Int) (h : Wh s) : Wh (brk s i) ∧ ((brk s i).diags = [] → s.opn = false ∧ s.diags = []) := by
  unfold brk
  split
  · exact ⟨fun e => by simp [tell] at e, fun e => by simp [tell] at e⟩
  · rename_i ho
    exact ⟨h, fun e => ⟨by simpa using ho, e⟩⟩
theorem wh_zones {s : StL} (h : Wh s) (ho : s.opn = false) (hd : s.diags = []) : ∀ z ∈ s.zones, wholeB z := by
  intro z hz
  rcases mem_zones.1 hz with hz | hz
  · exact (h hd).1 z hz
  · exact near_whole (ho ▸ (h hd).2 z hz)
theorem near_snoc {z : ZoneL} {e : EraL} {n : Bs} {ls : List Int} (h : nearB z true) : nearB ⟨n, z.eras ++ [e], ls⟩ e.til.has := by
  intro k hk
  simp only [List.length_append, List.length_cons, List.length_nil] at hk ⊢
  by_cases hlt : k < z.eras.length
  · rw [List.getElem_append_left hlt, h k hlt]
    simp
    omega
  · have : k = z.eras.length := by omega
    subst this
    rw [List.getElem_append_right (Nat.le_refl _)]
    simp
theorem wh_step {s : StL} (p : Int × LineL) (h : Wh s) : Wh (stepD s p) := by
  unfold stepD
  split
  · exact (wh_brk p.1 h).1
  split
  · intro hd
    obtain ⟨ho, hd⟩ := (wh_brk p.1 h).2 hd
    refine ⟨wh_zones h ho hd, fun z hz => ?_⟩
    have hz : _ = z := Option.some.inj hz
    subst hz
    intro k hk
    have : k = 0 := by
      have hk : k < 1 := hk
      omega
    subst this
    simp [zoneD]
  split
  · unfold moreD
    split
    · rename_i z ho hc
      split
      · exact fun hd => by simp [tell] at hd
      · intro hd
        obtain ⟨h1, h2⟩ := h hd
        refine ⟨h1, fun y hy => ?_⟩
        have hy : _ = y := Option.some.inj hy
        subst hy
        exact near_snoc (ho ▸ h2 z hc)
    · exact fun hd => by simp [tell] at hd
  split
  · exact (wh_brk p.1 h).1
  split
  · exact fun hd => by simp [tell] at hd
  · exact h
theorem wh_run : ∀ (l : List (Int × LineL)) (s : StL), Wh s → Wh (runD s l)
  | [], _, h => h
  | p :: l, _, h => wh_run l _ (wh_step p h)
theorem whole_of (l : List LineL) (hd : (ofD l).diags = []) : ∀ z ∈ (ofD l).zones, wholeB z := by
  have h : Wh (ofS l) := wh_run _ _ (fun _ => ⟨fun z hz => by simp [stZ] at hz, fun z hz => by simp [stZ] at hz⟩)
  have hz := (zn_of l).1
  unfold ofD endD endS at hd ⊢
  split at hd
  · simp [tell, StL.doc] at hd
  · rename_i hx
    refine wh_zones h ?_ hd
    cases ho : (ofS l).opn with
    | false => rfl
    | true =>
      obtain ⟨z, hc⟩ := hz ho
      exact absurd hc (hx z ho)

/- how often each kind is there -/
def kindN (k : Int) (l : List LineL) : Nat := l.countP fun x => decide (x.kind = k)
def wrongK (k : Int) : Bool := k == 10 || k == 17
def wrongN (d : List DiagL) : Nat := d.countP fun x => wrongK x.k
def fiveN (l : List LineL) : Nat := l.countP fun x => decide (x.kind = 5) && wrongK x.err
def eraN (z : List ZoneL) : Int := (z.map fun z => (z.eras.length : Int) - 1).sum
theorem eraN_append (a b : List ZoneL) : eraN (a ++ b) = eraN a + eraN b := by simp [eraN]
theorem wrongN_append (a b : List DiagL) : wrongN (a ++ b) = wrongN a + wrongN b := by simp [wrongN]
theorem brk_parts (s : StL) (i : Int) : (brk s i).rules = s.rules ∧ (brk s i).done = s.done ∧ (brk s i).cur = s.cur ∧ (brk s i).links = s.links ∧ wrongN (brk s i).diags = wrongN s.diags := by
  unfold brk
  split
  · refine ⟨rfl, rfl, rfl, rfl, ?_⟩
    show wrongN (s.diags ++ [⟨i, 0, 21⟩]) = _
    rw [wrongN_append]
    rfl
  · exact ⟨rfl, rfl, rfl, rfl, rfl⟩
structure Cnt (s : StL) (l : List LineL) : Prop where
  r : s.rules.length = kindN 1 l
  z : s.zones.length = kindN 2 l
  k : s.links.length = kindN 4 l
  e : eraN s.zones + wrongN s.diags = kindN 3 l + fiveN l
theorem kindN_snoc (k : Int) (l : List LineL) (x : LineL) : kindN k (l ++ [x]) = kindN k l + if x.kind = k then 1 else 0 := by
  simp [kindN, List.countP_append, List.countP_cons]
theorem fiveN_snoc (l : List LineL) (x : LineL) : fiveN (l ++ [x]) = fiveN l + if (decide (x.kind = 5) && wrongK x.err) = true then 1 else 0 := by
  simp [fiveN, List.countP_append, List.countP_cons]
theorem cnt_step {s : StL} {l : List LineL} (i : Int) (x : LineL) (h : Cnt s l) : Cnt (stepD s (i, x)) (l ++ [x]) := by
  obtain ⟨h1, h2, h3, h4⟩ := h
  obtain ⟨b1, b2, b3, b4, b5⟩ := brk_parts s i
  have bz := brk_zones s i
  have key : ∀ (y : StL) (r z k w : Nat), y.rules.length = s.rules.length + r → y.zones.length = s.zones.length + z → y.links.length = s.links.length + k → eraN y.zones + wrongN y.diags = eraN s.zones + wrongN s.diags + w →
      r = (if x.kind = 1 then 1 else 0) → z = (if x.kind = 2 then 1 else 0) → k = (if x.kind = 4 then 1 else 0) → w = (if x.kind = 3 then 1 else 0) + (if (decide (x.kind = 5) && wrongK x.err) = true then 1 else 0) → Cnt y (l ++ [x]) := by
    intro y r z k w e1 e2 e3 e4 d1 d2 d3 d4
    refine ⟨?_, ?_, ?_, ?_⟩
    · rw [kindN_snoc, e1, h1, d1]
    · rw [kindN_snoc, e2, h2, d2]
    · rw [kindN_snoc, e3, h3, d3]
    · rw [kindN_snoc, fiveN_snoc, e4, h4, d4]
      push_cast
      omega
  unfold stepD
  by_cases k1 : x.kind = 1
  · rw [if_pos k1]
    refine key _ 1 0 0 0 ?_ ?_ ?_ ?_ ?_ ?_ ?_ ?_
    · simp [ruleD]
    · exact congrArg List.length bz
    · exact congrArg List.length b4
    · show eraN (brk s i).zones + wrongN (brk s i).diags = _
      rw [bz, b5]; omega
    all_goals simp [k1]
  rw [if_neg k1]
  by_cases k2 : x.kind = 2
  · rw [if_pos k2]
    refine key _ 0 1 0 0 ?_ ?_ ?_ ?_ ?_ ?_ ?_ ?_
    · exact congrArg List.length b1
    · simp [zoneD, StL.zones, Nat.add_assoc]
    · exact congrArg List.length b4
    · show eraN (s.zones ++ [⟨x.name, [x.era], [i]⟩]) + wrongN (brk s i).diags = _
      rw [eraN_append, b5]
      simp [eraN]
    all_goals simp [k2]
  rw [if_neg k2]
  by_cases k3 : x.kind = 3
  · rw [if_pos k3]
    have tw : ∀ k, wrongK k = true → wrongN (s.diags ++ [⟨i, 0, k⟩]) = wrongN s.diags + 1 := by
      intro k hk
      rw [wrongN_append]
      simp [wrongN, hk]
    refine key _ 0 0 0 1 ?_ ?_ ?_ ?_ ?_ ?_ ?_ ?_
    · unfold moreD; split <;> (try split) <;> rfl
    · unfold moreD
      split
      · rename_i z ho hc
        split
        · rfl
        · simp [StL.zones, hc]
      · rfl
    · unfold moreD; split <;> (try split) <;> rfl
    · unfold moreD
      split
      · rename_i z ho hc
        split
        · show eraN s.zones + wrongN (s.diags ++ [⟨i, 0, 17⟩]) = _
          rw [tw 17 rfl]; push_cast; omega
        · show eraN (s.done ++ [⟨z.name, z.eras ++ [x.era], z.lines ++ [i]⟩]) + wrongN s.diags = eraN s.zones + _ + _
          rw [show s.zones = s.done ++ [z] by simp [StL.zones, hc], eraN_append, eraN_append]
          simp [eraN]
          omega
      · show eraN s.zones + wrongN (s.diags ++ [⟨i, 0, 10⟩]) = _
        rw [tw 10 rfl]; push_cast; omega
    all_goals simp [k3]
  rw [if_neg k3]
  by_cases k4 : x.kind = 4
  · rw [if_pos k4]
    refine key _ 0 0 1 0 ?_ ?_ ?_ ?_ ?_ ?_ ?_ ?_
    · exact congrArg List.length b1
    · exact congrArg List.length bz
    · simp [linkD]
    · show eraN (brk s i).zones + wrongN (brk s i).diags = _
      rw [bz, b5]; omega
    all_goals simp [k4]
  rw [if_neg k4]
  by_cases k5 : x.kind = 5
  · rw [if_pos k5]
    refine key _ 0 0 0 (if wrongK x.err = true then 1 else 0) rfl rfl rfl ?_ ?_ ?_ ?_ ?_
    · show eraN s.zones + wrongN (s.diags ++ [⟨i, x.col, x.err⟩]) = _
      rw [wrongN_append]
      simp only [wrongN, List.countP_cons, List.countP_nil]
      push_cast
      omega
    all_goals simp [k5]
  rw [if_neg k5]
  refine key _ 0 0 0 0 rfl rfl rfl ?_ ?_ ?_ ?_ ?_
  · omega
  all_goals simp [k1, k2, k3, k4, k5]
theorem cnt_run : ∀ (l m : List LineL) (i : Int) (s : StL), Cnt s m → Cnt (runD s (num i l)) (m ++ l)
  | [], m, _, _, h => by simpa [num, runD] using h
  | x :: l, m, i, s, h => by
    have := cnt_run l (m ++ [x]) (i + 1) _ (cnt_step i x h)
    simpa [num, runD] using this
theorem counts_of (l : List LineL) : (ofD l).rules.length = kindN 1 l ∧ (ofD l).zones.length = kindN 2 l ∧ (ofD l).links.length = kindN 4 l ∧ eraN (ofD l).zones + wrongN (ofD l).diags - fiveN l = kindN 3 l := by
  have h : Cnt (ofS l) ([] ++ l) := cnt_run l [] 0 stZ ⟨rfl, rfl, rfl, rfl⟩
  obtain ⟨h1, h2, h3, h4⟩ := h
  rw [List.nil_append] at h1 h2 h3 h4
  have key : (endS (ofS l)).rules = (ofS l).rules ∧ (endS (ofS l)).zones = (ofS l).zones ∧ (endS (ofS l)).links = (ofS l).links ∧ wrongN (endS (ofS l)).diags = wrongN (ofS l).diags := by
    unfold endS
    split
    · refine ⟨rfl, rfl, rfl, ?_⟩
      show wrongN (_ ++ [⟨_, 0, 21⟩]) = _
      rw [wrongN_append]
      rfl
    · exact ⟨rfl, rfl, rfl, rfl⟩
  obtain ⟨k1, k2, k3, k4⟩ := key
  refine ⟨(congrArg List.length k1).trans h1, (congrArg List.length k2).trans h2, (congrArg List.length k3).trans h3, ?_⟩
  show eraN (endS (ofS l)).zones + wrongN (endS (ofS l)).diags - _ = _
  rw [k2, k4]
  omega

/- the lines of zones rise -/
def flatZ (zs : List ZoneL) : List (Int × EraL) := zs.flatMap fun z => z.lines.zip z.eras
theorem flatZ_append (a b : List ZoneL) : flatZ (a ++ b) = flatZ a ++ flatZ b := by simp [flatZ]
def rises : Int → List (Int × EraL) → Prop
  | _, [] => True
  | a, x :: r => a < x.1 ∧ rises x.1 r
theorem rises_snoc : ∀ (l : List (Int × EraL)) (a : Int) (p : Int × EraL), rises a l → (∀ q ∈ l, q.1 < p.1) → a < p.1 → rises a (l ++ [p])
  | [], _, _, _, _, h => ⟨h, trivial⟩
  | x :: l, _, p, h, hq, _ => ⟨h.1, rises_snoc l x.1 p h.2 (fun q hq' => hq q (List.mem_cons_of_mem _ hq')) (hq x List.mem_cons_self)⟩
structure Rs (s : StL) (l : List LineL) : Prop where
  up : rises (-1) (flatZ s.zones)
  at_ : ∀ p ∈ flatZ s.zones, ∃ k : Nat, ∃ h : k < l.length, p = ((k : Int), l[k].era)
theorem rs_more {s y : StL} {l : List LineL} {x : LineL} (h : Rs s l) (hy : flatZ y.zones = flatZ s.zones ∨ flatZ y.zones = flatZ s.zones ++ [((l.length : Int), x.era)]) : Rs y (l ++ [x]) := by
  have old : ∀ p ∈ flatZ s.zones, ∃ k : Nat, ∃ h : k < (l ++ [x]).length, p = ((k : Int), (l ++ [x])[k].era) := by
    intro p hp
    obtain ⟨k, hk, e⟩ := h.at_ p hp
    exact ⟨k, by simp; omega, by rw [List.getElem_append_left hk]; exact e⟩
  rcases hy with e | e
  · exact ⟨e ▸ h.up, by rw [e]; exact old⟩
  · refine ⟨?_, ?_⟩
    · rw [e]
      refine rises_snoc _ _ _ h.up (fun q hq => ?_) (by show (-1 : Int) < (l.length : Int); omega)
      obtain ⟨k, hk, eq⟩ := h.at_ q hq
      rw [eq]
      show (k : Int) < (l.length : Int)
      omega
    · rw [e]
      intro p hp
      rcases List.mem_append.1 hp with hp | hp
      · exact old p hp
      · simp at hp
        exact ⟨l.length, by simp, by rw [hp]; simp⟩
theorem rs_step {s : StL} {l : List LineL} (x : LineL) (hz : Zn s) (h : Rs s l) : Rs (stepD s ((l.length : Int), x)) (l ++ [x]) := by
  refine rs_more h ?_
  have bz := brk_zones s (l.length : Int)
  unfold stepD
  split
  · exact .inl (congrArg flatZ bz)
  split
  · refine .inr ?_
    show flatZ (s.zones ++ [_]) = _
    rw [flatZ_append]
    rfl
  split
  · unfold moreD
    split
    · rename_i z ho hc
      have hl := (hz.2 z (mem_zones.2 (.inr hc))).1
      split
      · exact .inl rfl
      · refine .inr ?_
        show flatZ (s.done ++ [_]) = flatZ (s.done ++ s.cur.toList) ++ _
        rw [hc, flatZ_append, flatZ_append, List.append_assoc]
        congr 1
        show (z.lines ++ [_]).zip (z.eras ++ [_]) ++ [] = (z.lines.zip z.eras ++ []) ++ _
        rw [List.append_nil, List.append_nil, List.zip_append hl.symm]
        rfl
    · exact .inl rfl
  split
  · exact .inl (congrArg flatZ bz)
  split
  · exact .inl rfl
  · exact .inl rfl
theorem rs_run : ∀ (l m : List LineL) (s : StL), Zn s → Rs s m → Rs (runD s (num (m.length : Int) l)) (m ++ l)
  | [], m, _, _, h => by simpa [num, runD] using h
  | x :: l, m, s, hz, h => by
    have := rs_run l (m ++ [x]) _ (zn_step ((m.length : Int), x) hz) (rs_step x hz h)
    simpa [num, runD] using this
theorem rises_of (l : List LineL) : rises (-1) (flatZ (ofD l).zones) ∧ ∀ p ∈ flatZ (ofD l).zones, ∃ k : Nat, ∃ h : k < l.length, p = ((k : Int), l[k].era) := by
  have h : Rs (ofS l) ([] ++ l) := rs_run l [] stZ ⟨fun h => by simp [stZ] at h, fun z hz => by simp [stZ, StL.zones] at hz⟩ ⟨trivial, fun p hp => by simp [stZ, StL.zones, flatZ] at hp⟩
  have hz : (endS (ofS l)).zones = (ofS l).zones := by unfold endS; split <;> rfl
  unfold ofD endD StL.doc
  rw [hz]
  exact ⟨h.up, h.at_⟩
end Go.Dcm
