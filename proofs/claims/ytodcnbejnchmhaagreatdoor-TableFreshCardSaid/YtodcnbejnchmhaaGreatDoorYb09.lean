import Derived.Test.YtodcnbejnchmhaaGreatDoorYb07
import Derived.Test.YtodcnbejnchmhaaGreatDoorYb08
import Derived.Lib.SplitLaws
namespace Go.Dcm
open Go.Lin

/- what lines make -/
structure ZoneL where
  name : Bs
  eras : List EraL
  lines : List Int
structure LinkL where
  target : Bs
  name : Bs
  line : Int
structure DiagL where
  line : Int
  col : Int
  k : Int
structure DocL where
  rules : List (RuleL × Int)
  zones : List ZoneL
  links : List LinkL
  diags : List DiagL
/-- while lines are gathered: zones that are done with, and the last one -/
structure StL where
  rules : List (RuleL × Int)
  done : List ZoneL
  cur : Option ZoneL
  links : List LinkL
  diags : List DiagL
  opn : Bool
def StL.zones (s : StL) : List ZoneL := s.done ++ s.cur.toList
def stZ : StL := ⟨[], [], none, [], [], false⟩
def tell (s : StL) (i c k : Int) : StL := { s with diags := s.diags ++ [⟨i, c, k⟩] }
def brk (s : StL) (i : Int) : StL := if s.opn = true then { tell s i 0 21 with opn := false } else s
def ruleD (s : StL) (i : Int) (x : LineL) : StL := { brk s i with rules := s.rules ++ [(x.rule, i)] }
def zoneD (s : StL) (i : Int) (x : LineL) : StL := { brk s i with done := s.zones, cur := some ⟨x.name, [x.era], [i]⟩, opn := x.era.til.has }
def linkD (s : StL) (i : Int) (x : LineL) : StL := { brk s i with links := s.links ++ [⟨x.target, x.name, i⟩] }
def moreD (s : StL) (i : Int) (x : LineL) : StL := match s.opn, s.cur with
  | true, some z => if 8 ≤ z.eras.length then { tell s i 0 17 with opn := x.era.til.has } else { s with cur := some ⟨z.name, z.eras ++ [x.era], z.lines ++ [i]⟩, opn := x.era.til.has }
  | _, _ => tell s i 0 10
def stepD (s : StL) (p : Int × LineL) : StL :=
  if p.2.kind = 1 then ruleD s p.1 p.2
  else if p.2.kind = 2 then zoneD s p.1 p.2
  else if p.2.kind = 3 then moreD s p.1 p.2
  else if p.2.kind = 4 then linkD s p.1 p.2
  else if p.2.kind = 5 then tell s p.1 p.2.col p.2.err
  else s
def lastOf (z : ZoneL) : Int := z.lines.getLastD 0
def endS (s : StL) : StL := match s.opn, s.cur with
  | true, some z => tell s (lastOf z) 0 21
  | _, _ => s
def StL.doc (s : StL) : DocL := ⟨s.rules, s.zones, s.links, s.diags⟩
def endD (s : StL) : DocL := (endS s).doc
def runD (s : StL) (l : List (Int × LineL)) : StL := l.foldl stepD s
/-- lines with their numbers -/
def num : Int → List LineL → List (Int × LineL)
  | _, [] => []
  | i, x :: l => (i, x) :: num (i + 1) l
def ofS (l : List LineL) : StL := runD stZ (num 0 l)
def ofD (l : List LineL) : DocL := endD (ofS l)

theorem num_len : ∀ (l : List LineL) (i : Int), (num i l).length = l.length
  | [], _ => rfl
  | _ :: l, i => by simp [num, num_len l]
theorem num_append : ∀ (a b : List LineL) (i : Int), num i (a ++ b) = num i a ++ num (i + a.length) b
  | [], b, i => by simp [num]
  | x :: a, b, i => by simp [num, num_append a b, Int.add_assoc, Int.add_comm 1]
theorem run_snoc (s : StL) (a : List (Int × LineL)) (p : Int × LineL) : runD s (a ++ [p]) = stepD (runD s a) p := List.foldl_append
/-- one line more -/
theorem take_num (l : List LineL) (i : Nat) (h : i < l.length) : num 0 (l.take (i + 1)) = num 0 (l.take i) ++ [((i : Int), l[i])] := by
  rw [List.take_succ_eq_append_getElem h, num_append]
  simp [num, Nat.min_eq_left (Nat.le_of_lt h)]
theorem step_take (l : List LineL) (i : Nat) (h : i < l.length) : ofS (l.take (i + 1)) = stepD (ofS (l.take i)) ((i : Int), l[i]) := by
  unfold ofS
  rw [take_num l i h, run_snoc]

/- what is always so -/
def ZOk (z : ZoneL) : Prop := z.eras.length = z.lines.length ∧ 1 ≤ z.eras.length ∧ z.eras.length ≤ 8
def Zn (s : StL) : Prop := (s.opn = true → ∃ z, s.cur = some z) ∧ ∀ z ∈ s.zones, ZOk z
theorem mem_zones {s : StL} {z : ZoneL} : z ∈ s.zones ↔ z ∈ s.done ∨ s.cur = some z := by
  unfold StL.zones
  cases s.cur <;> simp [eq_comm]
theorem zn_brk {s : StL} (i : Int) (h : Zn s) : Zn (brk s i) := by
  unfold brk
  split
  · exact ⟨fun e => by simp at e, h.2⟩
  · exact h
theorem brk_zones (s : StL) (i : Int) : (brk s i).zones = s.zones := by unfold brk; split <;> rfl
theorem zn_step {s : StL} (p : Int × LineL) (h : Zn s) : Zn (stepD s p) := by
  unfold stepD
  split
  · exact ⟨(zn_brk p.1 h).1, (zn_brk p.1 h).2⟩
  split
  · refine ⟨fun _ => ⟨_, rfl⟩, fun z hz => ?_⟩
    rcases mem_zones.1 hz with hz | hz
    · exact h.2 z hz
    · have hz : _ = z := Option.some.inj hz
      subst hz
      exact ⟨rfl, by simp, by simp⟩
  split
  · unfold moreD
    split
    · rename_i z ho hc
      have hk := h.2 z (mem_zones.2 (.inr hc))
      split
      · exact ⟨fun _ => ⟨z, hc⟩, h.2⟩
      · refine ⟨fun _ => ⟨_, rfl⟩, fun y hy => ?_⟩
        rcases mem_zones.1 hy with hy | hy
        · exact h.2 y (mem_zones.2 (.inl hy))
        · have hy : _ = y := Option.some.inj hy
          subst hy
          obtain ⟨h1, h2, h3⟩ := hk
          refine ⟨?_, ?_, ?_⟩ <;> simp <;> omega
    · exact h
  split
  · exact ⟨(zn_brk p.1 h).1, (zn_brk p.1 h).2⟩
  split
  · exact h
  · exact h
theorem zn_run : ∀ (l : List (Int × LineL)) (s : StL), Zn s → Zn (runD s l)
  | [], _, h => h
  | p :: l, _, h => zn_run l _ (zn_step p h)
theorem zn_of (l : List LineL) : Zn (ofS l) := zn_run _ _ ⟨fun h => by simp [stZ] at h, fun z hz => by simp [stZ, StL.zones] at hz⟩
theorem zn_doc {l : List LineL} : ∀ z ∈ (ofD l).zones, ZOk z := by
  intro z hz
  have h := zn_of l
  unfold ofD endD endS at hz
  split at hz
  · exact h.2 z hz
  · exact h.2 z hz
/- how many there are -/
def size (s : StL) : Nat := s.rules.length + s.zones.length + s.links.length + s.diags.length
theorem size_step (s : StL) (p : Int × LineL) : size (stepD s p) ≤ size s + 2 := by
  have hb : ∀ i, (brk s i).rules = s.rules ∧ (brk s i).links = s.links ∧ (brk s i).diags.length ≤ s.diags.length + 1 := by
    intro i
    unfold brk tell
    split <;> simp
  unfold stepD
  split
  · obtain ⟨-, h2, h3⟩ := hb p.1
    simp only [size, ruleD, StL.zones, List.length_append] at *
    have := congrArg List.length (brk_zones s p.1)
    simp only [StL.zones, List.length_append] at this
    rw [h2]
    simp only [List.length_cons, List.length_nil]
    omega
  split
  · obtain ⟨h1, h2, h3⟩ := hb p.1
    simp only [size, zoneD, StL.zones, List.length_append, h1, h2, Option.toList, List.length_cons, List.length_nil]
    omega
  split
  · unfold moreD
    split
    · rename_i z ho hc
      split
      · simp only [size, tell, StL.zones, List.length_append, List.length_cons, List.length_nil]
        omega
      · simp only [size, StL.zones, List.length_append, hc, Option.toList, List.length_cons, List.length_nil]
        omega
    · simp only [size, tell, StL.zones, List.length_append, List.length_cons, List.length_nil]
      omega
  split
  · obtain ⟨h1, -, h3⟩ := hb p.1
    have := congrArg List.length (brk_zones s p.1)
    simp only [size, linkD, StL.zones, List.length_append] at *
    rw [h1]
    simp only [List.length_cons, List.length_nil]
    omega
  split
  · simp only [size, tell, StL.zones, List.length_append, List.length_cons, List.length_nil]
    omega
  · omega
theorem size_run : ∀ (l : List (Int × LineL)) (s : StL), size (runD s l) ≤ size s + 2 * l.length
  | [], _ => by simp [runD]
  | p :: l, s => by
    have h1 := size_run l (stepD s p)
    have h2 := size_step s p
    simp only [runD, List.foldl_cons, List.length_cons] at h1 ⊢
    omega
theorem size_of (l : List LineL) : size (ofS l) ≤ 2 * l.length := by
  have := size_run (num 0 l) stZ
  rw [num_len] at this
  simpa [ofS, size, stZ, StL.zones] using this
theorem len_end (s : StL) : (endS s).diags.length ≤ s.diags.length + 1 := by
  unfold endS
  split <;> simp [tell]
theorem sizes_of (l : List LineL) : (ofD l).rules.length ≤ 2 * l.length ∧ (ofD l).zones.length ≤ 2 * l.length ∧ (ofD l).links.length ≤ 2 * l.length ∧ (ofD l).diags.length ≤ 2 * l.length + 1 := by
  have h := size_of l
  have h2 := len_end (ofS l)
  have hr : (endS (ofS l)).rules = (ofS l).rules := by unfold endS; split <;> rfl
  have hz : (endS (ofS l)).zones = (ofS l).zones := by unfold endS; split <;> rfl
  have hl : (endS (ofS l)).links = (ofS l).links := by unfold endS; split <;> rfl
  unfold ofD endD StL.doc
  simp only [hr, hz, hl]
  unfold size at h
  omega
end Go.Dcm
namespace Go.Dcm
open Go.Lib Go.Rope

/-- a text without the carriage return at its end -/
def stripR (l : Lin.Bs) : Lin.Bs := if l.getLast? = some 13 then l.dropLast else l
def linesD (l : Lin.Bs) : List Lin.Bs := (linesL l).map stripR
/-- what strings.TrimSuffix makes of it -/
theorem trim_strip (l : Lin.Bs) : trimSuffix l [13] = stripR l := by
  unfold trimSuffix hasSuffix stripR
  by_cases h : l.getLast? = some 13
  · obtain ⟨a, rfl⟩ : ∃ a, l = a ++ [13] := by
      rw [List.getLast?_eq_some_iff] at h
      exact h
    simp
  · rw [if_neg h, if_neg]
    intro hs
    obtain ⟨a, rfl⟩ := List.isSuffixOf_iff_suffix.1 hs
    simp at h
theorem split_nil10 : split [] [10] = [[]] := by
  rw [split, count_miss (by simp [index])]
  rfl
theorem split_eq10 (l : Lin.Bs) : split (10 :: l) [10] = [] :: split l [10] := by
  have hix : index (10 :: l) [10] = ((0 : Nat) : Int) := by rw [index]; simp [List.isPrefixOf]
  rw [split, count_cons_eq, Nat.add_comm, splitK, hix]
  simp [split]
theorem split_one10 (c : UInt8) (l : Lin.Bs) (h : c ≠ 10) : ∃ p ps, split l [10] = p :: ps ∧ split (c :: l) [10] = (c :: p) :: ps := by
  have hp : ([10] : List UInt8).isPrefixOf (c :: l) = false := by simp [List.isPrefixOf, Ne.symm h]
  have hix : index (c :: l) [10] = if index l [10] == -1 then -1 else index l [10] + 1 := by rw [index, hp]; simp
  unfold split
  rw [count_cons_ne c 10 l h]
  by_cases hm : index l [10] = -1
  · rw [count_miss hm]
    exact ⟨l, [], rfl, rfl⟩
  · have hge := index_ge l [10]
    obtain ⟨j, hj⟩ : ∃ j : Nat, index l [10] = j := ⟨(index l [10]).toNat, by omega⟩
    have hix' : index (c :: l) [10] = ((j + 1 : Nat) : Int) := by rw [hix, if_neg (fun e => hm (beq_iff_eq.1 e)), hj]; omega
    rw [count_hit (by simp) hj, Nat.add_comm, splitK, splitK, if_neg (fun e => hm (beq_iff_eq.1 e)), if_neg (by rw [hix']; intro e; have := beq_iff_eq.1 e; omega), hj, hix']
    exact ⟨_, _, rfl, by simp⟩
theorem split_lines : ∀ l : Lin.Bs, split l [10] = linesL l
  | [] => split_nil10
  | c :: l => by
    have ih := split_lines l
    by_cases hc : c = 10
    · subst hc
      rw [split_eq10, ih]
      simp [linesL]
    · obtain ⟨p, ps, h1, h2⟩ := split_one10 c l hc
      rw [ih] at h1
      rw [h2, linesL, if_neg hc, h1]
theorem lines_two (a b : Lin.Bs) : linesL (a ++ 10 :: b) = linesL a ++ linesL b := by
  induction a with
  | nil => simp [linesL]
  | cons c r ih =>
    by_cases hc : c = 10
    · subst hc
      simp [linesL, ih]
    · rw [List.cons_append, linesL, if_neg hc, ih]
      cases h : linesL r with
      | nil => exact absurd h (lines_ne r)
      | cons x xs =>
        have e : linesL (c :: r) = (c :: x) :: xs := by rw [linesL, if_neg hc, h]
        rw [e]
        rfl
theorem lines_le : ∀ l : Lin.Bs, (linesL l).length ≤ l.length + 1 ∧ ∀ x ∈ linesL l, x.length ≤ l.length
  | [] => ⟨Nat.le_refl _, fun x hx => by simp [linesL] at hx; simp [hx]⟩
  | c :: r => by
    obtain ⟨h1, h2⟩ := lines_le r
    by_cases hc : c = 10
    · subst hc
      simp only [linesL, if_true, List.length_cons]
      refine ⟨by omega, fun x hx => ?_⟩
      rcases List.mem_cons.1 hx with hx | hx
      · simp [hx]
      · have := h2 x hx
        omega
    · unfold linesL
      rw [if_neg hc]
      cases h : linesL r with
      | nil => exact absurd h (lines_ne r)
      | cons y ys =>
        rw [h] at h1 h2
        simp only [List.length_cons] at h1 ⊢
        refine ⟨by omega, fun x hx => ?_⟩
        rcases List.mem_cons.1 hx with hx | hx
        · have := h2 y List.mem_cons_self
          rw [hx]
          simp only [List.length_cons]
          omega
        · have := h2 x (List.mem_cons_of_mem _ hx)
          omega
theorem strip_le (l : Lin.Bs) : (stripR l).length ≤ l.length := by
  unfold stripR
  split
  · rw [List.length_dropLast]; omega
  · exact Nat.le_refl _
theorem linesD_le (l : Lin.Bs) : (linesD l).length ≤ l.length + 1 ∧ ∀ x ∈ linesD l, x.length ≤ l.length := by
  obtain ⟨h1, h2⟩ := lines_le l
  unfold linesD
  refine ⟨by rw [List.length_map]; exact h1, fun x hx => ?_⟩
  obtain ⟨y, hy, rfl⟩ := List.mem_map.1 hx
  exact Nat.le_trans (strip_le y) (h2 y hy)
end Go.Dcm
namespace Go.Lin
open Go.Lib

/- a line as the code reads it: its kind, how many fields, and what they tell -/
theorem cont_head {l : Bs} (h : contB l = true) : Go.Kwd.headD l = 0 := by
  cases l with
  | nil => cases h
  | cons c r =>
    have H : ∀ k : Fin 256, ((UInt8.ofNat k.val) == 45 || Go.Kwd.digitB (UInt8.ofNat k.val)) = true → Go.Kwd.lowB (UInt8.ofNat k.val) ≠ 114 ∧ Go.Kwd.lowB (UInt8.ofNat k.val) ≠ 122 ∧ Go.Kwd.lowB (UInt8.ofNat k.val) ≠ 108 := by decide +kernel
    have hc := H ⟨c.toNat, c.toNat_lt⟩
    simp only [UInt8.ofNat_toNat] at hc
    obtain ⟨h1, h2, h3⟩ := hc h
    unfold Go.Kwd.headD Go.Kwd.findD Go.Kwd.small Go.Kwd.heads
    simp [Go.Kwd.findL, Go.Kwd.preB, h1, h2, h3]
def kindD (l : Bs) : Nat := if Go.Kwd.headD l = 1 then 1 else if Go.Kwd.headD l = 2 then 2 else if Go.Kwd.headD l = 3 then 4 else if contB l = true then 3 else 0
theorem kind_cases (l : Bs) : kindD l = 0 ∨ kindD l = 1 ∨ kindD l = 2 ∨ kindD l = 3 ∨ kindD l = 4 := by
  unfold kindD
  split
  · simp
  · split
    · simp
    · split
      · simp
      · split <;> simp
def leastD (k : Nat) : Nat := if k = 1 then 10 else if k = 2 then 5 else 3
def mostD (k : Nat) : Nat := if k = 1 then 10 else if k = 2 then 9 else if k = 3 then 7 else 3
def bodyP (k : Nat) (f : List Bs) : Except Er LineL :=
  if k = 1 then (ruleP f).bind fun r => .ok { lineZ with kind := 1, rule := r }
  else if k = 2 then (chk (Go.Kwd.zoneD (gt f 1)) 1 5).bind fun _ => (eraP f 2).bind fun e => .ok { lineZ with kind := 2, name := gt f 1, era := e }
  else if k = 3 then (eraP f 0).bind fun e => .ok { lineZ with kind := 3, era := e }
  else (chk (Go.Kwd.zoneD (gt f 1)) 1 5).bind fun _ => (chk (Go.Kwd.zoneD (gt f 2)) 2 5).bind fun _ => .ok { lineZ with kind := 4, target := gt f 1, name := gt f 2 }
def beginP (fs : List FPair) : Except Er Nat :=
  if kindD (gt (fs.map (·.1)) 0) = 0 then .error (0, 3)
  else if fs.length < leastD (kindD (gt (fs.map (·.1)) 0)) ∨ mostD (kindD (gt (fs.map (·.1)) 0)) < fs.length then .error (0, 4) else .ok (kindD (gt (fs.map (·.1)) 0))
def readP (fs : List FPair) : Except Er LineL := (beginP fs).bind fun k => bodyP k (fs.map (·.1))
theorem out_bind {α : Type} (fs : List FPair) (r : Except Er α) (g : α → LineL) : outL fs (r.bind fun v => .ok (g v)) id = outL fs r g := by cases r <;> rfl
theorem line_code (fs : List FPair) (h : fs ≠ []) : lineP fs = outL fs (readP fs) id := by
  unfold lineP readP beginP
  rw [if_neg h]
  generalize hx : gt (fs.map (·.1)) 0 = x
  by_cases hc : contB x = true
  · have hh := cont_head hc
    rw [if_pos hc]
    have hk : kindD x = 3 := by
      unfold kindD
      rw [hh]
      simp [hc]
    rw [hk]
    simp only [leastD, mostD, Nat.reduceEqDiff, if_false, if_true]
    split
    · rfl
    · show _ = outL fs ((eraP _ 0).bind _) id
      rw [out_bind]
  · rw [if_neg hc]
    by_cases h1 : Go.Kwd.headD x = 1
    · rw [if_pos h1]
      have hk : kindD x = 1 := by
        unfold kindD
        rw [if_pos h1]
      rw [hk]
      simp only [leastD, mostD, Nat.reduceEqDiff, if_false, if_true]
      by_cases hn : fs.length = 10
      · rw [if_neg (by omega), if_neg (by omega)]
        show _ = outL fs ((ruleP _).bind _) id
        rw [out_bind]
      · rw [if_pos hn, if_pos (by omega)]
        rfl
    · rw [if_neg h1]
      by_cases h2 : Go.Kwd.headD x = 2
      · rw [if_pos h2]
        have hk : kindD x = 2 := by
          unfold kindD
          rw [if_neg h1, if_pos h2]
        rw [hk]
        simp only [leastD, mostD, Nat.reduceEqDiff, if_false, if_true]
        by_cases hn : fs.length < 5 ∨ 9 < fs.length
        · rw [if_pos hn, if_pos hn]
          rfl
        · rw [if_neg hn, if_neg hn]
          show _ = outL fs ((chk _ 1 5).bind fun _ => (eraP _ 2).bind _) id
          cases chk (Go.Kwd.zoneD (gt (fs.map (·.1)) 1)) 1 5 with
          | error e => rfl
          | ok u => exact (out_bind fs (eraP _ 2) _).symm
      · rw [if_neg h2]
        by_cases h3 : Go.Kwd.headD x = 3
        · rw [if_pos h3]
          have hk : kindD x = 4 := by
            unfold kindD
            rw [if_neg h1, if_neg h2, if_pos h3]
          rw [hk]
          simp only [leastD, mostD, Nat.reduceEqDiff, if_false]
          by_cases hn : fs.length = 3
          · rw [if_neg (by omega), if_neg (by omega)]
            unfold linkP
            show _ = outL fs ((chk _ 1 5).bind fun _ => (chk _ 2 5).bind _) id
            cases chk (Go.Kwd.zoneD (gt (fs.map (·.1)) 1)) 1 5 with
            | error e => rfl
            | ok u => exact (out_bind fs (chk _ 2 5) _).symm
          · rw [if_pos hn, if_pos (by omega)]
            rfl
        · rw [if_neg h3]
          have hk : kindD x = 0 := by
            unfold kindD
            rw [if_neg h1, if_neg h2, if_neg h3, if_neg hc]
          rw [hk]
          rfl
/- an until, part by part -/
def tilU0 : UntilL := ⟨true, 0, 1, day1, atZ⟩
def stepP (f : List Bs) (a j : Nat) (u : UntilL) : Except Er UntilL :=
  if j = 0 then (req (fromP (gt f a)) a 8).bind fun y => .ok { u with year := y }
  else if j = 1 then (req (monthP (gt f (a + 1))) (a + 1) 6).bind fun m => .ok { u with month := m }
  else if j = 2 then (req (dayP (gt f (a + 2))) (a + 2) 6).bind fun d => (chk (canB d u.year u.month) (a + 2) 6).bind fun _ => .ok { u with on := d }
  else (req (timeP (gt f (a + 3))) (a + 3) 7).bind fun t => .ok { u with at_ := t }
def restP (f : List Bs) (a : Nat) : Nat → Nat → UntilL → Except Er UntilL
  | 0, _, u => .ok u
  | d + 1, j, u => (stepP f a j u).bind fun v => restP f a d (j + 1) v
theorem until_rest (f : List Bs) (a : Nat) (h1 : a < f.length) (h2 : f.length ≤ a + 4) : untilP f a = restP f a (f.length - a) 0 tilU0 := by
  obtain ⟨n, hn, hc⟩ : ∃ n, f.length = a + n ∧ (n = 1 ∨ n = 2 ∨ n = 3 ∨ n = 4) := ⟨f.length - a, by omega, by omega⟩
  rw [show f.length - a = n by omega]
  unfold untilP tilMonth tilDay tilTime
  rw [hn]
  rcases hc with rfl | rfl | rfl | rfl
  · simp only [restP, stepP, if_pos, Nat.add_lt_add_iff_left, Nat.reduceLT, if_false, Nat.lt_irrefl]
    cases req (fromP (gt f a)) a 8 <;> rfl
  · simp only [restP, stepP, if_pos, Nat.add_lt_add_iff_left, Nat.reduceLT, if_false, Nat.lt_irrefl]
    cases req (fromP (gt f a)) a 8 with
    | error e => rfl
    | ok y => cases req (monthP (gt f (a + 1))) (a + 1) 6 <;> rfl
  · simp only [restP, stepP, if_pos, Nat.add_lt_add_iff_left, Nat.reduceLT, if_false, Nat.lt_irrefl]
    cases req (fromP (gt f a)) a 8 with
    | error e => rfl
    | ok y => cases req (monthP (gt f (a + 1))) (a + 1) 6 with
      | error e => rfl
      | ok m => cases req (dayP (gt f (a + 2))) (a + 2) 6 with
        | error e => rfl
        | ok d =>
          show ((chk (canB d y m) (a + 2) 6).bind _).bind _ = ((chk (canB d y m) (a + 2) 6).bind _).bind _
          cases chk (canB d y m) (a + 2) 6 <;> rfl
  · simp only [restP, stepP, if_pos, Nat.add_lt_add_iff_left, Nat.reduceLT]
    cases req (fromP (gt f a)) a 8 with
    | error e => rfl
    | ok y => cases req (monthP (gt f (a + 1))) (a + 1) 6 with
      | error e => rfl
      | ok m => cases req (dayP (gt f (a + 2))) (a + 2) 6 with
        | error e => rfl
        | ok d =>
          show ((chk (canB d y m) (a + 2) 6).bind _).bind _ = ((chk (canB d y m) (a + 2) 6).bind _).bind _
          cases chk (canB d y m) (a + 2) 6 with
          | error e => rfl
          | ok u =>
            show (req _ _ _).bind _ = ((req _ _ _).bind _).bind _
            cases req (timeP (gt f (a + 3))) (a + 3) 7 <;> rfl
theorem gt_at (fs : List FPair) (p : Nat) (h : p < fs.length) : fs.drop p = (gt (fs.map (·.1)) p, (fs.getD p ([], 0)).2) :: fs.drop (p + 1) := by
  rw [List.drop_eq_getElem_cons h]
  congr 1
  unfold gt
  rw [List.getD_eq_getElem?_getD, List.getD_eq_getElem?_getD, List.getElem?_map, List.getElem?_eq_getElem h]
  rfl
theorem rule_dash : Go.Kwd.ruleD [45] = false := by decide
theorem rules_code (l : Bs) : rulesP l = if l = [45] then some (0, 0, []) else if Go.Kwd.ruleD l = true then some (2, 0, l) else (Go.Clk.amtD l).map fun n => (1, n, []) := by
  unfold rulesP
  by_cases h : l = [45]
  · subst h
    rw [rule_dash]
    rfl
  · rw [if_neg h, if_neg h]
end Go.Lin
namespace Go.Dcm
open Go.Lin

/- a document without a diag -/
def wholeB (z : ZoneL) : Prop := ∀ k (h : k < z.eras.length), z.eras[k].til.has = decide (k + 1 < z.eras.length)
/- how often each kind is there -/
def wrongK (k : Int) : Bool := k == 10 || k == 17
def wrongN (d : List DiagL) : Nat := d.countP fun x => wrongK x.k
theorem wrongN_append (a b : List DiagL) : wrongN (a ++ b) = wrongN a + wrongN b := by simp [wrongN]
theorem brk_parts (s : StL) (i : Int) : (brk s i).rules = s.rules ∧ (brk s i).done = s.done ∧ (brk s i).cur = s.cur ∧ (brk s i).links = s.links ∧ wrongN (brk s i).diags = wrongN s.diags := by
  unfold brk
  split
  · refine ⟨rfl, rfl, rfl, rfl, ?_⟩
    show wrongN (s.diags ++ [⟨i, 0, 21⟩]) = _
    rw [wrongN_append]
    rfl
  · exact ⟨rfl, rfl, rfl, rfl, rfl⟩
/- the lines of zones rise -/
end Go.Dcm
