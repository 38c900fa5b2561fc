import Derived.Lib.SplitLaws
import Derived.Test.YtgcheollgnhdlaaGreatDoorNum
namespace Go.Kwd
abbrev Bs := List UInt8

/-- a letter of ASCII, small -/
def lowB (c : UInt8) : UInt8 := if 65 ≤ c.toNat ∧ c.toNat ≤ 90 then c + 32 else c
def small (l : Bs) : Bs := l.map lowB
def preB : Bs → Bs → Bool
  | [], _ => true
  | _ :: _, [] => false
  | a :: l, b :: m => a == b && preB l m
/-- the place of the word that t (small) stands for, from 1 on; 0: none; i: places gone by, at and n: the last begun one and how many -/
def findL (t : Bs) : Nat → Nat → Nat → List Bs → Nat
  | _, at_, n, [] => if n = 1 then at_ else 0
  | i, at_, n, w :: ws => if t.isEmpty || !preB t w then findL t (i + 1) at_ n ws else if t.length = w.length then i + 1 else findL t (i + 1) (i + 1) (n + 1) ws
def findD (s : Bs) (ws : List Bs) : Nat := findL (small s) 0 0 0 ws
def heads : List Bs := [[114, 117, 108, 101], [122, 111, 110, 101], [108, 105, 110, 107]]
def months : List Bs := [[106, 97, 110, 117, 97, 114, 121], [102, 101, 98, 114, 117, 97, 114, 121], [109, 97, 114, 99, 104], [97, 112, 114, 105, 108], [109, 97, 121], [106, 117, 110, 101], [106, 117, 108, 121],
  [97, 117, 103, 117, 115, 116], [115, 101, 112, 116, 101, 109, 98, 101, 114], [111, 99, 116, 111, 98, 101, 114], [110, 111, 118, 101, 109, 98, 101, 114], [100, 101, 99, 101, 109, 98, 101, 114]]
def ends : List Bs := [[111, 110, 108, 121], [109, 97, 120, 105, 109, 117, 109], [109, 105, 110, 105, 109, 117, 109]]
def headD (s : Bs) : Nat := findD s heads
def monthD (s : Bs) : Nat := findD s months
def endD (s : Bs) : Nat := findD s ends
def showMonthD (m : Int) : Bs := if 1 ≤ m ∧ m ≤ 12 then match months[(m - 1).toNat]? with
  | some (c :: r) => (c - 32) :: r.take 2
  | _ => []
  else []
theorem pre_len : ∀ {t w : Bs}, preB t w = true → t.length ≤ w.length
  | [], _, _ => by simp
  | _ :: _, [], h => by cases h
  | a :: l, b :: m, h => by
    unfold preB at h
    simp only [Bool.and_eq_true] at h
    have := pre_len h.2
    simp
    omega
theorem pre_iff : ∀ {t w : Bs}, preB t w = true ↔ w.take t.length = t
  | [], _ => by simp [preB]
  | _ :: _, [] => by simp [preB]
  | a :: l, b :: m => by
    unfold preB
    simp only [Bool.and_eq_true, beq_iff_eq, List.length_cons, List.take_succ_cons, List.cons.injEq]
    rw [pre_iff]
    exact ⟨fun ⟨h1, h2⟩ => ⟨h1.symm, h2⟩, fun ⟨h1, h2⟩ => ⟨h1.symm, h2⟩⟩
theorem find_empty : ∀ (i a n : Nat) (ws : List Bs), findL [] i a n ws = if n = 1 then a else 0
  | _, _, _, [] => rfl
  | i, a, n, w :: ws => by
    have h : findL [] i a n (w :: ws) = findL [] (i + 1) a n ws := by simp [findL]
    rw [h]
    exact find_empty _ _ _ ws
/-- what the law on longer words asks: the place, the bytes that are left, with the first one great or not -/
def cutM (m n : Nat) (great : Bool) : Bs := match months[m - 1]? with
  | some w => match w.take n with
    | c :: r => (if great then c - 32 else c) :: r
    | [] => []
  | none => []
theorem longer : ∀ (m : Fin 12) (n : Fin 9) (g : Bool), (monthD (cutM (m.val + 1) (n.val + 1) g) = 0 ∨ (monthD (cutM (m.val + 1) (n.val + 1) g) = m.val + 1 ∧ monthD (cutM (m.val + 1) (n.val + 2) false) = m.val + 1)) := by decide +kernel
theorem whole : ∀ (m : Fin 12), monthD (cutM (m.val + 1) 9 false) = m.val + 1 ∧ monthD (cutM (m.val + 1) 3 false) = m.val + 1 ∧ monthD (showMonthD ((m.val + 1 : Nat) : Int)) = m.val + 1 := by decide +kernel
theorem alive_months : monthD [106, 117] = 0 ∧ monthD [74, 85, 78] = 6 ∧ headD [122] = 2 ∧ endD [109, 97] = 2 ∧ endD [109] = 0 := by decide +kernel

/- names -/
def letterB (c : UInt8) : Bool := (decide (97 ≤ c.toNat) && decide (c.toNat ≤ 122)) || (decide (65 ≤ c.toNat) && decide (c.toNat ≤ 90))
def digitB (c : UInt8) : Bool := decide (48 ≤ c.toNat) && decide (c.toNat ≤ 57)
/-- may the byte stand in a part of a zone's name? -/
def zoneB (first : Bool) (c : UInt8) : Bool := letterB c || digitB c || c == 43 || c == 95 || (c == 45 && !first)
def zoneM : Bool → Bs → Bool
  | b, [] => !b
  | b, c :: r => if c = 47 then !b && zoneM true r else zoneB b c && zoneM false r
def zoneD (l : Bs) : Bool := decide (1 ≤ l.length) && decide (l.length ≤ 30) && zoneM true l
def ruleB (c : UInt8) : Bool := letterB c || digitB c || c == 45 || c == 95
def ruleM : Bs → Bool
  | [] => false
  | c :: r => (letterB c || c == 95) && r.all ruleB
def ruleD (l : Bs) : Bool := decide (1 ≤ l.length) && decide (l.length ≤ 30) && ruleM l
theorem zone_parts (y : Bs) : ∀ (x : Bs) (b : Bool), zoneM b (x ++ 47 :: y) = (zoneM b x && zoneM true y)
  | [], b => by
    rw [List.nil_append]
    show (if (47 : UInt8) = 47 then !b && zoneM true y else _) = _
    rw [if_pos rfl]
    rfl
  | c :: x, b => by
    rw [List.cons_append]
    by_cases h : c = 47
    · rw [zoneM, if_pos h, zoneM, if_pos h, zone_parts y x true, Bool.and_assoc]
    · rw [zoneM, if_neg h, zoneM, if_neg h, zone_parts y x false, Bool.and_assoc]
theorem zone_join {a b : Bs} (ha : zoneD a = true) (hb : zoneD b = true) : zoneD (a ++ [47] ++ b) = decide (a.length + 1 + b.length ≤ 30) := by
  unfold zoneD at *
  simp only [Bool.and_eq_true, decide_eq_true_eq] at ha hb
  rw [show (a ++ [47] ++ b : Bs) = a ++ 47 :: b by simp, zone_parts, ha.2, hb.2]
  rw [Bool.eq_iff_iff]
  simp
  omega
theorem zone_open (a : Bs) : zoneD (a ++ [47]) = false := by
  unfold zoneD
  rw [zone_parts]
  have h : zoneM true [] = false := rfl
  rw [h]
  simp
theorem zone_slash (a : Bs) : zoneD (47 :: a) = false := by
  unfold zoneD
  rw [zoneM, if_pos rfl]
  simp
theorem rule_no (c : UInt8) (h : ruleB c = true) : c ≠ 47 ∧ zoneB false c = true := by
  have H : ∀ k : Fin 256, ruleB (UInt8.ofNat k.val) = true → UInt8.ofNat k.val ≠ 47 ∧ zoneB false (UInt8.ofNat k.val) = true := by decide +kernel
  have := H ⟨c.toNat, c.toNat_lt⟩
  simp only [UInt8.ofNat_toNat] at this
  exact this h
theorem first_no (c : UInt8) (h : (letterB c || c == 95) = true) : c ≠ 47 ∧ zoneB true c = true := by
  have H : ∀ k : Fin 256, (letterB (UInt8.ofNat k.val) || UInt8.ofNat k.val == 95) = true → UInt8.ofNat k.val ≠ 47 ∧ zoneB true (UInt8.ofNat k.val) = true := by decide +kernel
  have := H ⟨c.toNat, c.toNat_lt⟩
  simp only [UInt8.ofNat_toNat] at this
  exact this h
theorem rule_rest : ∀ r : Bs, r.all ruleB = true → zoneM false r = true
  | [], _ => rfl
  | c :: r, h => by
    simp only [List.all_cons, Bool.and_eq_true] at h
    obtain ⟨h1, h2⟩ := rule_no c h.1
    rw [zoneM, if_neg h1, h2, rule_rest r h.2]
    rfl
theorem rule_zone {l : Bs} (h : ruleD l = true) : zoneD l = true := by
  unfold ruleD at h
  unfold zoneD
  simp only [Bool.and_eq_true] at h ⊢
  refine ⟨h.1, ?_⟩
  cases l with
  | nil => cases h.2
  | cons c r =>
    have h2 := h.2
    unfold ruleM at h2
    rw [Bool.and_eq_true] at h2
    obtain ⟨h3, h4⟩ := first_no c h2.1
    rw [zoneM, if_neg h3, h4, rule_rest r h2.2]
    rfl
theorem rule_slash (a b : Bs) : ruleD (a ++ 47 :: b) = false := by
  unfold ruleD
  rw [Bool.and_eq_false_iff]
  refine .inr ?_
  cases a with
  | nil =>
    have h : ruleM (47 :: b) = ((letterB 47 || (47 : UInt8) == 95) && b.all ruleB) := rfl
    rw [List.nil_append, h, show (letterB 47 || (47 : UInt8) == 95) = false by decide]
    rfl
  | cons c a =>
    show (_ && (a ++ 47 :: b).all ruleB) = false
    rw [List.all_append, List.all_cons, show ruleB 47 = false by decide]
    simp
/- years -/
/-- what From answers of a number that was read, or of none -/
def fromD (p : Option Int) : Int × Int := match p with
  | some n => if 1 ≤ n ∧ n ≤ 9999 then (n, 0) else (0, 8)
  | none => (0, 8)
def toD (e : Nat) (p : Option Int) (fr : Int) : Int × Int := if e = 1 then (fr, 0) else if e = 2 then (10000, 0) else if (fromD p).2 = 0 ∧ fr ≤ (fromD p).1 then fromD p else (0, 8)
end Go.Kwd
namespace Go.Kwd
open Go.Lib

theorem split_nil : split [] [47] = [[]] := by
  rw [split, count_miss (by simp [index])]
  rfl
theorem split_eq (l : Bs) : split (47 :: l) [47] = [] :: split l [47] := by
  have hix : index (47 :: l) [47] = ((0 : Nat) : Int) := by rw [index]; simp [List.isPrefixOf]
  rw [split, count_cons_eq, Nat.add_comm, splitK, hix]
  simp [split]
theorem split_one (c : UInt8) (l : Bs) (h : c ≠ 47) : ∃ p ps, split l [47] = p :: ps ∧ split (c :: l) [47] = (c :: p) :: ps := by
  have hp : ([47] : List UInt8).isPrefixOf (c :: l) = false := by simp [List.isPrefixOf, Ne.symm h]
  have hix : index (c :: l) [47] = if index l [47] == -1 then -1 else index l [47] + 1 := by rw [index, hp]; simp
  unfold split
  rw [count_cons_ne c 47 l h]
  by_cases hm : index l [47] = -1
  · rw [count_miss hm]
    exact ⟨l, [], rfl, rfl⟩
  · have hge := index_ge l [47]
    obtain ⟨j, hj⟩ : ∃ j : Nat, index l [47] = j := ⟨(index l [47]).toNat, by omega⟩
    have hix' : index (c :: l) [47] = ((j + 1 : Nat) : Int) := by rw [hix, if_neg (fun e => hm (beq_iff_eq.1 e)), hj]; omega
    rw [count_hit (by simp) hj, Nat.add_comm, splitK, splitK, if_neg (fun e => hm (beq_iff_eq.1 e)), if_neg (by rw [hix']; intro e; have := beq_iff_eq.1 e; omega), hj, hix']
    exact ⟨_, _, rfl, by simp⟩
theorem split_ne : ∀ l : Bs, ∃ p ps, split l [47] = p :: ps
  | [] => ⟨[], [], split_nil⟩
  | c :: l => by
    by_cases h : c = 47
    · subst h
      exact ⟨_, _, split_eq l⟩
    · obtain ⟨p, ps, _, h2⟩ := split_one c l h
      exact ⟨_, _, h2⟩
/-- may a part of a zone's name be so? -/
def allM : Bool → Bs → Bool
  | b, [] => !b
  | b, c :: r => zoneB b c && allM false r
theorem zone_split : ∀ (l : Bs) (b : Bool) (p : Bs) (ps : List Bs), split l [47] = p :: ps → zoneM b l = (allM b p && ps.all (allM true))
  | [], b, p, ps, h => by
    rw [split_nil] at h
    obtain ⟨rfl, rfl⟩ := List.cons.inj h
    simp [zoneM, allM]
  | c :: l, b, p, ps, h => by
    by_cases hc : c = 47
    · subst hc
      rw [split_eq] at h
      obtain ⟨rfl, rfl⟩ := List.cons.inj h
      obtain ⟨q, qs, hq⟩ := split_ne l
      rw [hq, zoneM, if_pos rfl, zone_split l true q qs hq]
      rfl
    · obtain ⟨q, qs, h1, h2⟩ := split_one c l hc
      rw [h2] at h
      obtain ⟨rfl, rfl⟩ := List.cons.inj h
      rw [zoneM, if_neg hc, zone_split l false q qs h1, allM, Bool.and_assoc]
/-- one byte of a part, wherever it stands -/
def partC (c : UInt8) : Bool := ruleB c || c == 43
def partB (p : Bs) : Bool := !p.isEmpty && p.head? != some 45 && p.all partC
theorem zone_b (c : UInt8) : zoneB false c = partC c ∧ zoneB true c = (partC c && c != 45) := by
  have H : ∀ k : Fin 256, zoneB false (UInt8.ofNat k.val) = partC (UInt8.ofNat k.val) ∧ zoneB true (UInt8.ofNat k.val) = (partC (UInt8.ofNat k.val) && UInt8.ofNat k.val != 45) := by decide +kernel
  have := H ⟨c.toNat, c.toNat_lt⟩
  simp only [UInt8.ofNat_toNat] at this
  exact this
theorem all_false : ∀ r : Bs, allM false r = r.all partC
  | [] => rfl
  | c :: r => by rw [allM, all_false r, (zone_b c).1]; rfl
theorem all_part (p : Bs) : allM true p = partB p := by
  cases p with
  | nil => rfl
  | cons c r =>
    rw [allM, all_false, (zone_b c).2, partB]
    rw [Bool.eq_iff_iff]
    simp
    constructor
    · rintro ⟨⟨h1, h2⟩, h3⟩; exact ⟨h2, h1, h3⟩
    · rintro ⟨h2, h1, h3⟩; exact ⟨⟨h1, h2⟩, h3⟩
/-- what the program's Zone says -/
theorem zone_prog (l : Bs) (h : l.length ≤ 30) : zoneD l = (split l [47]).all partB := by
  obtain ⟨p, ps, hp⟩ := split_ne l
  have hz : zoneM true l = (split l [47]).all partB := by
    rw [zone_split l true p ps hp, hp, List.all_cons, all_part, show allM true = partB from funext all_part]
  unfold zoneD
  rw [hz]
  cases l with
  | nil => rw [split_nil]; rfl
  | cons c r =>
    have hl : decide (1 ≤ (c :: r).length) = true := by simp
    rw [hl, decide_eq_true h]
    rfl
end Go.Kwd
namespace Go.Kwd
open Go.Lib Go.Esc

def headsP : List Bs := [[82, 117, 108, 101], [90, 111, 110, 101], [76, 105, 110, 107]]
def monthsP : List Bs := [[74, 97, 110, 117, 97, 114, 121], [70, 101, 98, 114, 117, 97, 114, 121], [77, 97, 114, 99, 104], [65, 112, 114, 105, 108], [77, 97, 121], [74, 117, 110, 101], [74, 117, 108, 121],
  [65, 117, 103, 117, 115, 116], [83, 101, 112, 116, 101, 109, 98, 101, 114], [79, 99, 116, 111, 98, 101, 114], [78, 111, 118, 101, 109, 98, 101, 114], [68, 101, 99, 101, 109, 98, 101, 114]]
/-- the place of a word of any list -/
def findP (s : Bs) (ws : List Bs) : Nat := findL (small s) 0 0 0 (ws.map small)
theorem find_heads (s : Bs) : findP s headsP = headD s := by
  unfold findP headD findD
  rw [show headsP.map small = heads by decide +kernel]
theorem find_months (s : Bs) : findP s monthsP = monthD s := by
  unfold findP monthD findD
  rw [show monthsP.map small = months by decide +kernel]
theorem find_ends (s : Bs) : findP s ends = endD s := by
  unfold findP endD findD
  rw [show ends.map small = ends by decide +kernel]
theorem small_len (s : Bs) : (small s).length = s.length := by simp [small]
/-- does the word w begin with s? -/
def begD (w s : Bs) : Bool := !s.isEmpty && preB (small s) (small w)
theorem find_step (s : Bs) (i a n : Nat) (w : Bs) (ws : List Bs) : findL (small s) i a n ((w :: ws).map small) =
    if begD w s = true then (if s.length = w.length then i + 1 else findL (small s) (i + 1) (i + 1) (n + 1) (ws.map small)) else findL (small s) (i + 1) a n (ws.map small) := by
  rw [List.map_cons, findL, small_len, small_len, begD]
  have h : (small s).isEmpty = s.isEmpty := by cases s <;> rfl
  rw [h]
  cases s.isEmpty <;> cases preB (small s) (small w) <;> simp
theorem pre_get : ∀ {s w : Bs}, preB s w = true ↔ s.length ≤ w.length ∧ ∀ k, k < s.length → s[k]? = w[k]?
  | [], w => by simp [preB]
  | a :: l, [] => by simp [preB]
  | a :: l, b :: m => by
    unfold preB
    rw [Bool.and_eq_true, pre_get, beq_iff_eq]
    constructor
    · rintro ⟨rfl, h1, h2⟩
      refine ⟨by simpa using h1, fun k hk => ?_⟩
      cases k with
      | zero => rfl
      | succ k => simpa using h2 k (by simpa using hk)
    · rintro ⟨h1, h2⟩
      refine ⟨by simpa using h2 0 (by simp), by simpa using h1, fun k hk => ?_⟩
      simpa using h2 (k + 1) (by simpa using hk)
theorem beg_get (w s : Bs) : begD w s = true ↔ s ≠ [] ∧ s.length ≤ w.length ∧ ∀ (k : Nat) (c d : UInt8), s[k]? = some c → w[k]? = some d → lowB c = lowB d := by
  rw [begD, Bool.and_eq_true, pre_get, small_len, small_len]
  simp only [small, List.getElem?_map, Bool.not_eq_true', List.isEmpty_eq_false_iff]
  constructor
  · rintro ⟨h0, h1, h2⟩
    refine ⟨h0, h1, fun k c d hc hd => ?_⟩
    have hk := (List.getElem?_eq_some_iff.1 hc).1
    have := h2 k hk
    rw [hc, hd] at this
    simpa using this
  · rintro ⟨h0, h1, h2⟩
    refine ⟨h0, h1, fun k hk => ?_⟩
    rw [List.getElem?_eq_getElem hk, List.getElem?_eq_getElem (by omega), Option.map_some, Option.map_some]
    congr 1
    exact h2 k _ _ (List.getElem?_eq_getElem hk) (List.getElem?_eq_getElem (by omega))
theorem find_le (t : Bs) : ∀ (ws : List Bs) (i a n : Nat), a ≤ i → findL t i a n ws ≤ i + ws.length
  | [], i, a, n, h => by
    rw [findL]
    split
    · simpa using h
    · simp
  | w :: ws, i, a, n, h => by
    rw [findL]
    split
    · have := find_le t ws (i + 1) a n (by omega)
      simp; omega
    · split
      · simp
      · have := find_le t ws (i + 1) (i + 1) (n + 1) (by omega)
        simp; omega

/-- what From answers of what was read -/
def yearD (p : Int × Int) : Int × Int := if p.2 = 0 ∧ 1 ≤ p.1 ∧ p.1 ≤ 9999 then (p.1, 0) else (0, 8)
def lastD (e : Nat) (y : Int × Int) (fr : Int) : Int × Int := if e = 1 then (fr, 0) else if e = 2 then (10000, 0) else if y.2 = 0 ∧ fr ≤ y.1 then y else (0, 8)
def onlyT : Bs := [111, 110, 108, 121]
def maxT : Bs := [109, 97, 120]
def showToD (fr to : Int) : Bs × Int :=
  if ¬ (1 ≤ fr ∧ fr ≤ 9999) then ([], 8) else if to = 10000 then (maxT, 0) else if ¬ (1 ≤ to ∧ to ≤ 9999) ∨ to < fr then ([], 8) else if to = fr then (onlyT, 0) else (itoa to, 0)
theorem year_kind (p : Int × Int) : (yearD p).2 = 0 ∨ yearD p = (0, 8) := by
  unfold yearD
  split
  · exact .inl rfl
  · exact .inr rfl
theorem last_kind (e : Nat) (p : Int × Int) (fr : Int) : (lastD e (yearD p) fr).2 = 0 ∨ lastD e (yearD p) fr = (0, 8) := by
  unfold lastD
  split
  · exact .inl rfl
  · split
    · exact .inl rfl
    · split
      · rename_i h
        exact .inl h.1
      · exact .inr rfl
theorem end_digit (c : UInt8) (r : Bs) (h : digB c = true) : endD (c :: r) = 0 := by
  have hl : lowB c = c := by
    have H : ∀ k : Fin 256, digB (UInt8.ofNat k.val) = true → lowB (UInt8.ofNat k.val) = UInt8.ofNat k.val := by decide +kernel
    have := H ⟨c.toNat, c.toNat_lt⟩
    simp only [UInt8.ofNat_toNat] at this
    exact this h
  have h1 : ∀ x : UInt8, ∀ l : Bs, digB x = false → preB (c :: small r) (x :: l) = false := fun x l hx => by
    unfold preB
    rw [show (c == x) = false from beq_eq_false_iff_ne.2 (fun e => by rw [e, hx] at h; cases h)]
    rfl
  unfold endD findD
  rw [show small (c :: r) = c :: small r by simp [small, hl]]
  unfold ends
  simp [findL, h1 111 _ (by decide), h1 109 _ (by decide)]
theorem end_itoa (n : Int) (h : 1 ≤ n) : endD (itoa n) = 0 := by
  rw [itoa_pos (by omega)]
  obtain ⟨c, r, hc⟩ := dec_ne n.toNat
  have := (dec_digits n.toNat).1
  rw [hc] at this ⊢
  exact end_digit c r (by simp only [List.all_cons, Bool.and_eq_true] at this; exact this.1)
theorem end_words : endD onlyT = 1 ∧ endD maxT = 2 := by decide +kernel
/-- what is shown of a last year is read as it -/
theorem show_last (fr to : Int) (h : (showToD fr to).2 = 0) (p : Int × Int) (hp : parsed (showToD fr to).1 = p) :
    lastD (endD (showToD fr to).1) (yearD p) fr = (to, 0) ∧ ((showToD fr to).1 = onlyT ↔ fr = to) ∧ ((showToD fr to).1 = maxT ↔ to = 10000) := by
  unfold showToD at *
  by_cases h1 : 1 ≤ fr ∧ fr ≤ 9999
  · rw [if_neg (by simpa using h1)] at *
    by_cases h2 : to = 10000
    · rw [if_pos h2] at *
      rw [end_words.2]
      exact ⟨by rw [lastD, if_neg (by decide), if_pos rfl, h2], ⟨fun e => absurd e (by decide), fun e => by omega⟩, ⟨fun _ => h2, fun _ => rfl⟩⟩
    · rw [if_neg h2] at *
      by_cases h3 : ¬ (1 ≤ to ∧ to ≤ 9999) ∨ to < fr
      · rw [if_pos h3] at h
        exact absurd h (by decide)
      · rw [if_neg h3] at *
        by_cases h4 : to = fr
        · rw [if_pos h4] at *
          rw [end_words.1]
          exact ⟨by rw [lastD, if_pos rfl, h4], ⟨fun _ => h4.symm, fun _ => rfl⟩, ⟨fun e => absurd e (by decide), fun e => absurd e h2⟩⟩
        · rw [if_neg h4] at *
          have hr : inRange to := by unfold inRange; omega
          have hpp : p = (to, 0) := by rw [← hp, parsed_itoa to hr]
          have hb : ∀ t : Bs, (parsed t).2 ≠ 0 → itoa to ≠ t := fun t ht e => by
            rw [← e, parsed_itoa to hr] at ht
            exact ht rfl
          rw [end_itoa to (by omega), hpp]
          refine ⟨?_, ⟨fun e => absurd e (hb onlyT (by decide +kernel)), fun e => absurd e.symm h4⟩, ⟨fun e => absurd e (hb maxT (by decide +kernel)), fun e => absurd e h2⟩⟩
          have hy : yearD (to, 0) = (to, 0) := by rw [yearD, if_pos ⟨rfl, by omega, by omega⟩]
          rw [lastD, if_neg (by decide), if_neg (by decide), hy, if_pos ⟨rfl, by omega⟩]
  · rw [if_pos (by simpa using h1)] at h
    exact absurd h (by decide)
theorem showTo_kind (fr to : Int) : (showToD fr to).2 = 0 ∨ showToD fr to = ([], 8) := by
  unfold showToD
  split
  · exact .inr rfl
  · split
    · exact .inl rfl
    · split
      · exact .inr rfl
      · split
        · exact .inl rfl
        · exact .inl rfl
end Go.Kwd
