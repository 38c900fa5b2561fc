namespace Go.Kwd
abbrev Bs := List UInt8

/-- a letter of ASCII, small -/
def lowB (c : UInt8) : UInt8 := if 65 ≤ c.toNat ∧ c.toNat ≤ 90 then c + 32 else c
def small (l : Bs) : Bs := l.map lowB
def preB : Bs → Bs → Bool
  | [], _ => true
  | _ :: _, [] => false
  | a :: l, b :: m => a == b && preB l m
/-- the place of the word that t (small) stands for, from 1 on; 0: none; i: places gone by, at and n: the last begun one and how many -/
def findL (t : Bs) : Nat → Nat → Nat → List Bs → Nat
  | _, at_, n, [] => if n = 1 then at_ else 0
  | i, at_, n, w :: ws => if t.isEmpty || !preB t w then findL t (i + 1) at_ n ws else if t.length = w.length then i + 1 else findL t (i + 1) (i + 1) (n + 1) ws
def findD (s : Bs) (ws : List Bs) : Nat := findL (small s) 0 0 0 ws
def heads : List Bs := [[114, 117, 108, 101], [122, 111, 110, 101], [108, 105, 110, 107]]
def months : List Bs := [[106, 97, 110, 117, 97, 114, 121], [102, 101, 98, 114, 117, 97, 114, 121], [109, 97, 114, 99, 104], [97, 112, 114, 105, 108], [109, 97, 121], [106, 117, 110, 101], [106, 117, 108, 121],
  [97, 117, 103, 117, 115, 116], [115, 101, 112, 116, 101, 109, 98, 101, 114], [111, 99, 116, 111, 98, 101, 114], [110, 111, 118, 101, 109, 98, 101, 114], [100, 101, 99, 101, 109, 98, 101, 114]]
def ends : List Bs := [[111, 110, 108, 121], [109, 97, 120, 105, 109, 117, 109], [109, 105, 110, 105, 109, 117, 109]]
def headD (s : Bs) : Nat := findD s heads
def monthD (s : Bs) : Nat := findD s months
def endD (s : Bs) : Nat := findD s ends
def showMonthD (m : Int) : Bs := if 1 ≤ m ∧ m ≤ 12 then match months[(m - 1).toNat]? with
  | some (c :: r) => (c - 32) :: r.take 2
  | _ => []
  else []
theorem pre_len : ∀ {t w : Bs}, preB t w = true → t.length ≤ w.length
  | [], _, _ => by simp
  | _ :: _, [], h => by cases h
  | a :: l, b :: m, h => by
    unfold preB at h
    simp only [Bool.and_eq_true] at h
    have := pre_len h.2
    simp
    omega
theorem pre_iff : ∀ {t w : Bs}, preB t w = true ↔ w.take t.length = t
  | [], _ => by simp [preB]
  | _ :: _, [] => by simp [preB]
  | a :: l, b :: m => by
    unfold preB
    simp only [Bool.and_eq_true, beq_iff_eq, List.length_cons, List.take_succ_cons, List.cons.injEq]
    rw [pre_iff]
    exact ⟨fun ⟨h1, h2⟩ => ⟨h1.symm, h2⟩, fun ⟨h1, h2⟩ => ⟨h1.symm, h2⟩⟩
theorem find_empty : ∀ (i a n : Nat) (ws : List Bs), findL [] i a n ws = if n = 1 then a else 0
  | _, _, _, [] => rfl
  | i, a, n, w :: ws => by
    have h : findL [] i a n (w :: ws) = findL [] (i + 1) a n ws := by simp [findL]
    rw [h]
    exact find_empty _ _ _ ws
/-- what the law on longer words asks: the place, the bytes that are left, with the first one great or not -/
def cutM (m n : Nat) (great : Bool) : Bs := match months[m - 1]? with
  | some w => match w.take n with
    | c :: r => (if great then c - 32 else c) :: r
    | [] => []
  | none => []
theorem longer : ∀ (m : Fin 12) (n : Fin 9) (g : Bool), (monthD (cutM (m.val + 1) (n.val + 1) g) = 0 ∨ (monthD (cutM (m.val + 1) (n.val + 1) g) = m.val + 1 ∧ monthD (cutM (m.val + 1) (n.val + 2) false) = m.val + 1)) := by decide +kernel
theorem whole : ∀ (m : Fin 12), monthD (cutM (m.val + 1) 9 false) = m.val + 1 ∧ monthD (cutM (m.val + 1) 3 false) = m.val + 1 ∧ monthD (showMonthD ((m.val + 1 : Nat) : Int)) = m.val + 1 := by decide +kernel
theorem alive_months : monthD [106, 117] = 0 ∧ monthD [74, 85, 78] = 6 ∧ headD [122] = 2 ∧ endD [109, 97] = 2 ∧ endD [109] = 0 := by decide +kernel

/- names -/
def letterB (c : UInt8) : Bool := (decide (97 ≤ c.toNat) && decide (c.toNat ≤ 122)) || (decide (65 ≤ c.toNat) && decide (c.toNat ≤ 90))
def digitB (c : UInt8) : Bool := decide (48 ≤ c.toNat) && decide (c.toNat ≤ 57)
/-- may the byte stand in a part of a zone's name? -/
def zoneB (first : Bool) (c : UInt8) : Bool := letterB c || digitB c || c == 43 || c == 95 || (c == 45 && !first)
def zoneM : Bool → Bs → Bool
  | b, [] => !b
  | b, c :: r => if c = 47 then !b && zoneM true r else zoneB b c && zoneM false r
def zoneD (l : Bs) : Bool := decide (1 ≤ l.length) && decide (l.length ≤ 30) && zoneM true l
def ruleB (c : UInt8) : Bool := letterB c || digitB c || c == 45 || c == 95
def ruleM : Bs → Bool
  | [] => false
  | c :: r => (letterB c || c == 95) && r.all ruleB
def ruleD (l : Bs) : Bool := decide (1 ≤ l.length) && decide (l.length ≤ 30) && ruleM l
theorem zone_parts (y : Bs) : ∀ (x : Bs) (b : Bool), zoneM b (x ++ 47 :: y) = (zoneM b x && zoneM true y)
  | [], b => by
    rw [List.nil_append]
    show (if (47 : UInt8) = 47 then !b && zoneM true y else _) = _
    rw [if_pos rfl]
    rfl
  | c :: x, b => by
    rw [List.cons_append]
    by_cases h : c = 47
    · rw [zoneM, if_pos h, zoneM, if_pos h, zone_parts y x true, Bool.and_assoc]
    · rw [zoneM, if_neg h, zoneM, if_neg h, zone_parts y x false, Bool.and_assoc]
theorem zone_join {a b : Bs} (ha : zoneD a = true) (hb : zoneD b = true) : zoneD (a ++ [47] ++ b) = decide (a.length + 1 + b.length ≤ 30) := by
  unfold zoneD at *
  simp only [Bool.and_eq_true, decide_eq_true_eq] at ha hb
  rw [show (a ++ [47] ++ b : Bs) = a ++ 47 :: b by simp, zone_parts, ha.2, hb.2]
  rw [Bool.eq_iff_iff]
  simp
  omega
theorem zone_open (a : Bs) : zoneD (a ++ [47]) = false := by
  unfold zoneD
  rw [zone_parts]
  have h : zoneM true [] = false := rfl
  rw [h]
  simp
theorem zone_slash (a : Bs) : zoneD (47 :: a) = false := by
  unfold zoneD
  rw [zoneM, if_pos rfl]
  simp
theorem rule_no (c : UInt8) (h : ruleB c = true) : c ≠ 47 ∧ zoneB false c = true := by
  have H : ∀ k : Fin 256, ruleB (UInt8.ofNat k.val) = true → UInt8.ofNat k.val ≠ 47 ∧ zoneB false (UInt8.ofNat k.val) = true := by decide +kernel
  have := H ⟨c.toNat, c.toNat_lt⟩
  simp only [UInt8.ofNat_toNat] at this
  exact this h
theorem first_no (c : UInt8) (h : (letterB c || c == 95) = true) : c ≠ 47 ∧ zoneB true c = true := by
  have H : ∀ k : Fin 256, (letterB (UInt8.ofNat k.val) || UInt8.ofNat k.val == 95) = true → UInt8.ofNat k.val ≠ 47 ∧ zoneB true (UInt8.ofNat k.val) = true := by decide +kernel
  have := H ⟨c.toNat, c.toNat_lt⟩
  simp only [UInt8.ofNat_toNat] at this
  exact this h
theorem rule_rest : ∀ r : Bs, r.all ruleB = true → zoneM false r = true
  | [], _ => rfl
  | c :: r, h => by
    simp only [List.all_cons, Bool.and_eq_true] at h
    obtain ⟨h1, h2⟩ := rule_no c h.1
    rw [zoneM, if_neg h1, h2, rule_rest r h.2]
    rfl
theorem rule_zone {l : Bs} (h : ruleD l = true) : zoneD l = true := by
  unfold ruleD at h
  unfold zoneD
  simp only [Bool.and_eq_true] at h ⊢
  refine ⟨h.1, ?_⟩
  cases l with
  | nil => cases h.2
  | cons c r =>
    have h2 := h.2
    unfold ruleM at h2
    rw [Bool.and_eq_true] at h2
    obtain ⟨h3, h4⟩ := first_no c h2.1
    rw [zoneM, if_neg h3, h4, rule_rest r h2.2]
    rfl
theorem rule_slash (a b : Bs) : ruleD (a ++ 47 :: b) = false := by
  unfold ruleD
  rw [Bool.and_eq_false_iff]
  refine .inr ?_
  cases a with
  | nil =>
    have h : ruleM (47 :: b) = ((letterB 47 || (47 : UInt8) == 95) && b.all ruleB) := rfl
    rw [List.nil_append, h, show (letterB 47 || (47 : UInt8) == 95) = false by decide]
    rfl
  | cons c a =>
    show (_ && (a ++ 47 :: b).all ruleB) = false
    rw [List.all_append, List.all_cons, show ruleB 47 = false by decide]
    simp
/- years -/
/-- what From answers of a number that was read, or of none -/
def fromD (p : Option Int) : Int × Int := match p with
  | some n => if 1 ≤ n ∧ n ≤ 9999 then (n, 0) else (0, 8)
  | none => (0, 8)
def toD (e : Nat) (p : Option Int) (fr : Int) : Int × Int := if e = 1 then (fr, 0) else if e = 2 then (10000, 0) else if (fromD p).2 = 0 ∧ fr ≤ (fromD p).1 then fromD p else (0, 8)
end Go.Kwd
