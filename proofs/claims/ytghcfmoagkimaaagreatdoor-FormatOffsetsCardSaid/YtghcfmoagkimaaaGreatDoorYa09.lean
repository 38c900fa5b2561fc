import Derived.Test.YtghcfmoagkimaaaGreatDoorYa07
namespace Go.Dcm
open Go.Lin

/- what lines make -/
structure ZoneL where
  name : Bs
  eras : List EraL
  lines : List Int
structure LinkL where
  target : Bs
  name : Bs
  line : Int
structure DiagL where
  line : Int
  col : Int
  k : Int
structure DocL where
  rules : List (RuleL × Int)
  zones : List ZoneL
  links : List LinkL
  diags : List DiagL
/-- while lines are gathered: zones that are done with, and the last one -/
structure StL where
  rules : List (RuleL × Int)
  done : List ZoneL
  cur : Option ZoneL
  links : List LinkL
  diags : List DiagL
  opn : Bool
def StL.zones (s : StL) : List ZoneL := s.done ++ s.cur.toList
def stZ : StL := ⟨[], [], none, [], [], false⟩
def tell (s : StL) (i c k : Int) : StL := { s with diags := s.diags ++ [⟨i, c, k⟩] }
def brk (s : StL) (i : Int) : StL := if s.opn = true then { tell s i 0 21 with opn := false } else s
def ruleD (s : StL) (i : Int) (x : LineL) : StL := { brk s i with rules := s.rules ++ [(x.rule, i)] }
def zoneD (s : StL) (i : Int) (x : LineL) : StL := { brk s i with done := s.zones, cur := some ⟨x.name, [x.era], [i]⟩, opn := x.era.til.has }
def linkD (s : StL) (i : Int) (x : LineL) : StL := { brk s i with links := s.links ++ [⟨x.target, x.name, i⟩] }
def moreD (s : StL) (i : Int) (x : LineL) : StL := match s.opn, s.cur with
  | true, some z => if 8 ≤ z.eras.length then { tell s i 0 17 with opn := x.era.til.has } else { s with cur := some ⟨z.name, z.eras ++ [x.era], z.lines ++ [i]⟩, opn := x.era.til.has }
  | _, _ => tell s i 0 10
def stepD (s : StL) (p : Int × LineL) : StL :=
  if p.2.kind = 1 then ruleD s p.1 p.2
  else if p.2.kind = 2 then zoneD s p.1 p.2
  else if p.2.kind = 3 then moreD s p.1 p.2
  else if p.2.kind = 4 then linkD s p.1 p.2
  else if p.2.kind = 5 then tell s p.1 p.2.col p.2.err
  else s
def lastOf (z : ZoneL) : Int := z.lines.getLastD 0
def endS (s : StL) : StL := match s.opn, s.cur with
  | true, some z => tell s (lastOf z) 0 21
  | _, _ => s
def StL.doc (s : StL) : DocL := ⟨s.rules, s.zones, s.links, s.diags⟩
def endD (s : StL) : DocL := (endS s).doc
def runD (s : StL) (l : List (Int × LineL)) : StL := l.foldl stepD s
/-- lines with their numbers -/
def num : Int → List LineL → List (Int × LineL)
  | _, [] => []
  | i, x :: l => (i, x) :: num (i + 1) l
def ofS (l : List LineL) : StL := runD stZ (num 0 l)
def ofD (l : List LineL) : DocL := endD (ofS l)

/- what is always so -/
/- how many there are -/
def size (s : StL) : Nat := s.rules.length + s.zones.length + s.links.length + s.diags.length
end Go.Dcm
/- fires of rules; no program -/
namespace Go.Xpd
open Go.Lin

/-- the number of a rule's day in a month -/
def dayX (x : DayL) (y m : Int) : Int := if x.k = 1 then Go.Civil.longI y m else x.d
def numX (x : DayL) (y m : Int) : Option Int :=
  if Go.Dfm.rightB x.k x.d x.w = true ∧ Go.Civil.rightB y m (dayX x y m) = true then
    some (if x.k = 2 then Go.Civil.numD y m (dayX x y m) + (x.w - (Go.Civil.numD y m (dayX x y m) + 4) % 7 + 7) % 7
      else if x.k = 0 then Go.Civil.numD y m (dayX x y m)
      else Go.Civil.numD y m (dayX x y m) - ((Go.Civil.numD y m (dayX x y m) + 4) % 7 - x.w + 7) % 7)
  else none
theorem numX_range {x : DayL} {y m n : Int} (h : numX x y m = some n) : -4371600 ≤ n ∧ n < 2932910 := by
  unfold numX at h
  split at h
  · rename_i hc
    have hr := Go.Civil.numD_range hc.2
    have hk := Go.Dfm.rightB_iff.1 hc.1
    unfold Go.Dfm.rightP at hk
    have h := Option.some.inj h
    subst h
    split
    · omega
    · split
      · omega
      · omega
  · cases h
/-- lasts a rule in a year? -/
def lasts (r : RuleL) (y : Int) : Prop := r.fr ≤ y ∧ y ≤ r.to ∧ 1 ≤ y ∧ y ≤ 9999
instance (r : RuleL) (y : Int) : Decidable (lasts r y) := by unfold lasts; infer_instance
/-- the second at which a rule fires in a year -/
def atR (r : RuleL) (y : Int) : Option Int := if lasts r y then (numX r.on y r.month).map (fun n => n * 86400 + r.at_.s) else none
theorem atR_lasts {r : RuleL} {y a : Int} (h : atR r y = some a) : lasts r y := by
  unfold atR at h
  split at h
  · assumption
  · cases h
theorem atR_no {r : RuleL} {y : Int} (h : ¬ lasts r y) : atR r y = none := if_neg h
theorem atR_num {r : RuleL} {y n : Int} (h : lasts r y) (hn : numX r.on y r.month = some n) : atR r y = some (n * 86400 + r.at_.s) := by
  unfold atR; rw [if_pos h, hn]; rfl
theorem atR_none {r : RuleL} {y : Int} (hn : numX r.on y r.month = none) : atR r y = none := by
  unfold atR; rw [hn]; split <;> rfl
/-- no rule that fires is silent for more than 8 years, while it lasts -/
theorem num_nine {x : DayL} {m y0 n0 : Int} (h : numX x y0 m = some n0) (a : Int) (ha : -9999 ≤ a ∧ a + 8 ≤ 9999) : ∃ y n, a ≤ y ∧ y ≤ a + 8 ∧ numX x y m = some n := by
  have hc : Go.Dfm.rightB x.k x.d x.w = true ∧ Go.Civil.rightB y0 m (dayX x y0 m) = true := by
    unfold numX at h
    split at h
    · assumption
    · cases h
  have key : ∃ y, a ≤ y ∧ y ≤ a + 8 ∧ Go.Civil.rightB y m (dayX x y m) = true := by
    obtain ⟨h0, h1, h2, h3, h4, h5⟩ := Go.Civil.rightB_iff.1 hc.2
    by_cases hx : x.k = 1
    · refine ⟨a, by omega, by omega, ?_⟩
      have hl := Go.Civil.longI_ge (y := a) ⟨h2, h3⟩
      have e : dayX x a m = Go.Civil.longI a m := if_pos hx
      rw [e, Go.Civil.rightB_iff]
      omega
    · have e : ∀ y, dayX x y m = x.d := fun y => if_neg hx
      rw [e] at h4 h5
      simp only [e]
      by_cases hm : m = 2
      · subst hm
        have hl : ∀ y, Go.Civil.longI y 2 = 28 + Go.Civil.leapI y := fun y => if_pos rfl
        have hi := Go.Civil.leapI_le y0
        rw [hl] at h5
        have lp : ∃ y, a ≤ y ∧ y ≤ a + 8 ∧ Go.Civil.leapB y = true := by
          by_cases h1 : Go.Civil.leapB (a + (4 - a % 4) % 4) = true
          · exact ⟨_, by omega, by omega, h1⟩
          · refine ⟨a + (4 - a % 4) % 4 + 4, by omega, by omega, ?_⟩
            rw [Go.Civil.leapB_iff] at h1 ⊢
            omega
        obtain ⟨y, hy1, hy2, hy⟩ := lp
        refine ⟨y, hy1, hy2, ?_⟩
        have e2 : Go.Civil.leapI y = 1 := if_pos hy
        rw [Go.Civil.rightB_iff, hl, e2]
        omega
      · have e2 : ∀ y, Go.Civil.longI y m = Go.Civil.longI y0 m := fun y => by unfold Go.Civil.longI; rw [if_neg hm, if_neg hm]
        refine ⟨a, by omega, by omega, ?_⟩
        rw [Go.Civil.rightB_iff, e2 a]
        omega
  obtain ⟨y, h1, h2, h3⟩ := key
  exact ⟨y, _, h1, h2, by unfold numX; rw [if_pos ⟨hc.1, h3⟩]⟩
theorem at_num {r : RuleL} {y a : Int} (h : atR r y = some a) : ∃ n, numX r.on y r.month = some n ∧ a = n * 86400 + r.at_.s := by
  have hl := atR_lasts h
  unfold atR at h
  rw [if_pos hl] at h
  cases hn : numX r.on y r.month with
  | none => rw [hn] at h; cases h
  | some n => rw [hn] at h; exact ⟨n, rfl, (Option.some.inj h).symm⟩
theorem at_nine {r : RuleL} {y0 a0 : Int} (h : atR r y0 = some a0) {a : Int} (h1 : r.fr ≤ a) (h2 : 1 ≤ a) (h3 : a + 8 ≤ r.to) (h4 : a + 8 ≤ 9999) : ∃ y b, a ≤ y ∧ y ≤ a + 8 ∧ atR r y = some b := by
  obtain ⟨n, hn, -⟩ := at_num h
  obtain ⟨y, m, hy1, hy2, hm⟩ := num_nine hn a ⟨by omega, h4⟩
  exact ⟨y, _, hy1, hy2, atR_num ⟨by omega, by omega, by omega, by omega⟩ hm⟩
theorem at_range {r : RuleL} {y a : Int} (h : atR r y = some a) (hs : -700000 ≤ r.at_.s ∧ r.at_.s ≤ 700000) : -400000000000 ≤ a ∧ a ≤ 400000000000 := by
  obtain ⟨n, hn, rfl⟩ := at_num h
  have := numX_range hn
  omega

/-- a fire -/
structure FireL where
  i : Int
  y : Int
  at_ : Int
  bef : Int
deriving DecidableEq, Inhabited
/-- ahead of another one of its year -/
def befo (a b : FireL) : Prop := a.at_ < b.at_ ∨ (a.at_ = b.at_ ∧ a.i < b.i)
instance (a b : FireL) : Decidable (befo a b) := by unfold befo; infer_instance
def putF (f : FireL) : List FireL → List FireL
  | [] => [f]
  | g :: l => if befo g f then g :: putF f l else f :: g :: l
theorem putF_mem {f g : FireL} : ∀ {l : List FireL}, g ∈ putF f l ↔ g = f ∨ g ∈ l
  | [] => by simp [putF]
  | h :: l => by
    unfold putF
    split
    · rw [List.mem_cons, putF_mem, List.mem_cons]
      constructor
      · rintro (h | h | h)
        · exact .inr (.inl h)
        · exact .inl h
        · exact .inr (.inr h)
      · rintro (h | h | h)
        · exact .inr (.inl h)
        · exact .inl h
        · exact .inr (.inr h)
    · rw [List.mem_cons]
theorem putF_len (f : FireL) : ∀ l : List FireL, (putF f l).length = l.length + 1
  | [] => rfl
  | h :: l => by
    unfold putF
    split
    · rw [List.length_cons, putF_len, List.length_cons]
    · rfl
def Rise (l : List FireL) : Prop := l.Pairwise befo
theorem putF_rise {f : FireL} : ∀ {l : List FireL}, Rise l → (∀ g ∈ l, g.i ≠ f.i) → Rise (putF f l)
  | [], _, _ => List.pairwise_singleton _ _
  | g :: l, h, hi => by
    have hg := List.pairwise_cons.1 h
    unfold putF
    split
    · rename_i hb
      refine List.pairwise_cons.2 ⟨fun x hx => ?_, putF_rise hg.2 (fun x hx => hi x (by simp [hx]))⟩
      rcases putF_mem.1 hx with rfl | hx
      · exact hb
      · exact hg.1 x hx
    · rename_i hb
      have hgi := hi g (by simp)
      have hfg : befo f g := by unfold befo at hb ⊢; omega
      refine List.pairwise_cons.2 ⟨fun x hx => ?_, h⟩
      rcases List.mem_cons.1 hx with rfl | hx
      · exact hfg
      · have := hg.1 x hx
        unfold befo at hfg this ⊢; omega
/-- the fires of the first n rules in a year, without Before -/
def yearN (l : List RuleL) (y : Int) : Nat → List FireL
  | 0 => []
  | n + 1 => match l[n]? with
    | none => yearN l y n
    | some r => match atR r y with
      | none => yearN l y n
      | some a => putF ⟨n, y, a, 0⟩ (yearN l y n)
def yearD (l : List RuleL) (y : Int) : List FireL := yearN l y l.length
theorem yearN_none {l : List RuleL} {y : Int} {n : Nat} {r : RuleL} (h : l[n]? = some r) (ha : atR r y = none) : yearN l y (n + 1) = yearN l y n := by
  show (match l[n]? with | none => _ | some r => match atR r y with | none => _ | some a => _) = _
  rw [h]; dsimp only; rw [ha]
theorem yearN_some {l : List RuleL} {y : Int} {n : Nat} {r : RuleL} {a : Int} (h : l[n]? = some r) (ha : atR r y = some a) : yearN l y (n + 1) = putF ⟨n, y, a, 0⟩ (yearN l y n) := by
  show (match l[n]? with | none => _ | some r => match atR r y with | none => _ | some a => _) = _
  rw [h]; dsimp only; rw [ha]
theorem yearN_mem {l : List RuleL} {y : Int} {f : FireL} : ∀ {n : Nat}, f ∈ yearN l y n ↔ ∃ (k : Nat) (r : RuleL), k < n ∧ l[k]? = some r ∧ atR r y = some f.at_ ∧ f = ⟨k, y, f.at_, 0⟩
  | 0 => by simp [yearN]
  | n + 1 => by
    have step : (∃ (k : Nat) (r : RuleL), k < n + 1 ∧ l[k]? = some r ∧ atR r y = some f.at_ ∧ f = ⟨k, y, f.at_, 0⟩) ↔ (∃ r, l[n]? = some r ∧ atR r y = some f.at_ ∧ f = ⟨n, y, f.at_, 0⟩) ∨ (∃ (k : Nat) (r : RuleL), k < n ∧ l[k]? = some r ∧ atR r y = some f.at_ ∧ f = ⟨k, y, f.at_, 0⟩) := by
      constructor
      · rintro ⟨k, r, hk, h⟩
        by_cases e : k = n
        · subst e; exact .inl ⟨r, h⟩
        · exact .inr ⟨k, r, by omega, h⟩
      · rintro (⟨r, h⟩ | ⟨k, r, hk, h⟩)
        · exact ⟨n, r, by omega, h⟩
        · exact ⟨k, r, by omega, h⟩
    rw [step]
    cases hr : l[n]? with
    | none =>
      have e : yearN l y (n + 1) = yearN l y n := by
        show (match l[n]? with | none => _ | some r => match atR r y with | none => _ | some a => _) = _
        rw [hr]
      rw [e, yearN_mem]
      simp
    | some r =>
      cases ha : atR r y with
      | none =>
        rw [yearN_none hr ha, yearN_mem]
        constructor
        · exact .inr
        · rintro (⟨r', h1, h2, -⟩ | h)
          · cases h1; rw [ha] at h2; cases h2
          · exact h
      | some a =>
        rw [yearN_some hr ha, putF_mem, yearN_mem]
        constructor
        · rintro (rfl | h)
          · exact .inl ⟨r, rfl, ha, rfl⟩
          · exact .inr h
        · rintro (⟨r', h1, h2, h3⟩ | h)
          · cases h1; rw [ha] at h2; left; rw [h3, Option.some.inj h2]
          · exact .inr h
theorem yearN_rise (l : List RuleL) (y : Int) : ∀ n : Nat, Rise (yearN l y n)
  | 0 => List.Pairwise.nil
  | n + 1 => by
    have ih := yearN_rise l y n
    cases hr : l[n]? with
    | none =>
      have e : yearN l y (n + 1) = yearN l y n := by
        show (match l[n]? with | none => _ | some r => match atR r y with | none => _ | some a => _) = _
        rw [hr]
      rw [e]; exact ih
    | some r =>
      cases ha : atR r y with
      | none => rw [yearN_none hr ha]; exact ih
      | some a =>
        rw [yearN_some hr ha]
        refine putF_rise ih fun g hg => ?_
        obtain ⟨k, r', hk, -, -, e⟩ := yearN_mem.1 hg
        rw [e]
        show (k : Int) ≠ (n : Int)
        omega
theorem yearN_len (l : List RuleL) (y : Int) : ∀ n : Nat, (yearN l y n).length ≤ n
  | 0 => Nat.le_refl _
  | n + 1 => by
    have ih := yearN_len l y n
    cases hr : l[n]? with
    | none =>
      have e : yearN l y (n + 1) = yearN l y n := by
        show (match l[n]? with | none => _ | some r => match atR r y with | none => _ | some a => _) = _
        rw [hr]
      rw [e]; omega
    | some r =>
      cases ha : atR r y with
      | none => rw [yearN_none hr ha]; omega
      | some a => rw [yearN_some hr ha, putF_len]; omega
theorem yearD_mem {l : List RuleL} {y : Int} {f : FireL} : f ∈ yearD l y ↔ ∃ (k : Nat) (r : RuleL), l[k]? = some r ∧ atR r y = some f.at_ ∧ f = ⟨k, y, f.at_, 0⟩ := by
  unfold yearD
  rw [yearN_mem]
  constructor
  · rintro ⟨k, r, -, h⟩; exact ⟨k, r, h⟩
  · rintro ⟨k, r, h⟩
    exact ⟨k, r, (List.getElem?_eq_some_iff.1 h.1).1, h⟩
theorem yearD_rise (l : List RuleL) (y : Int) : Rise (yearD l y) := yearN_rise l y _
theorem yearD_none {l : List RuleL} {y : Int} (h : ∀ r ∈ l, ¬ lasts r y) : yearD l y = [] := by
  rw [List.eq_nil_iff_forall_not_mem]
  intro f hf
  obtain ⟨k, r, hk, ha, -⟩ := yearD_mem.1 hf
  exact h r (List.mem_of_getElem? hk) (atR_lasts ha)
theorem yearD_out {l : List RuleL} {y : Int} (h : y < 1 ∨ 9999 < y) : yearD l y = [] := yearD_none fun r _ hl => by unfold lasts at hl; omega
/-- the saving of a rule by its place -/
def savD (l : List RuleL) (i : Int) : Int := match l[i.toNat]? with
  | none => 0
  | some r => r.save
/-- the saving ahead of a year -/
def lastS (l : List RuleL) : Nat → Int
  | 0 => 0
  | n + 1 => match (yearD l (n + 1)).getLast? with
    | none => lastS l n
    | some f => savD l f.i
theorem lastS_none {l : List RuleL} {n : Nat} (h : yearD l (n + 1) = []) : lastS l (n + 1) = lastS l n := by
  show (match (yearD l (n + 1)).getLast? with | none => _ | some f => _) = _
  rw [h]; rfl
theorem lastS_some {l : List RuleL} {n : Nat} {f : FireL} (h : (yearD l (n + 1)).getLast? = some f) : lastS l (n + 1) = savD l f.i := by
  show (match (yearD l (n + 1)).getLast? with | none => _ | some f => _) = _
  rw [h]
theorem lastS_skip {l : List RuleL} {a : Nat} : ∀ {b : Nat}, a ≤ b → (∀ y : Int, (a : Int) < y → y ≤ b → yearD l y = []) → lastS l b = lastS l a
  | 0, h, _ => by rw [Nat.le_zero.1 h]
  | b + 1, h, hy => by
    by_cases e : a = b + 1
    · rw [e]
    · rw [lastS_none (hy _ (by omega) (by omega))]
      exact lastS_skip (by omega) fun y h1 h2 => hy y h1 (by omega)
def befY (l : List RuleL) (y : Int) : Int := lastS l (min (y - 1) 9999).toNat
theorem befY_skip {l : List RuleL} {a b : Int} (h : a ≤ b) (hy : ∀ y, a ≤ y → y < b → yearD l y = []) : befY l b = befY l a := by
  unfold befY
  refine lastS_skip (by omega) fun y h1 h2 => ?_
  by_cases hr : y < 1 ∨ 9999 < y
  · exact yearD_out hr
  · exact hy y (by omega) (by omega)
theorem befY_some {l : List RuleL} {y : Int} {f : FireL} (h : (yearD l y).getLast? = some f) : befY l (y + 1) = savD l f.i := by
  have hr : 1 ≤ y ∧ y ≤ 9999 := by
    by_cases hr : y < 1 ∨ 9999 < y
    · rw [yearD_out hr] at h; cases h
    · omega
  unfold befY
  obtain ⟨n, e⟩ : ∃ n : Nat, (n : Int) = y - 1 := ⟨(y - 1).toNat, by omega⟩
  have e1 : (min (y + 1 - 1) 9999).toNat = n + 1 := by omega
  rw [e1]
  exact lastS_some (by rw [show ((n : Int) + 1) = y by omega]; exact h)
theorem befY_zero {l : List RuleL} {y : Int} (h : ∀ x, x < y → yearD l x = []) : befY l y = 0 := by
  rw [befY_skip (a := min y 1) (b := y) (by omega) fun x _ h2 => h x h2]
  unfold befY
  rw [show (min (min y 1 - 1) 9999).toNat = 0 by omega]
  rfl
/-- fires with the savings ahead of them -/
def markF (l : List RuleL) (s : Int) : List FireL → List FireL
  | [] => []
  | f :: r => { f with bef := s } :: markF l (savD l f.i) r
def endS (l : List RuleL) (s : Int) : List FireL → Int
  | [] => s
  | f :: r => endS l (savD l f.i) r
theorem markF_len (l : List RuleL) : ∀ (s : Int) (a : List FireL), (markF l s a).length = a.length
  | _, [] => rfl
  | _, f :: r => by unfold markF; rw [List.length_cons, markF_len, List.length_cons]
theorem markF_app (l : List RuleL) : ∀ (s : Int) (a b : List FireL), markF l s (a ++ b) = markF l s a ++ markF l (endS l s a) b
  | _, [], _ => rfl
  | s, f :: a, b => by
    show { f with bef := s } :: markF l (savD l f.i) (a ++ b) = { f with bef := s } :: (markF l (savD l f.i) a ++ markF l (endS l (savD l f.i) a) b)
    rw [markF_app]
theorem endS_app (l : List RuleL) : ∀ (s : Int) (a b : List FireL), endS l s (a ++ b) = endS l (endS l s a) b
  | _, [], _ => rfl
  | s, f :: a, b => by
    show endS l (savD l f.i) (a ++ b) = endS l (endS l (savD l f.i) a) b
    rw [endS_app]
theorem endS_last (l : List RuleL) : ∀ (s : Int) (a : List FireL), endS l s a = match a.getLast? with | none => s | some f => savD l f.i
  | _, [] => rfl
  | s, [f] => rfl
  | s, f :: g :: a => by
    show endS l (savD l f.i) (g :: a) = _
    rw [endS_last]
    rfl
theorem befY_succ (l : List RuleL) (y : Int) : befY l (y + 1) = endS l (befY l y) (yearD l y) := by
  rw [endS_last]
  cases h : (yearD l y).getLast? with
  | none => exact befY_skip (by omega) fun x h1 h2 => by rw [show x = y by omega]; exact List.getLast?_eq_none_iff.1 h
  | some f => exact befY_some h
/-- the fires of n years from y on -/
def fromN (l : List RuleL) (y : Int) : Nat → List FireL
  | 0 => []
  | n + 1 => fromN l y n ++ markF l (befY l (y + n)) (yearD l (y + n))
def fromD (l : List RuleL) (a b : Int) : List FireL := fromN l (max a 1) (min b 9999 + 1 - max a 1).toNat
theorem fromN_add (l : List RuleL) (y : Int) (a : Nat) : ∀ b : Nat, fromN l y (a + b) = fromN l y a ++ fromN l (y + a) b
  | 0 => by simp [fromN]
  | b + 1 => by
    show fromN l y (a + b) ++ markF l (befY l (y + (a + b : Nat))) (yearD l (y + (a + b : Nat))) = fromN l y a ++ (fromN l (y + a) b ++ markF l (befY l (y + a + b)) (yearD l (y + a + b)))
    rw [fromN_add l y a b, List.append_assoc, show y + ((a + b : Nat) : Int) = y + a + b by omega]
theorem fromN_none {l : List RuleL} {y : Int} : ∀ {n : Nat}, (∀ x, y ≤ x → x < y + n → yearD l x = []) → fromN l y n = []
  | 0, _ => rfl
  | n + 1, h => by
    show fromN l y n ++ markF l (befY l (y + n)) (yearD l (y + n)) = []
    rw [fromN_none fun x h1 h2 => h x h1 (by omega), h (y + n) (by omega) (by omega)]
    rfl
theorem from_skip {l : List RuleL} {a c b : Int} (h1 : 1 ≤ a) (h2 : a ≤ c) (hy : ∀ x, a ≤ x → x < c → yearD l x = []) : fromD l a b = fromN l c (min b 9999 + 1 - c).toNat := by
  unfold fromD
  rw [show max a 1 = a by omega]
  by_cases h3 : c ≤ min b 9999 + 1
  · obtain ⟨n, hn⟩ : ∃ n : Nat, (n : Int) = c - a := ⟨(c - a).toNat, by omega⟩
    obtain ⟨k, hk⟩ : ∃ k : Nat, (k : Int) = min b 9999 + 1 - c := ⟨(min b 9999 + 1 - c).toNat, by omega⟩
    rw [show (min b 9999 + 1 - a).toNat = n + k by omega, show (min b 9999 + 1 - c).toNat = k by omega, fromN_add, fromN_none (fun x h1 h2 => hy x h1 (by omega)), show a + (n : Int) = c by omega]
    rfl
  · rw [show (min b 9999 + 1 - c).toNat = 0 by omega, fromN_none fun x h1 h2 => hy x h1 (by omega)]
    rfl
end Go.Xpd
/- spans, letters, orders of fires; no program -/
namespace Go.Xpd
open Go.Lin

def spF (s : Int × Int × Bool) (r : RuleL) : Int × Int × Bool := (min s.1 r.fr, max s.2.1 (if r.to = 10000 then r.fr else r.to), s.2.2 || decide (r.to = 10000))
/-- what Span answers -/
def spanD : List RuleL → Int × Int × Bool
  | [] => (0, 0, false)
  | r :: t => (r :: t).foldl spF (r.fr, r.fr, false)
theorem sp_ge : ∀ (l : List RuleL) (s : Int × Int × Bool), (l.foldl spF s).1 ≤ s.1 ∧ s.2.1 ≤ (l.foldl spF s).2.1 ∧ (s.2.2 = true → (l.foldl spF s).2.2 = true) ∧
    ∀ r ∈ l, (l.foldl spF s).1 ≤ r.fr ∧ (r.to ≠ 10000 → r.to ≤ (l.foldl spF s).2.1) ∧ (r.to = 10000 → r.fr ≤ (l.foldl spF s).2.1 ∧ (l.foldl spF s).2.2 = true)
  | [], s => ⟨Int.le_refl _, Int.le_refl _, id, fun r h => absurd h (by simp)⟩
  | r :: l, s => by
    obtain ⟨h1, h2, h3, h4⟩ := sp_ge l (spF s r)
    have e1 : (spF s r).1 = min s.1 r.fr := rfl
    have e2 : (spF s r).2.1 = max s.2.1 (if r.to = 10000 then r.fr else r.to) := rfl
    have e3 : (spF s r).2.2 = (s.2.2 || decide (r.to = 10000)) := rfl
    rw [List.foldl_cons]
    refine ⟨by omega, by rw [e2] at h2; omega, fun h => h3 (by rw [e3, h]; rfl), fun x hx => ?_⟩
    rcases List.mem_cons.1 hx with rfl | hx
    · refine ⟨by omega, fun h => ?_, fun h => ⟨?_, h3 (by rw [e3, h]; simp)⟩⟩
      · rw [e2, if_neg h] at h2; omega
      · rw [e2, if_pos h] at h2; omega
    · exact h4 x hx
theorem span_last {l : List RuleL} (h : (spanD l).2.2 = false) : ∀ r ∈ l, r.to ≤ (spanD l).2.1 := by
  cases l with
  | nil => exact fun r hr => absurd hr (by simp)
  | cons x t =>
    intro r hr
    obtain ⟨-, -, -, h4⟩ := sp_ge (x :: t) (x.fr, x.fr, false)
    obtain ⟨-, h5, h6⟩ := h4 r hr
    by_cases e : r.to = 10000
    · have := (h6 e).2
      rw [show spanD (x :: t) = (x :: t).foldl spF (x.fr, x.fr, false) from rfl, this] at h
      cases h
    · exact h5 e
theorem span_first {l : List RuleL} : ∀ r ∈ l, (spanD l).1 ≤ r.fr := by
  cases l with
  | nil => exact fun r hr => absurd hr (by simp)
  | cons x t => exact fun r hr => ((sp_ge (x :: t) (x.fr, x.fr, false)).2.2.2 r hr).1
theorem span_bound {l : List RuleL} {n : Int} (hn : 0 ≤ n) (h : ∀ r ∈ l, -n ≤ r.fr ∧ r.fr ≤ n ∧ -n ≤ r.to ∧ r.to ≤ n) : -n ≤ (spanD l).1 ∧ (spanD l).1 ≤ n ∧ -n ≤ (spanD l).2.1 ∧ (spanD l).2.1 ≤ n := by
  have key : ∀ (t : List RuleL) (s : Int × Int × Bool), (∀ r ∈ t, -n ≤ r.fr ∧ r.fr ≤ n ∧ -n ≤ r.to ∧ r.to ≤ n) → -n ≤ s.1 ∧ s.1 ≤ n ∧ -n ≤ s.2.1 ∧ s.2.1 ≤ n → -n ≤ (t.foldl spF s).1 ∧ (t.foldl spF s).1 ≤ n ∧ -n ≤ (t.foldl spF s).2.1 ∧ (t.foldl spF s).2.1 ≤ n := by
    intro t
    induction t with
    | nil => exact fun s _ h => h
    | cons r t ih =>
      intro s ht hs
      have hr := ht r (by simp)
      refine ih _ (fun x hx => ht x (by simp [hx])) ?_
      have e1 : (spF s r).1 = min s.1 r.fr := rfl
      have e2 : (spF s r).2.1 = max s.2.1 (if r.to = 10000 then r.fr else r.to) := rfl
      rw [e1, e2]
      split <;> omega
  cases l with
  | nil => exact ⟨by show -n ≤ (0 : Int); omega, by show (0 : Int) ≤ n; omega, by show -n ≤ (0 : Int); omega, by show (0 : Int) ≤ n; omega⟩
  | cons x t =>
    have hx := h x (by simp)
    exact key _ _ h ⟨hx.1, hx.2.1, hx.1, hx.2.1⟩
/-- the first year in which one may fire -/
def leF (n : Int) (r : RuleL) : Int := min n (max r.fr 1)
def leastD (l : List RuleL) : Int := l.foldl leF 10000
theorem le_ge : ∀ (l : List RuleL) (n : Int), 1 ≤ n → 1 ≤ l.foldl leF n ∧ l.foldl leF n ≤ n ∧ ∀ r ∈ l, l.foldl leF n ≤ max r.fr 1
  | [], n, h => ⟨h, Int.le_refl _, fun r hr => absurd hr (by simp)⟩
  | r :: l, n, h => by
    have e : leF n r = min n (max r.fr 1) := rfl
    obtain ⟨h1, h2, h3⟩ := le_ge l (leF n r) (by omega)
    rw [List.foldl_cons]
    refine ⟨h1, by omega, fun x hx => ?_⟩
    rcases List.mem_cons.1 hx with rfl | hx
    · omega
    · exact h3 x hx
theorem least_range (l : List RuleL) : 1 ≤ leastD l ∧ leastD l ≤ 10000 := ⟨(le_ge l 10000 (by omega)).1, (le_ge l 10000 (by omega)).2.1⟩
theorem least_none {l : List RuleL} {y : Int} (h : y < leastD l) : yearD l y = [] := yearD_none fun r hr hl => by
  have := (le_ge l 10000 (by omega)).2.2 r hr
  unfold leastD at h; unfold lasts at hl; omega
theorem span_none {l : List RuleL} {y : Int} (he : (spanD l).2.2 = false) (h : (spanD l).2.1 < y) : yearD l y = [] := yearD_none fun r hr hl => by
  have := span_last he r hr
  unfold lasts at hl; omega
/-- the year behind which nothing is asked -/
def capY (l : List RuleL) (y : Int) : Int := if (spanD l).2.2 = true then y else min y ((spanD l).2.1 + 1)
theorem befY_cap (l : List RuleL) (y : Int) : befY l (capY l y) = befY l y := by
  unfold capY
  split
  · rfl
  · rename_i h
    have h : (spanD l).2.2 = false := by simpa using h
    exact (befY_skip (a := min y ((spanD l).2.1 + 1)) (b := y) (by omega) fun x h1 h2 => span_none h (by omega)).symm
theorem befY_top (l : List RuleL) (y : Int) : befY l (min (y - 1) 9999 + 1) = befY l y := by
  unfold befY
  rw [show min (min (y - 1) 9999 + 1 - 1) 9999 = min (y - 1) 9999 by omega]
theorem befY_down {l : List RuleL} {x : Int} (h : yearD l x = []) : befY l (x + 1) = befY l x := befY_skip (by omega) fun z h1 h2 => by rw [show z = x by omega]; exact h
theorem befY_least {l : List RuleL} {x : Int} (h : x < leastD l) : befY l (x + 1) = 0 := befY_zero fun z hz => least_none (by omega)
/-- the first fire of a rule -/
def firstF (r : RuleL) (y : Int) : Nat → Option (Int × Int)
  | 0 => none
  | n + 1 => match atR r y with
    | some a => some (y, a)
    | none => firstF r (y + 1) n
theorem firstF_hit {r : RuleL} {y a : Int} {n : Nat} (h : atR r y = some a) : firstF r y (n + 1) = some (y, a) := by unfold firstF; rw [h]
theorem firstF_miss {r : RuleL} {y : Int} {n : Nat} (h : atR r y = none) : firstF r y (n + 1) = firstF r (y + 1) n := by rw [firstF]; rw [h]
theorem firstF_some {r : RuleL} {z a : Int} : ∀ {n : Nat} {y : Int}, firstF r y n = some (z, a) → y ≤ z ∧ z < y + n ∧ atR r z = some a ∧ ∀ x, y ≤ x → x < z → atR r x = none
  | 0, _, h => nomatch h
  | n + 1, y, h => by
    cases ha : atR r y with
    | some b =>
      rw [firstF_hit ha] at h
      have h := Option.some.inj h
      cases h
      exact ⟨Int.le_refl _, by omega, ha, fun x h1 h2 => by omega⟩
    | none =>
      rw [firstF_miss ha] at h
      obtain ⟨h1, h2, h3, h4⟩ := firstF_some h
      refine ⟨by omega, by omega, h3, fun x h5 h6 => ?_⟩
      by_cases e : x = y
      · rw [e]; exact ha
      · exact h4 x (by omega) h6
theorem firstF_none {r : RuleL} : ∀ {n : Nat} {y : Int}, firstF r y n = none → ∀ x, y ≤ x → x < y + n → atR r x = none
  | 0, _, _ => fun x h1 h2 => by omega
  | n + 1, y, h => by
    cases ha : atR r y with
    | some b => rw [firstF_hit ha] at h; cases h
    | none =>
      rw [firstF_miss ha] at h
      intro x h1 h2
      by_cases e : x = y
      · rw [e]; exact ha
      · exact firstF_none h x (by omega) (by omega)
def firstN (r : RuleL) : Nat := (min (min r.to 9999) (max r.fr 1 + 8) + 1 - max r.fr 1).toNat
def firstR (r : RuleL) : Option (Int × Int) := firstF r (max r.fr 1) (firstN r)
theorem firstR_some {r : RuleL} {y a : Int} (h : firstR r = some (y, a)) : atR r y = some a ∧ ∀ x, x < y → atR r x = none := by
  obtain ⟨h1, h2, h3, h4⟩ := firstF_some h
  refine ⟨h3, fun x hx => ?_⟩
  by_cases e : max r.fr 1 ≤ x
  · exact h4 x e hx
  · exact atR_no fun hl => by unfold lasts at hl; omega
theorem firstR_none {r : RuleL} (h : firstR r = none) (y : Int) : atR r y = none := by
  have hn := firstF_none h
  cases ha : atR r y with
  | none => rfl
  | some a =>
    exfalso
    have hl := atR_lasts ha
    unfold lasts at hl
    by_cases hw : max r.fr 1 + 8 ≤ min r.to 9999
    · obtain ⟨z, b, h1, h2, h3⟩ := at_nine ha (a := max r.fr 1) (by omega) (by omega) (by omega) (by omega)
      have := hn z h1 (by unfold firstN; omega)
      rw [this] at h3; cases h3
    · have := hn y (by omega) (by unfold firstN; omega)
      rw [this] at ha; cases ha
/-- the letter ahead of all fires -/
def letF (b : Option (Int × Int × Bs)) (r : RuleL) : Option (Int × Int × Bs) :=
  if r.save = 0 then
    match firstR r with
    | none => b
    | some p => match b with
      | none => some (p.1, p.2, r.letter)
      | some q => if p.1 < q.1 ∨ (p.1 = q.1 ∧ p.2 < q.2.1) then some (p.1, p.2, r.letter) else b
  else b
def letB (l : List RuleL) : Option (Int × Int × Bs) := l.foldl letF none
def letD (l : List RuleL) : Bs := match letB l with
  | none => []
  | some q => q.2.2
theorem letF_save {b : Option (Int × Int × Bs)} {r : RuleL} (h : r.save ≠ 0) : letF b r = b := if_neg h
theorem letF_none {b : Option (Int × Int × Bs)} {r : RuleL} (h : firstR r = none) : letF b r = b := by unfold letF; rw [h]; split <;> rfl
theorem letF_first {r : RuleL} (h0 : r.save = 0) {p : Int × Int} (h : firstR r = some p) : letF none r = some (p.1, p.2, r.letter) := by unfold letF; rw [if_pos h0, h]
theorem letF_less {q : Int × Int × Bs} {r : RuleL} (h0 : r.save = 0) {p : Int × Int} (h : firstR r = some p) (hl : p.1 < q.1 ∨ (p.1 = q.1 ∧ p.2 < q.2.1)) : letF (some q) r = some (p.1, p.2, r.letter) := by unfold letF; rw [if_pos h0, h]; exact if_pos hl
theorem letF_more {q : Int × Int × Bs} {r : RuleL} (h0 : r.save = 0) {p : Int × Int} (h : firstR r = some p) (hl : ¬ (p.1 < q.1 ∨ (p.1 = q.1 ∧ p.2 < q.2.1))) : letF (some q) r = some q := by unfold letF; rw [if_pos h0, h]; exact if_neg hl
theorem foldl_take {α β : Type} (f : β → α → β) (b : β) {l : List α} {n : Nat} {x : α} (h : l[n]? = some x) : (l.take (n + 1)).foldl f b = f ((l.take n).foldl f b) x := by
  rw [List.take_add_one, h, List.foldl_append]; rfl
/-- which rule the letter is of -/
def LetOf (l : List RuleL) (n : Nat) : Option (Int × Int × Bs) → Prop
  | none => ∀ (j : Nat) (r : RuleL), j < n → l[j]? = some r → r.save = 0 → firstR r = none
  | some q => ∃ (k : Nat) (r : RuleL), k < n ∧ l[k]? = some r ∧ r.save = 0 ∧ firstR r = some (q.1, q.2.1) ∧ q.2.2 = r.letter ∧
      ∀ (j : Nat) (r' : RuleL) (p : Int × Int), j < n → l[j]? = some r' → r'.save = 0 → firstR r' = some p → q.1 < p.1 ∨ (q.1 = p.1 ∧ (q.2.1 < p.2 ∨ (q.2.1 = p.2 ∧ k ≤ j)))
theorem let_of (l : List RuleL) : ∀ n : Nat, n ≤ l.length → LetOf l n ((l.take n).foldl letF none)
  | 0, _ => fun j r hj => by omega
  | n + 1, hn => by
    have ih := let_of l n (by omega)
    obtain ⟨x, hx⟩ : ∃ x, l[n]? = some x := ⟨l[n], List.getElem?_eq_getElem (by omega)⟩
    rw [foldl_take letF none hx]
    generalize (l.take n).foldl letF none = b at ih ⊢
    by_cases hs : x.save = 0
    · cases hf : firstR x with
      | none =>
        rw [letF_none hf]
        cases b with
        | none =>
          intro j r hj hr h0
          by_cases e : j = n
          · subst e; rw [hx] at hr; rw [← Option.some.inj hr]; exact hf
          · exact ih j r (by omega) hr h0
        | some q =>
          obtain ⟨k, r, hk, h1, h2, h3, h4, h5⟩ := ih
          refine ⟨k, r, by omega, h1, h2, h3, h4, fun j r' p hj hr h0 hp => ?_⟩
          by_cases e : j = n
          · subst e; rw [hx] at hr; rw [← Option.some.inj hr, hf] at hp; cases hp
          · exact h5 j r' p (by omega) hr h0 hp
      | some p0 =>
        cases b with
        | none =>
          rw [letF_first hs hf]
          refine ⟨n, x, by omega, hx, hs, hf, rfl, fun j r' p hj hr h0 hp => ?_⟩
          by_cases e : j = n
          · subst e
            rw [hx] at hr; rw [← Option.some.inj hr, hf] at hp
            cases hp
            exact .inr ⟨rfl, .inr ⟨rfl, Nat.le_refl _⟩⟩
          · have := ih j r' (by omega) hr h0
            rw [this] at hp; cases hp
        | some q =>
          obtain ⟨k, r, hk, h1, h2, h3, h4, h5⟩ := ih
          by_cases hl : p0.1 < q.1 ∨ (p0.1 = q.1 ∧ p0.2 < q.2.1)
          · rw [letF_less hs hf hl]
            refine ⟨n, x, by omega, hx, hs, hf, rfl, fun j r' p hj hr h0 hp => ?_⟩
            by_cases e : j = n
            · subst e
              rw [hx] at hr; rw [← Option.some.inj hr, hf] at hp
              cases hp
              exact .inr ⟨rfl, .inr ⟨rfl, Nat.le_refl _⟩⟩
            · have := h5 j r' p (by omega) hr h0 hp
              show p0.1 < p.1 ∨ (p0.1 = p.1 ∧ (p0.2 < p.2 ∨ (p0.2 = p.2 ∧ n ≤ j)))
              omega
          · rw [letF_more hs hf hl]
            refine ⟨k, r, by omega, h1, h2, h3, h4, fun j r' p hj hr h0 hp => ?_⟩
            by_cases e : j = n
            · subst e
              rw [hx] at hr; rw [← Option.some.inj hr, hf] at hp
              cases hp
              omega
            · exact h5 j r' p (by omega) hr h0 hp
    · rw [letF_save hs]
      cases b with
      | none =>
        intro j r hj hr h0
        by_cases e : j = n
        · subst e; rw [hx] at hr; rw [Option.some.inj hr] at hs; exact absurd h0 hs
        · exact ih j r (by omega) hr h0
      | some q =>
        obtain ⟨k, r, hk, h1, h2, h3, h4, h5⟩ := ih
        refine ⟨k, r, by omega, h1, h2, h3, h4, fun j r' p hj hr h0 hp => ?_⟩
        by_cases e : j = n
        · subst e; rw [hx] at hr; rw [Option.some.inj hr] at hs; exact absurd h0 hs
        · exact h5 j r' p (by omega) hr h0 hp
theorem letB_of (l : List RuleL) : LetOf l l.length (letB l) := by
  have := let_of l l.length (Nat.le_refl _)
  rwa [List.take_length] at this
/-- when a fire is -/
def instD (l : List RuleL) (f : FireL) (off : Int) : Int :=
  if 0 ≤ f.i then match l[f.i.toNat]? with
    | none => 0
    | some r => if r.at_.k = 0 then f.at_ - off - f.bef else if r.at_.k = 1 then f.at_ - off else f.at_
  else 0

theorem markF_mem (l : List RuleL) : ∀ (s : Int) (a : List FireL) (g : FireL), g ∈ markF l s a → ∃ f ∈ a, g.i = f.i ∧ g.y = f.y ∧ g.at_ = f.at_
  | _, [], g, h => absurd h (by simp [markF])
  | s, f :: a, g, h => by
    unfold markF at h
    rcases List.mem_cons.1 h with rfl | h
    · exact ⟨f, by simp, rfl, rfl, rfl⟩
    · obtain ⟨x, hx, h⟩ := markF_mem l _ a g h
      exact ⟨x, by simp [hx], h⟩
theorem from_year {l : List RuleL} {y : Int} (h : 1 ≤ y ∧ y ≤ 9999) : fromD l y y = markF l (befY l y) (yearD l y) := by
  unfold fromD
  rw [show max y 1 = y by omega, show (min y 9999 + 1 - y).toNat = 1 by omega]
  show [] ++ markF l (befY l (y + (0 : Nat))) (yearD l (y + (0 : Nat))) = _
  rw [show y + ((0 : Nat) : Int) = y by omega]
  rfl
end Go.Xpd
/- what clocks do; no program -/
namespace Go.Den
open Go.Lin Go.Xpd

/-- the year of a day -/
def yearOf (n : Int) : Int := (n + 719528) / 146097 * 400 + (if (n + 719528) % 146097 < Go.Civil.toY ((n + 719528) % 146097 / 365) then (n + 719528) % 146097 / 365 - 1 else (n + 719528) % 146097 / 365)
theorem yearOf_in (n : Int) : Go.Civil.begD (yearOf n) ≤ n ∧ n < Go.Civil.begD (yearOf n + 1) := by
  unfold yearOf
  obtain ⟨q, hq⟩ : ∃ q, (n + 719528) / 146097 = q := ⟨_, rfl⟩
  obtain ⟨a, ha⟩ : ∃ a, (n + 719528) % 146097 = a := ⟨_, rfl⟩
  have hd : 0 ≤ a ∧ a < 146097 := by omega
  rw [ha, hq]
  obtain ⟨r, hr⟩ : ∃ r, r = if a < Go.Civil.toY (a / 365) then a / 365 - 1 else a / 365 := ⟨_, rfl⟩
  rw [← hr]
  have hy := Go.Civil.era_year hd hr
  have e1 := Go.Civil.begD_era q r ⟨hy.1, hy.2.1⟩
  have e2 := Go.Civil.begD_era_next q r ⟨hy.1, hy.2.1⟩
  omega
theorem yearOf_one {n y : Int} (h1 : Go.Civil.begD y ≤ n) (h2 : n < Go.Civil.begD (y + 1)) : yearOf n = y :=
  Go.Civil.begD_one (yearOf_in n).1 (yearOf_in n).2 h1 h2
/-- the year of an instant in reach -/
def reachY (t : Int) : Option Int := if -9998 ≤ yearOf (t / 86400) ∧ yearOf (t / 86400) ≤ 9998 then some (yearOf (t / 86400)) else none
theorem reach_some {t y : Int} (h : reachY t = some y) : -9998 ≤ y ∧ y ≤ 9998 ∧ Go.Civil.begD y ≤ t / 86400 ∧ t / 86400 < Go.Civil.begD (y + 1) := by
  unfold reachY at h
  split at h
  · have h := Option.some.inj h
    subst h
    have := yearOf_in (t / 86400)
    omega
  · cases h
theorem reach_in {t y : Int} (h : -9998 ≤ y ∧ y ≤ 9998) (h1 : Go.Civil.begD y ≤ t / 86400) (h2 : t / 86400 < Go.Civil.begD (y + 1)) : reachY t = some y := by
  unfold reachY
  rw [yearOf_one h1 h2, if_pos h]
theorem reach_none {t y : Int} (h : ¬ (-9998 ≤ y ∧ y ≤ 9998)) (h1 : Go.Civil.begD y ≤ t / 86400) (h2 : t / 86400 < Go.Civil.begD (y + 1)) : reachY t = none := by
  unfold reachY
  rw [yearOf_one h1 h2, if_neg h]
theorem reach_far {t : Int} (h : t / 86400 < -4371587 ∨ 2932897 ≤ t / 86400) : reachY t = none := by
  have hy := yearOf_in (t / 86400)
  refine reach_none (fun hr => ?_) hy.1 hy.2
  have h1 := Go.Civil.begD_range (y := yearOf (t / 86400)) (by omega)
  have h2 := Go.Civil.begD_range (y := yearOf (t / 86400) + 1) (by omega)
  omega
theorem reach_secs {t y : Int} (h : reachY t = some y) : -400000000000 ≤ t ∧ t ≤ 400000000000 := by
  obtain ⟨h1, h2, h3, h4⟩ := reach_some h
  have g1 := Go.Civil.begD_range (y := y) (by omega)
  have g2 := Go.Civil.begD_range (y := y + 1) (by omega)
  omega

/-- the last fire of a list that isn't above an instant -/
def lastIn (l : List RuleL) (off t : Int) : List FireL → Option FireL
  | [] => none
  | f :: r => match lastIn l off t r with
    | some g => some g
    | none => if instD l f off ≤ t then some f else none
theorem lastIn_none {l : List RuleL} {off t : Int} : ∀ {F : List FireL}, lastIn l off t F = none ↔ ∀ f ∈ F, t < instD l f off
  | [] => by simp [lastIn]
  | f :: r => by
    unfold lastIn
    cases h : lastIn l off t r with
    | some g =>
      constructor
      · intro h; cases h
      · intro hc
        have := lastIn_none (F := r).2 (fun x hx => hc x (by simp [hx]))
        rw [h] at this; cases this
    | none =>
      have ih := lastIn_none.1 h
      dsimp only
      by_cases hf : instD l f off ≤ t
      · rw [if_pos hf]
        constructor
        · intro h; cases h
        · intro hc; have := hc f (by simp); omega
      · rw [if_neg hf]
        refine ⟨fun _ x hx => ?_, fun _ => rfl⟩
        rcases List.mem_cons.1 hx with rfl | hx
        · omega
        · exact ih x hx
theorem lastIn_app (l : List RuleL) (off t : Int) : ∀ (a : List FireL) (f : FireL), lastIn l off t (a ++ [f]) = if instD l f off ≤ t then some f else lastIn l off t a
  | [], f => rfl
  | x :: a, f => by
    show (match lastIn l off t (a ++ [f]) with | some g => some g | none => if instD l x off ≤ t then some x else none) = _
    rw [lastIn_app l off t a f]
    by_cases hf : instD l f off ≤ t
    · rw [if_pos hf, if_pos hf]
    · rw [if_neg hf, if_neg hf]; rfl
/-- the last fire of n years, from a year downwards -/
def findY (l : List RuleL) (off t : Int) (x : Int) : Nat → Option FireL
  | 0 => none
  | n + 1 => match lastIn l off t (fromD l x x) with
    | some f => some f
    | none => findY l off t (x - 1) n
theorem findY_some {l : List RuleL} {off t x : Int} {n : Nat} {f : FireL} (h : lastIn l off t (fromD l x x) = some f) : findY l off t x (n + 1) = some f := by unfold findY; rw [h]
theorem findY_none {l : List RuleL} {off t x : Int} {n : Nat} (h : lastIn l off t (fromD l x x) = none) : findY l off t x (n + 1) = findY l off t (x - 1) n := by
  show (match lastIn l off t (fromD l x x) with | some f => some f | none => findY l off t (x - 1) n) = _
  rw [h]
theorem findY_skip {l : List RuleL} {off t : Int} : ∀ (a : Nat) {x : Int} {b : Nat}, (∀ y, x - a < y → y ≤ x → lastIn l off t (fromD l y y) = none) → findY l off t x (a + b) = findY l off t (x - a) b
  | 0, x, b, _ => by rw [Nat.zero_add]; show _ = findY l off t (x - (0 : Nat)) b; rw [show x - ((0 : Nat) : Int) = x by omega]
  | a + 1, x, b, h => by
    rw [show a + 1 + b = (a + b) + 1 by omega, findY_none (h x (by omega) (by omega)), findY_skip a (fun y h1 h2 => h y (by omega) (by omega)), show x - 1 - (a : Int) = x - ((a + 1 : Nat) : Int) by omega]
theorem findY_nil {l : List RuleL} {off t : Int} : ∀ {n : Nat} {x : Int}, (∀ y, x - n < y → y ≤ x → lastIn l off t (fromD l y y) = none) → findY l off t x n = none
  | 0, _, _ => rfl
  | n + 1, x, h => by
    rw [findY_none (h x (by omega) (by omega))]
    exact findY_nil fun y h1 h2 => h y (by omega) (by omega)
theorem findY_cut {l : List RuleL} {off t : Int} : ∀ {a : Nat} {x : Int} {b : Nat}, (∀ y, x - a - b < y → y ≤ x - a → lastIn l off t (fromD l y y) = none) → findY l off t x (a + b) = findY l off t x a
  | 0, x, b, h => by
    rw [Nat.zero_add]
    exact findY_nil fun y h1 h2 => h y (by omega) (by omega)
  | a + 1, x, b, h => by
    rw [show a + 1 + b = (a + b) + 1 by omega]
    cases hl : lastIn l off t (fromD l x x) with
    | some f => rw [findY_some hl, findY_some hl]
    | none =>
      rw [findY_none hl, findY_none hl]
      exact findY_cut fun y h1 h2 => h y (by omega) (by omega)
/-- the last fire of all that isn't above an instant -/
def findA (l : List RuleL) (off t : Int) : Option FireL := findY l off t 9999 9999
/-- any stretch of years outside of which nothing fires that counts -/
theorem find_any {l : List RuleL} {off t hi lo : Int} (h1 : 1 ≤ lo) (h2 : hi ≤ 9999) (hup : ∀ y, hi < y → y ≤ 9999 → lastIn l off t (fromD l y y) = none) (hlo : ∀ y, y < lo → lastIn l off t (fromD l y y) = none) :
    findY l off t hi (hi + 1 - lo).toNat = findA l off t := by
  unfold findA
  by_cases h3 : lo ≤ hi + 1
  · by_cases h4 : 1 ≤ hi
    · obtain ⟨a, ha⟩ : ∃ a : Nat, (a : Int) = 9999 - hi := ⟨(9999 - hi).toNat, by omega⟩
      obtain ⟨b, hb⟩ : ∃ b : Nat, (b : Int) = hi + 1 - lo := ⟨(hi + 1 - lo).toNat, by omega⟩
      obtain ⟨c, hc⟩ : ∃ c : Nat, (c : Int) = lo - 1 := ⟨(lo - 1).toNat, by omega⟩
      rw [show (hi + 1 - lo).toNat = b by omega, show (9999 : Nat) = a + (b + c) by omega, findY_skip a (fun y g1 g2 => hup y (by omega) (by omega)), show (9999 : Int) - a = hi by omega]
      exact (findY_cut fun y g1 g2 => hlo y (by omega)).symm
    · rw [show (hi + 1 - lo).toNat = 0 by omega]
      exact (findY_nil fun y g1 g2 => hup y (by omega) g2).symm
  · rw [show (hi + 1 - lo).toNat = 0 by omega]
    refine (findY_nil fun y g1 g2 => ?_).symm
    by_cases h5 : y < lo
    · exact hlo y h5
    · exact hup y (by omega) g2
/-- rules whose times are of some weeks -/
structure OkS (l : List RuleL) : Prop where
  s : ∀ r ∈ l, -700000 ≤ r.at_.s ∧ r.at_.s ≤ 700000
  v : ∀ r ∈ l, -100000 ≤ r.save ∧ r.save ≤ 100000
theorem OkS.sav {l : List RuleL} (h : OkS l) (i : Int) : -100000 ≤ savD l i ∧ savD l i ≤ 100000 := by
  unfold savD
  cases hr : l[i.toNat]? with
  | none => dsimp only; omega
  | some r => exact h.v r (List.mem_of_getElem? hr)
theorem OkS.last {l : List RuleL} (h : OkS l) : ∀ n : Nat, -100000 ≤ lastS l n ∧ lastS l n ≤ 100000
  | 0 => by show -100000 ≤ (0 : Int) ∧ (0 : Int) ≤ 100000; omega
  | n + 1 => by
    show -100000 ≤ (match (yearD l (n + 1)).getLast? with | none => lastS l n | some f => savD l f.i) ∧ _ ≤ (100000 : Int)
    cases hg : (yearD l (n + 1)).getLast? with
    | none => have := h.last n; rw [lastS_none (List.getLast?_eq_none_iff.1 hg)]; exact this
    | some f => rw [lastS_some hg]; exact h.sav _
theorem mark_bef {l : List RuleL} (h : OkS l) : ∀ {s : Int} {F : List FireL}, -100000 ≤ s ∧ s ≤ 100000 → ∀ f ∈ markF l s F, -100000 ≤ f.bef ∧ f.bef ≤ 100000
  | _, [], _, f, hf => absurd hf (by simp [markF])
  | s, x :: F, hs, f, hf => by
    unfold markF at hf
    rcases List.mem_cons.1 hf with rfl | hf
    · exact hs
    · exact mark_bef h (h.sav _) f hf
/-- what is known of a fire of a year -/
theorem fire_of {l : List RuleL} (h : OkS l) {y : Int} {f : FireL} (hf : f ∈ fromD l y y) : 1 ≤ y ∧ y ≤ 9999 ∧ f.y = y ∧ (∃ (k : Nat) (r : RuleL), l[k]? = some r ∧ f.i = k ∧ atR r y = some f.at_) ∧ -100000 ≤ f.bef ∧ f.bef ≤ 100000 := by
  have hy : 1 ≤ y ∧ y ≤ 9999 := by
    by_cases hy : 1 ≤ y ∧ y ≤ 9999
    · exact hy
    · exfalso
      unfold fromD at hf
      have : (min y 9999 + 1 - max y 1).toNat = 0 ∨ (y < 1 ∧ (min y 9999 + 1 - max y 1).toNat = 0) := by omega
      rw [show (min y 9999 + 1 - max y 1).toNat = 0 by omega] at hf
      cases hf
  rw [from_year hy] at hf
  have hb := mark_bef h (h.last (min (y - 1) 9999).toNat) f hf
  obtain ⟨g, hg, e1, e2, e3⟩ := markF_mem l _ _ f hf
  obtain ⟨k, r, g1, g2, g3⟩ := yearD_mem.1 hg
  have gy : g.y = y := by rw [g3]
  have gi : g.i = k := by rw [g3]
  exact ⟨hy.1, hy.2, by omega, ⟨k, r, g1, by omega, by rw [e3]; exact g2⟩, hb⟩
theorem inst_le {l : List RuleL} {f : FireL} {off : Int} {k : Nat} {r : RuleL} (hk : l[k]? = some r) (hi : f.i = k) : instD l f off = (if r.at_.k = 0 then f.at_ - off - f.bef else if r.at_.k = 1 then f.at_ - off else f.at_) := by
  unfold instD
  rw [if_pos (by omega), hi, Int.toNat_natCast, hk]
/-- fires of the year behind the next one are above an instant -/
theorem far_above {l : List RuleL} (h : OkS l) {off t y x : Int} (ho : -100000 ≤ off ∧ off ≤ 100000) (ht : t / 86400 < Go.Civil.begD (y + 1)) (hx : y + 2 ≤ x) : lastIn l off t (fromD l x x) = none := by
  rw [lastIn_none]
  intro f hf
  obtain ⟨hx1, hx2, -, ⟨k, r, hk, hi, ha⟩, hb⟩ := fire_of h hf
  obtain ⟨n, hn, e⟩ : ∃ n, numX r.on x r.month = some n ∧ f.at_ = n * 86400 + r.at_.s := at_num ha
  have hs := h.s r (List.mem_of_getElem? hk)
  have hm := Go.Civil.begD_far (y := y + 1) (z := x) (by omega)
  have hnx : Go.Civil.begD x - 6 ≤ n := by
    unfold numX at hn
    split at hn
    · rename_i hc
      have hr := Go.Civil.numD_in hc.2
      have hq := Go.Dfm.rightB_iff.1 hc.1
      unfold Go.Dfm.rightP at hq
      have hn := Option.some.inj hn
      split at hn
      · omega
      · split at hn <;> omega
    · cases hn
  rw [inst_le hk hi]
  split
  · omega
  · split <;> omega
/-- saving and letter of rules at an instant -/
def lettD (l : List RuleL) (i : Int) : Bs := match l[i.toNat]? with
  | none => []
  | some r => r.letter
def savA (l : List RuleL) (off t : Int) : Int × Bs := match reachY t with
  | none => (0, letD l)
  | some _ => match findA l off t with
    | none => (0, letD l)
    | some f => (savD l f.i, lettD l f.i)
theorem low_none {l : List RuleL} {off t x : Int} (h : x < (spanD l).1) : lastIn l off t (fromD l x x) = none := by
  have hy : yearD l x = [] := yearD_none fun r hr hl => by
    have := span_first r hr
    unfold lasts at hl; omega
  have : fromD l x x = [] := by
    by_cases hx : 1 ≤ x ∧ x ≤ 9999
    · rw [from_year hx, hy]; rfl
    · unfold fromD; rw [show (min x 9999 + 1 - max x 1).toNat = 0 by omega]; rfl
  rw [this]; rfl
theorem high_none {l : List RuleL} {off t x : Int} (he : (spanD l).2.2 = false) (h : (spanD l).2.1 < x) : lastIn l off t (fromD l x x) = none := by
  have : fromD l x x = [] := by
    by_cases hx : 1 ≤ x ∧ x ≤ 9999
    · rw [from_year hx, span_none he h]; rfl
    · unfold fromD; rw [show (min x 9999 + 1 - max x 1).toNat = 0 by omega]; rfl
  rw [this]; rfl
theorem zero_none {l : List RuleL} {off t x : Int} (h : x < 1) : lastIn l off t (fromD l x x) = none := by
  unfold fromD; rw [show (min x 9999 + 1 - max x 1).toNat = 0 by omega]; rfl
/-- what the reference looks through -/
def lowY (l : List RuleL) (y : Int) : Int := if (spanD l).2.2 = true then y else min y (spanD l).2.1
theorem find_ref {l : List RuleL} (h : OkS l) {off t y : Int} (ho : -100000 ≤ off ∧ off ≤ 100000) (ht : reachY t = some y) :
    findY l off t (min (lowY l y + 1) 9999) (min (lowY l y + 1) 9999 + 1 - max (spanD l).1 1).toNat = findA l off t := by
  obtain ⟨-, -, -, h4⟩ := reach_some ht
  refine find_any (by omega) (by omega) (fun x h1 h2 => ?_) (fun x h1 => ?_)
  · unfold lowY at h1
    cases he : (spanD l).2.2 with
    | true =>
      rw [if_pos he] at h1
      exact far_above h ho h4 (by omega)
    | false =>
      rw [if_neg (by rw [he]; decide)] at h1
      by_cases hx : y + 2 ≤ x
      · exact far_above h ho h4 hx
      · exact high_none he (by omega)
  · by_cases hx : x < 1
    · exact zero_none hx
    · exact low_none (by omega)
theorem find_nil (off t : Int) : findA [] off t = none := findY_nil fun y _ _ => by
  have : fromD [] y y = [] := by
    by_cases hx : 1 ≤ y ∧ y ≤ 9999
    · rw [from_year hx]; rfl
    · unfold fromD; rw [show (min y 9999 + 1 - max y 1).toNat = 0 by omega]; rfl
  rw [this]; rfl
/- zones -/
structure ZoneD where
  eras : List EraL
  rules : List (List RuleL)
deriving DecidableEq
/-- the clock of an until: its second, and whether it can be -/
def clockD (u : UntilL) : Int × Bool := match numX u.on u.year u.month with
  | none => (u.at_.s, false)
  | some n => (n * 86400 + u.at_.s, decide (1 ≤ u.year ∧ u.year ≤ 9999))
/-- an era's saving -/
def eraS (z : ZoneD) (i : Nat) (t : Int) : Int × Bs := match z.eras[i]? with
  | none => (0, [])
  | some e => if e.kind = 1 then (e.save, []) else if e.kind = 2 then savA ((z.rules[i]?).getD []) e.off t else (0, [])
def endD (z : ZoneD) (i : Nat) : Int := match z.eras[i]? with
  | none => 0
  | some e => if e.til.has = true ∧ (clockD e.til).2 = true then
      (if e.til.at_.k = 0 then (clockD e.til).1 - e.off - (eraS z i ((clockD e.til).1 - e.off - 1)).1 else if e.til.at_.k = 1 then (clockD e.til).1 - e.off else (clockD e.til).1)
    else 0
def within (n m : Int) : Prop := -m ≤ n ∧ n ≤ m
instance (n m : Int) : Decidable (within n m) := by unfold within; infer_instance
def ruleOk (r : RuleL) : Prop := within r.save 86400 ∧ within r.at_.s 604799 ∧ 0 ≤ r.at_.k ∧ r.at_.k ≤ 2
instance (r : RuleL) : Decidable (ruleOk r) := by unfold ruleOk; infer_instance
def tilOk (u : UntilL) : Prop := u.has = true → ((clockD u).2 = true ∧ within u.at_.s 604799 ∧ 0 ≤ u.at_.k ∧ u.at_.k ≤ 2)
instance (u : UntilL) : Decidable (tilOk u) := by unfold tilOk; infer_instance
def eraOk (e : EraL) (l : List RuleL) : Prop := within e.off 86400 ∧ 0 ≤ e.kind ∧ e.kind ≤ 2 ∧ (e.kind = 1 → within e.save 86400) ∧ l.length ≤ 24 ∧ (∀ r ∈ l, ruleOk r) ∧ tilOk e.til
instance (e : EraL) (l : List RuleL) : Decidable (eraOk e l) := by unfold eraOk; infer_instance
/-- why a zone isn't right -/
def rightD (z : ZoneD) : Int :=
  if z.eras.length < 1 ∨ 8 < z.eras.length ∨ z.rules.length ≠ z.eras.length then 1
  else if ¬ ∀ p ∈ z.eras.zip z.rules, eraOk p.1 p.2 then 1
  else if ¬ ∀ i ∈ List.range z.eras.length, (z.eras[i]?).map (fun e => e.til.has) = some (decide (i + 1 < z.eras.length)) then 21
  else if ((List.range (z.eras.length - 2)).all fun i => decide (endD z i < endD z (i + 1))) = false then 14
  else 0
/-- the era at an instant: the first one whose end is above it, or the last -/
def eraAt (z : ZoneD) (t : Int) (i : Nat) : Nat → Nat
  | 0 => i
  | n + 1 => if endD z i ≤ t then eraAt z t (i + 1) n else i
structure StateD where
  era : Int
  save : Int
  letter : Bs
deriving DecidableEq
def atD (z : ZoneD) (t : Int) : StateD × Int :=
  if rightD z ≠ 0 then (⟨0, 0, []⟩, rightD z)
  else match reachY t with
    | none => (⟨0, 0, []⟩, 2)
    | some _ => (⟨(eraAt z t 0 (z.eras.length - 1) : Nat), (eraS z (eraAt z t 0 (z.eras.length - 1)) t).1, (eraS z (eraAt z t 0 (z.eras.length - 1)) t).2⟩, 0)
theorem eraAt_spec (z : ZoneD) (t : Int) : ∀ (n i : Nat), i ≤ eraAt z t i n ∧ eraAt z t i n ≤ i + n ∧ (eraAt z t i n < i + n → t < endD z (eraAt z t i n)) ∧ ∀ j, i ≤ j → j < eraAt z t i n → endD z j ≤ t
  | 0, i => ⟨Nat.le_refl _, Nat.le_refl _, fun h => absurd h (Nat.lt_irrefl _), fun j h1 h2 => by
      have h2 : j < i := h2
      omega⟩
  | n + 1, i => by
    unfold eraAt
    by_cases h : endD z i ≤ t
    · rw [if_pos h]
      obtain ⟨h1, h2, h3, h4⟩ := eraAt_spec z t n (i + 1)
      refine ⟨by omega, by omega, fun hh => h3 (by omega), fun j g1 g2 => ?_⟩
      by_cases e : j = i
      · rw [e]; exact h
      · exact h4 j (by omega) g2
    · rw [if_neg h]
      exact ⟨Nat.le_refl _, by omega, fun _ => by omega, fun j g1 g2 => by omega⟩
end Go.Den
