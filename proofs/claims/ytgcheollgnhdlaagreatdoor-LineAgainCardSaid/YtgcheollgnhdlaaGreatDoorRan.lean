import Derived.Test.YtgcheollgnhdlaaGreatDoorTe3
namespace Go.Proofs.YtgcheollgnhdlaaGreatDoor
open Go.RowKit Go.Mem Go.Lin

/-- a world behind w0, in which the listed variables stand as there; b: the reader's block, made behind w0; g: the fields' -/
structure Ok (w0 w : World) (b g : Nat) : Prop where
  lok : LOk w0
  fr : Fr w0 w (fun _ => False)
  hb : w0.heap.size ≤ b
  hg : g ≠ b
theorem Ok.on {w0 w W : World} {b g : Nat} (h : Ok w0 w b g) (hf : Fr w W (· = b)) : Ok w0 W b g := ⟨h.lok, h.fr.fresh hf (fun i e => by have := h.hb; have e : i = b := e; omega), h.hb, h.hg⟩
theorem Ok.at_ {w0 w W : World} {b g : Nat} (h : Ok w0 w b g) (hf : Fr w W (fun _ => False)) : LOk W := h.lok.fr (ff h.fr hf)
theorem fr_b {a c : World} {b : Nat} (h : Fr a c (fun _ => False)) : Fr a c (· = b) := h.mono (fun _ _ h => h.elim)
theorem fr_bb {a c d : World} {b : Nat} (h : Fr a c (· = b)) (h2 : Fr c d (· = b)) : Fr a d (· = b) := h.trans h2 (fun _ _ h => h) (fun _ _ h => h)
theorem gt_len {fs : List FPair} (hz : ∀ x ∈ fs, x.1.length ≤ 100000) (p : Nat) : (gt (fs.map (·.1)) p).length ≤ 100000 := by
  unfold gt
  rw [List.getD_eq_getElem?_getD, List.getElem?_map]
  cases h : fs[p]? with
  | none => simp
  | some x => exact hz x (List.mem_of_getElem? h)
/-- what a method of the reader answers: a value, with n fields gone by, or the panic with the wrong line -/
def Ran {α : Type} (fs : List FPair) (g b n : Nat) (r : Except Er α) (V : α → Value) (w : World) (e : Ending) (w' : World) : Prop := match r with
  | .ok v => e = .returned (V v) ∧ LeftAt w' b g (fs.drop n) ∧ Fr w w' (· = b)
  | .error x => e = Raised (wrongL x.2 (colOf fs x.1)) ∧ Fr w w' (· = b)
theorem timeC_any (l : Bs) (hl : l.length ≤ 1000000) (W : World) (t : AtL) (k : Int) (h : timeV l = (t, k)) : Calls Tryz.prog 71 #[strV l] W fun e w' => e = .returned (.tuple #[.agg (atC t), intV k]) ∧ Fr W w' (fun _ => False) := time_any l hl W t k h
theorem from_cases (l : Bs) : (∃ y, fromV l = (y, 0) ∧ fromP l = some y) ∨ (fromV l = (0, 8) ∧ fromP l = none) := by
  unfold fromV
  cases h : fromP l with
  | none => exact .inr ⟨rfl, rfl⟩
  | some y => exact .inl ⟨y, rfl, rfl⟩
theorem to_cases (l : Bs) (fr : Int) : (∃ y, toV l fr = (y, 0) ∧ toP l fr = some y) ∨ (toV l fr = (0, 8) ∧ toP l fr = none) := by
  unfold toV
  cases h : toP l fr with
  | none => exact .inr ⟨rfl, rfl⟩
  | some y => exact .inl ⟨y, rfl, rfl⟩
theorem time_cases (l : Bs) : (∃ y, timeV l = (y, 0) ∧ timeP l = some y) ∨ (timeV l = (atZ, 7) ∧ timeP l = none) := by
  unfold timeV
  cases h : timeP l with
  | none => exact .inr ⟨rfl, rfl⟩
  | some y => exact .inl ⟨y, rfl, rfl⟩
theorem amt_cases (l : Bs) : (∃ y, amtV l = (y, 0) ∧ Go.Clk.amtD l = some y) ∨ (amtV l = (0, 7) ∧ Go.Clk.amtD l = none) := by
  unfold amtV
  cases h : Go.Clk.amtD l with
  | none => exact .inr ⟨rfl, rfl⟩
  | some y => exact .inl ⟨y, rfl, rfl⟩
theorem letter_cases (l : Bs) : (∃ y, letterK l = (y, 0) ∧ letterP l = some y) ∨ (letterK l = (l, 15) ∧ letterP l = none) := by
  unfold letterK
  cases h : letterP l with
  | none => exact .inr ⟨rfl, rfl⟩
  | some y => exact .inl ⟨y, rfl, rfl⟩
theorem rules_cases (l : Bs) : (∃ y, rulesV l = (rulesE y, 0) ∧ rulesP l = some y) ∨ (rulesV l = (rulesE (1, 0, []), 5) ∧ rulesP l = none) := by
  unfold rulesV
  cases h : rulesP l with
  | none => exact .inr ⟨rfl, rfl⟩
  | some y => exact .inl ⟨y, rfl, rfl⟩
theorem month_cases (l : Bs) : (∃ n : Nat, Go.Kwd.monthD l = n ∧ (if n = 0 then (6 : Int) else 0) = 0 ∧ monthP l = some (n : Int)) ∨ (Go.Kwd.monthD l = 0 ∧ monthP l = none) := by
  unfold monthP
  by_cases h : Go.Kwd.monthD l = 0
  · exact .inr ⟨h, if_pos h⟩
  · exact .inl ⟨_, rfl, if_neg h, if_neg h⟩
/-- a day, and that it can be -/
theorem day_cases (l : Bs) (y m : Int) : (∃ d, dayK l y m = (d, 0) ∧ dayP l = some d ∧ canB d y m = true) ∨ (∃ d, dayK l y m = (d, 6) ∧ (dayP l = none ∨ (dayP l = some d ∧ canB d y m = false))) := by
  unfold dayK
  cases h : dayP l with
  | none => exact .inr ⟨_, rfl, .inl rfl⟩
  | some d =>
    cases hc : canB d y m with
    | true => exact .inl ⟨d, by simp [hc], rfl, hc⟩
    | false => exact .inr ⟨d, by simp [hc], .inr ⟨rfl, hc⟩⟩
theorem takeS_at (F : FuncId) (hF : ∀ args w, (callFunc F args).run Tryz.prog w = .ok (.enter F args) w) (caps args : Array Value) (w : World) (b g : Nat) (fs : List FPair) (p : Nat) (hp : p < fs.length) (h : LeftAt w b g (fs.drop p)) (ha : #[strV (gt (fs.map (·.1)) p)] ++ caps = args) (hbg : g ≠ b) (v : Bs)
    (hT : ∀ W, Fr w W (fun _ => False) → Calls Tryz.prog F args W fun e w' => e = .returned (.tuple #[(strV v), intV 0]) ∧ Fr W w' (fun _ => False)) :
    Calls Tryz.prog 46 #[.pointer (some ⟨b, 0, none⟩), .func (.func F) #[] caps] w fun e w' => e = .returned (strV v) ∧ LeftAt w' b g (fs.drop (p + 1)) ∧ Fr w w' (· = b) := by
  subst ha
  rw [gt_at fs p hp] at h
  exact takeS_ok F hF caps w b g _ _ h hbg v hT
theorem takeS_err (F : FuncId) (hF : ∀ args w, (callFunc F args).run Tryz.prog w = .ok (.enter F args) w) (caps args : Array Value) (w : World) (b g : Nat) (fs : List FPair) (p : Nat) (hp : p < fs.length) (h : LeftAt w b g (fs.drop p)) (ha : #[strV (gt (fs.map (·.1)) p)] ++ caps = args) (v : Bs) (k : Int) (hk : k ≠ 0)
    (hT : ∀ W, Fr w W (fun _ => False) → Calls Tryz.prog F args W fun e w' => e = .returned (.tuple #[(strV v), intV k]) ∧ Fr W w' (fun _ => False)) :
    Calls Tryz.prog 46 #[.pointer (some ⟨b, 0, none⟩), .func (.func F) #[] caps] w fun e w' => e = Raised (wrongL k (colOf fs p)) ∧ Fr w w' (fun _ => False) := by
  subst ha
  rw [gt_at fs p hp] at h
  exact takeS_no F hF caps w b g _ _ h v k hk hT
theorem takeI_at (F : FuncId) (hF : ∀ args w, (callFunc F args).run Tryz.prog w = .ok (.enter F args) w) (caps args : Array Value) (w : World) (b g : Nat) (fs : List FPair) (p : Nat) (hp : p < fs.length) (h : LeftAt w b g (fs.drop p)) (ha : #[strV (gt (fs.map (·.1)) p)] ++ caps = args) (hbg : g ≠ b) (v : Int)
    (hT : ∀ W, Fr w W (fun _ => False) → Calls Tryz.prog F args W fun e w' => e = .returned (.tuple #[(intV v), intV 0]) ∧ Fr W w' (fun _ => False)) :
    Calls Tryz.prog 62 #[.pointer (some ⟨b, 0, none⟩), .func (.func F) #[] caps] w fun e w' => e = .returned (intV v) ∧ LeftAt w' b g (fs.drop (p + 1)) ∧ Fr w w' (· = b) := by
  subst ha
  rw [gt_at fs p hp] at h
  exact takeI_ok F hF caps w b g _ _ h hbg v hT
theorem takeI_err (F : FuncId) (hF : ∀ args w, (callFunc F args).run Tryz.prog w = .ok (.enter F args) w) (caps args : Array Value) (w : World) (b g : Nat) (fs : List FPair) (p : Nat) (hp : p < fs.length) (h : LeftAt w b g (fs.drop p)) (ha : #[strV (gt (fs.map (·.1)) p)] ++ caps = args) (v : Int) (k : Int) (hk : k ≠ 0)
    (hT : ∀ W, Fr w W (fun _ => False) → Calls Tryz.prog F args W fun e w' => e = .returned (.tuple #[(intV v), intV k]) ∧ Fr W w' (fun _ => False)) :
    Calls Tryz.prog 62 #[.pointer (some ⟨b, 0, none⟩), .func (.func F) #[] caps] w fun e w' => e = Raised (wrongL k (colOf fs p)) ∧ Fr w w' (fun _ => False) := by
  subst ha
  rw [gt_at fs p hp] at h
  exact takeI_no F hF caps w b g _ _ h v k hk hT
theorem takeD_at (F : FuncId) (hF : ∀ args w, (callFunc F args).run Tryz.prog w = .ok (.enter F args) w) (caps args : Array Value) (w : World) (b g : Nat) (fs : List FPair) (p : Nat) (hp : p < fs.length) (h : LeftAt w b g (fs.drop p)) (ha : #[strV (gt (fs.map (·.1)) p)] ++ caps = args) (hbg : g ≠ b) (v : DayL)
    (hT : ∀ W, Fr w W (fun _ => False) → Calls Tryz.prog F args W fun e w' => e = .returned (.tuple #[(.agg (dayC v)), intV 0]) ∧ Fr W w' (fun _ => False)) :
    Calls Tryz.prog 68 #[.pointer (some ⟨b, 0, none⟩), .func (.func F) #[] caps] w fun e w' => e = .returned (.agg (dayC v)) ∧ LeftAt w' b g (fs.drop (p + 1)) ∧ Fr w w' (· = b) := by
  subst ha
  rw [gt_at fs p hp] at h
  exact takeD_ok F hF caps w b g _ _ h hbg v hT
theorem takeD_err (F : FuncId) (hF : ∀ args w, (callFunc F args).run Tryz.prog w = .ok (.enter F args) w) (caps args : Array Value) (w : World) (b g : Nat) (fs : List FPair) (p : Nat) (hp : p < fs.length) (h : LeftAt w b g (fs.drop p)) (ha : #[strV (gt (fs.map (·.1)) p)] ++ caps = args) (v : DayL) (k : Int) (hk : k ≠ 0)
    (hT : ∀ W, Fr w W (fun _ => False) → Calls Tryz.prog F args W fun e w' => e = .returned (.tuple #[(.agg (dayC v)), intV k]) ∧ Fr W w' (fun _ => False)) :
    Calls Tryz.prog 68 #[.pointer (some ⟨b, 0, none⟩), .func (.func F) #[] caps] w fun e w' => e = Raised (wrongL k (colOf fs p)) ∧ Fr w w' (fun _ => False) := by
  subst ha
  rw [gt_at fs p hp] at h
  exact takeD_no F hF caps w b g _ _ h v k hk hT
theorem takeA_at (F : FuncId) (hF : ∀ args w, (callFunc F args).run Tryz.prog w = .ok (.enter F args) w) (caps args : Array Value) (w : World) (b g : Nat) (fs : List FPair) (p : Nat) (hp : p < fs.length) (h : LeftAt w b g (fs.drop p)) (ha : #[strV (gt (fs.map (·.1)) p)] ++ caps = args) (hbg : g ≠ b) (v : AtL)
    (hT : ∀ W, Fr w W (fun _ => False) → Calls Tryz.prog F args W fun e w' => e = .returned (.tuple #[(.agg (atC v)), intV 0]) ∧ Fr W w' (fun _ => False)) :
    Calls Tryz.prog 70 #[.pointer (some ⟨b, 0, none⟩), .func (.func F) #[] caps] w fun e w' => e = .returned (.agg (atC v)) ∧ LeftAt w' b g (fs.drop (p + 1)) ∧ Fr w w' (· = b) := by
  subst ha
  rw [gt_at fs p hp] at h
  exact takeA_ok F hF caps w b g _ _ h hbg v hT
theorem takeA_err (F : FuncId) (hF : ∀ args w, (callFunc F args).run Tryz.prog w = .ok (.enter F args) w) (caps args : Array Value) (w : World) (b g : Nat) (fs : List FPair) (p : Nat) (hp : p < fs.length) (h : LeftAt w b g (fs.drop p)) (ha : #[strV (gt (fs.map (·.1)) p)] ++ caps = args) (v : AtL) (k : Int) (hk : k ≠ 0)
    (hT : ∀ W, Fr w W (fun _ => False) → Calls Tryz.prog F args W fun e w' => e = .returned (.tuple #[(.agg (atC v)), intV k]) ∧ Fr W w' (fun _ => False)) :
    Calls Tryz.prog 70 #[.pointer (some ⟨b, 0, none⟩), .func (.func F) #[] caps] w fun e w' => e = Raised (wrongL k (colOf fs p)) ∧ Fr w w' (fun _ => False) := by
  subst ha
  rw [gt_at fs p hp] at h
  exact takeA_no F hF caps w b g _ _ h v k hk hT
theorem takeE_at (F : FuncId) (hF : ∀ args w, (callFunc F args).run Tryz.prog w = .ok (.enter F args) w) (caps args : Array Value) (w : World) (b g : Nat) (fs : List FPair) (p : Nat) (hp : p < fs.length) (h : LeftAt w b g (fs.drop p)) (ha : #[strV (gt (fs.map (·.1)) p)] ++ caps = args) (hbg : g ≠ b) (v : EraL)
    (hT : ∀ W, Fr w W (fun _ => False) → Calls Tryz.prog F args W fun e w' => e = .returned (.tuple #[(.agg (eraC v)), intV 0]) ∧ Fr W w' (fun _ => False)) :
    Calls Tryz.prog 76 #[.pointer (some ⟨b, 0, none⟩), .func (.func F) #[] caps] w fun e w' => e = .returned (.agg (eraC v)) ∧ LeftAt w' b g (fs.drop (p + 1)) ∧ Fr w w' (· = b) := by
  subst ha
  rw [gt_at fs p hp] at h
  exact takeE_ok F hF caps w b g _ _ h hbg v hT
theorem takeE_err (F : FuncId) (hF : ∀ args w, (callFunc F args).run Tryz.prog w = .ok (.enter F args) w) (caps args : Array Value) (w : World) (b g : Nat) (fs : List FPair) (p : Nat) (hp : p < fs.length) (h : LeftAt w b g (fs.drop p)) (ha : #[strV (gt (fs.map (·.1)) p)] ++ caps = args) (v : EraL) (k : Int) (hk : k ≠ 0)
    (hT : ∀ W, Fr w W (fun _ => False) → Calls Tryz.prog F args W fun e w' => e = .returned (.tuple #[(.agg (eraC v)), intV k]) ∧ Fr W w' (fun _ => False)) :
    Calls Tryz.prog 76 #[.pointer (some ⟨b, 0, none⟩), .func (.func F) #[] caps] w fun e w' => e = Raised (wrongL k (colOf fs p)) ∧ Fr w w' (fun _ => False) := by
  subst ha
  rw [gt_at fs p hp] at h
  exact takeE_no F hF caps w b g _ _ h v k hk hT
end Go.Proofs.YtgcheollgnhdlaaGreatDoor
