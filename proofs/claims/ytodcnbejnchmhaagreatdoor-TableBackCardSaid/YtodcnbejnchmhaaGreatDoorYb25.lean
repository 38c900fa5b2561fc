import Derived.Test.YtodcnbejnchmhaaGreatDoorYb19
import Derived.Test.YtodcnbejnchmhaaGreatDoorYb24
import Derived.Test.YtodcnbejnchmhaaGreatDoorYb20
import Derived.Deep.LoopGhost
namespace Go.Proofs.YtodcnbejnchmhaaGreatDoor
open Go.RowKit Go.Mem Go.Lin

/- the packages that line stands on, in its own words -/
def amtV (l : Bs) : Int × Int := match Go.Clk.amtD l with
  | some n => (n, 0)
  | none => (0, 7)
theorem amount_any (l : Bs) (hl : l.length ≤ 1000000) (W : World) (n k : Int) (h : amtV l = (n, k)) : Calls Tryz.prog 170 #[strV l] W fun e w' => e = .returned (.tuple #[intV n, intV k]) ∧ Fr W w' (fun _ => False) := by
  refine (S5.Amount_any l W hl).mono ?_
  rintro e w' ⟨hf, he⟩
  unfold amtV at h
  cases hx : Go.Clk.amtD l with
  | none =>
    rw [hx] at he h
    obtain ⟨rfl, rfl⟩ := Prod.mk.inj h
    exact ⟨he, hf⟩
  | some v =>
    rw [hx] at he h
    obtain ⟨rfl, rfl⟩ := Prod.mk.inj h
    exact ⟨he, hf⟩
def timeV (l : Bs) : AtL × Int := match timeP l with
  | some t => (t, 0)
  | none => (atZ, 7)
theorem time_any (l : Bs) (hl : l.length ≤ 1000000) (W : World) (t : AtL) (k : Int) (h : timeV l = (t, k)) : Calls Tryz.prog 169 #[strV l] W fun e w' => e = .returned (.tuple #[atV t, intV k]) ∧ Fr W w' (fun _ => False) := by
  refine (S5.Parse_any l W hl).mono ?_
  rintro e w' ⟨hf, he⟩
  unfold timeV timeP at h
  cases hx : Go.Clk.parseD l with
  | none =>
    rw [hx] at he h
    obtain ⟨rfl, rfl⟩ := Prod.mk.inj h
    exact ⟨he, hf⟩
  | some v =>
    rw [hx] at he h
    obtain ⟨rfl, rfl⟩ := Prod.mk.inj h
    exact ⟨he, hf⟩
def dayW (l : Bs) : DayL × Int := match dayP l with
  | some d => (d, 0)
  | none => (dayZ, 6)
theorem day_any (l : Bs) (hl : l.length ≤ 100000) (W : World) (hw : LOk W) (d : DayL) (k : Int) (h : dayW l = (d, k)) : Calls Tryz.prog 190 #[strV l] W fun e w' => e = .returned (.tuple #[dayV d, intV k]) ∧ Fr W w' (fun _ => False) := by
  unfold dayW dayP at h
  rcases Go.Dfm.parse_cases l with ⟨a, b, c, -, -, hp⟩ | ⟨-, hp⟩
  · rw [hp] at h
    obtain ⟨rfl, rfl⟩ := Prod.mk.inj h
    exact S6.Parse_any l hl W hw.base _ _ _ _ hp
  · rw [hp] at h
    obtain ⟨rfl, rfl⟩ := Prod.mk.inj h
    exact S6.Parse_any l hl W hw.base _ _ _ _ hp
theorem of_can (d : DayL) (hd : dayOk d) (y m : Int) (W : World) (hw : LOk W) : ∃ n k : Int, (k = 0 ↔ canB d y m = true) ∧ (k = 0 ∨ (n = 0 ∧ k = 6)) ∧ Calls Tryz.prog 191 #[dayV d, intV y, intV m] W fun e w' => e = .returned (.tuple #[intV n, intV k]) ∧ Fr W w' (fun _ => False) := by
  have hr : Go.Dfm.rightB d.k d.d d.w = true := Go.Dfm.rightB_iff.2 hd
  have hE : S6.daysE y m (S6.dayOf d.k d.d y m) = if canB d y m = true then 0 else 6 := rfl
  obtain ⟨n, k, h⟩ : ∃ n k, S6.ofD d.k d.d d.w y m = (n, k) := ⟨_, _, rfl⟩
  refine ⟨n, k, ?_, ?_, S6.Of_any d.k d.d d.w y m W hw.base n k h⟩
  · unfold S6.ofD at h
    rw [if_pos hr, hE] at h
    cases hc : canB d y m with
    | true =>
      rw [hc, if_pos rfl, if_pos rfl] at h
      obtain ⟨-, rfl⟩ := Prod.mk.inj h
      simp
    | false =>
      rw [hc, if_neg (by decide)] at h
      obtain ⟨-, rfl⟩ := Prod.mk.inj h
      simp
  · unfold S6.ofD at h
    rw [if_pos hr, hE] at h
    cases hc : canB d y m with
    | true =>
      rw [hc, if_pos rfl, if_pos rfl] at h
      obtain ⟨-, rfl⟩ := Prod.mk.inj h
      exact .inl rfl
    | false =>
      rw [hc, if_neg (by decide)] at h
      obtain ⟨rfl, rfl⟩ := Prod.mk.inj h
      exact .inr ⟨rfl, rfl⟩
def fromV (l : Bs) : Int × Int := match fromP l with
  | some y => (y, 0)
  | none => (0, 8)
theorem from_any (l : Bs) (hl : l.length ≤ 100000) (W : World) (hw : LOk W) (y k : Int) (h : fromV l = (y, k)) : Calls Tryz.prog 161 #[strV l] W fun e w' => e = .returned (.tuple #[intV y, intV k]) ∧ Fr W w' (fun _ => False) := by
  refine S8.From_any l W (by omega) hw.kwd (y, k) ?_
  rw [← h]
  unfold fromV fromP
  rcases Go.Kwd.year_kind (Go.Esc.parsed l) with hk | hk
  · rw [if_pos hk, ← hk]
  · rw [hk, if_neg (by decide)]
def toV (l : Bs) (fr : Int) : Int × Int := match toP l fr with
  | some y => (y, 0)
  | none => (0, 8)
theorem to_any (l : Bs) (fr : Int) (hl : l.length ≤ 100000) (W : World) (hw : LOk W) (y k : Int) (h : toV l fr = (y, k)) : Calls Tryz.prog 163 #[strV l, intV fr] W fun e w' => e = .returned (.tuple #[intV y, intV k]) ∧ Fr W w' (fun _ => False) := by
  refine S8.To_any l fr W (by omega) hw.kwd (y, k) ?_
  rw [← h]
  unfold toV toP
  show toD l fr = _
  rcases Go.Kwd.last_kind (Go.Kwd.endD l) (Go.Esc.parsed l) fr with hk | hk
  · have hk : (toD l fr).2 = 0 := hk
    rw [if_pos hk, ← hk]
  · have hk : toD l fr = (0, 8) := hk
    rw [hk, if_neg (by decide)]
theorem month_any (l : Bs) (hl : l.length ≤ 1000000) (W : World) (n : Nat) (h : Go.Kwd.monthD l = n) : Calls Tryz.prog 188 #[strV l] W fun e w' => e = .returned (intV (n : Int)) ∧ Fr W w' (fun _ => False) := S8.Month_any l W hl n h
theorem head_any (l : Bs) (hl : l.length ≤ 1000000) (W : World) (n : Nat) (h : Go.Kwd.headD l = n) : Calls Tryz.prog 182 #[strV l] W fun e w' => e = .returned (intV (n : Int)) ∧ Fr W w' (fun _ => False) := S8.Head_any l W hl n h
theorem zone_any (l : Bs) (hl : l.length ≤ 1000000) (W : World) (hw : LOk W) (b : Bool) (h : Go.Kwd.zoneD l = b) : Calls Tryz.prog 173 #[strV l] W fun e w' => e = .returned (.bool b) ∧ Fr W w' (fun _ => False) := S8.Zone_any l W hl hw.kwd b h
theorem rule_any (l : Bs) (hl : l.length ≤ 1000000) (W : World) (b : Bool) (h : Go.Kwd.ruleD l = b) : Calls Tryz.prog 184 #[strV l] W fun e w' => e = .returned (.bool b) ∧ Fr W w' (fun _ => False) := S8.Rule_any l W hl b h
instance (t : AtL) : Decidable (timeOk t) := inferInstanceAs (Decidable (_ ∧ _))
instance (n : Int) : Decidable (amtOk n) := inferInstanceAs (Decidable (_ ∧ _))
instance (d : DayL) : Decidable (dayOk d) := inferInstanceAs (Decidable (Go.Dfm.rightP _ _ _))
end Go.Proofs.YtodcnbejnchmhaaGreatDoor
namespace Go.Proofs.YtodcnbejnchmhaaGreatDoor
open Go.RowKit Go.Mem Go.Lin

def cellsP (x : FPair) : List Value := [strV x.1, intV (x.2 : Int)]
/-- the reader in block b has these fields still to read; they lie in block g -/
def LeftAt (w : World) (b g : Nat) (fs : List FPair) : Prop :=
  ∃ A c, Blk w b 177 #[.slice A fs.length c] ∧ Rd w 2 A fs.length (fs.flatMap cellsP) ∧ fs.length ≤ c ∧ (∀ b' off, A = some ⟨b', off, none⟩ → 0 < fs.length → b' = g)
theorem LeftAt.fr {w w' : World} {b g : Nat} {fs : List FPair} {S : Nat → Prop} (h : LeftAt w b g fs) (hf : Fr w w' S) (hb : ¬ S b) (hg : ¬ S g) : LeftAt w' b g fs := by
  obtain ⟨A, c, h1, h2, h3, h4⟩ := h
  exact ⟨A, c, hf.blk h1 hb, h2.fr hf (fun b' off e hn hs => hg (h4 b' off e hn ▸ hs)), h3, h4⟩
theorem LeftAt.lt {w : World} {b g : Nat} {fs : List FPair} (h : LeftAt w b g fs) : b < w.heap.size := by
  obtain ⟨A, c, h1, h2, h3, h4⟩ := h
  exact h1.lt
theorem LeftAt.open {w : World} {b g : Nat} {x : FPair} {r : List FPair} (h : LeftAt w b g (x :: r)) :
    ∃ off c, Blk w b 177 #[.slice (some ⟨g, off, none⟩) (r.length + 1) c] ∧ r.length + 1 ≤ c ∧ w.cell? ⟨g, off, none⟩ = some (strV x.1) ∧ w.cell? ⟨g, off + 1, none⟩ = some (intV (x.2 : Int)) ∧
      ∀ (W : World) (S : Nat → Prop), Fr w W S → ¬ S g → Blk W b 177 #[.slice (Mem.cutA (some ⟨g, off, none⟩) c 1 2) r.length (c - 1)] → LeftAt W b g r := by
  obtain ⟨A, c, h1, h2, h3, h4⟩ := h
  obtain ⟨b', off, rfl, hc⟩ := h2.2 (by simp)
  obtain rfl := h4 b' off rfl (by simp)
  refine ⟨off, c, h1, by simpa using h3, hc 0 _ rfl, hc 1 _ rfl, fun W S hf hS hB => ?_⟩
  have hl : r.length + 1 ≤ c := by simpa using h3
  have hcut := h2.cutA (lo := 1) (hi := r.length + 1) (cap := c) (by omega) (by simp) (by simpa using h3)
  have hx : (((x :: r).flatMap cellsP).drop (1 * 2)).take ((r.length + 1 - 1) * 2) = r.flatMap cellsP := by
    rw [List.flatMap_cons]
    have hlen : ∀ l : List FPair, (l.flatMap cellsP).length = l.length * 2 := by
      intro l
      induction l with
      | nil => rfl
      | cons y l ih => rw [List.flatMap_cons, List.length_append, ih]; simp [cellsP]; omega
    show ((cellsP x ++ r.flatMap cellsP).drop 2).take _ = _
    rw [List.drop_append_of_le_length (by simp [cellsP])]
    show (([] : List Value) ++ r.flatMap cellsP).take _ = _
    rw [List.nil_append, List.take_of_length_le (by rw [hlen]; omega)]
  rw [hx, show r.length + 1 - 1 = r.length by omega] at hcut
  refine ⟨_, _, hB, hcut.fr hf (fun b2 o2 e hn hs => hS ?_), by omega, fun b2 o2 e hn => ?_⟩
  · unfold Mem.cutA at e
    rw [if_neg (by omega)] at e
    injection e with e
    simp [Addr.add] at e
    rw [← e.1] at hs
    exact hs
  · unfold Mem.cutA at e
    rw [if_neg (by omega)] at e
    injection e with e
    simp [Addr.add] at e
    exact e.1.symm
theorem fr_put0 {a c : World} (h : Fr a c (fun _ => False)) (b i : Nat) (v : Value) : Fr a (c.setCell ⟨b, i, none⟩ v) (· = b) := h.trans (Fr.set (S := (· = b)) rfl) (fun _ _ h => h.elim) (fun _ _ h => h)
/-- the panic with a wrong line -/
abbrev Raised (x : LineL) : Ending := .panicked [{ v := .iface 71 (lineV x), recovered := false }]
theorem fr_more {a b c : World} {S T : Nat → Prop} (h : Fr a b S) (k : Fr b c T) (hT : ∀ i, T i → a.heap.size ≤ i) : Fr a c S := h.trans k (fun _ _ x => x) (fun i hi x => absurd (hT i x) (by omega))
theorem res_fault {w : World} {g : Nat} {x : LineL} (hb : Blk w g 71 (lineC x)) (tmps : Array Value) (hp : tmps.getD 4 undef = .pointer (some ⟨g, 0, none⟩)) : (results Tryz.f67 tmps).run Tryz.prog w = .ok (.agg (lineC x)) w :=
  results_cell_row (P := Tryz.prog) (fn := Tryz.f67) (p := 4) (ty := 71) rfl tmps _ g 71 (lineC x) (0, 0) _ hp hb Tryz.underlying71 rfl (infoL x)
set_option maxRecDepth 100000 in
set_option maxHeartbeats 1600000 in
theorem fault_any (k c : Int) (w : World) : Calls Tryz.prog 67 #[intV k, intV c] w fun e w' => e = .returned (lineV (wrongL k c)) ∧ Fr w w' (fun _ => False) := by
  go_enter Tryz.func67, Tryz.ntmps67
  go_wp2_with (refine wpList_store_blk 71 _ _ w.heap.size 0 71 (lineC lineZ) (lineC (wrongL k c)) (lineC (wrongL k c)) (by rfl) rfl rfl rfl rfl (Blk.made w 71 (lineC lineZ)) (infoL _) (lineC_one _) (show 0 + 29 ≤ 29 by decide) (put_line _ _) ?_
               intro w3 hf3 hb3
               have HF3 := Lib.hid ((Fr.new w _ (fun _ => False)).fresh hf3 (fun i e => by omega))
               have HB3 := Lib.hid hb3
               clear hf3 hb3)
  (try simp only [Exit.inBlock, Exit.then])
  exact bodyPost_ret (res_fault HB3.out _ rfl) rfl ⟨rfl, HF3.out⟩
theorem blk_cell {w : World} {g : Nat} {t : TypeId} {cs : Array Value} (h : Blk w g t cs) (i : Nat) (v : Value) (hv : cs[i]? = some v) : w.cell? ⟨g, i, none⟩ = some v := (cell_at h i).trans hv
set_option maxRecDepth 100000 in
set_option maxHeartbeats 1600000 in
theorem takeI_ok (F : FuncId) (hF : ∀ args w, (callFunc F args).run Tryz.prog w = .ok (.enter F args) w) (caps : Array Value) (w : World) (b g : Nat) (x : FPair) (r : List FPair) (h : LeftAt w b g (x :: r)) (hbg : g ≠ b) (v : Int)
    (hT : ∀ W, Fr w W (fun _ => False) → Calls Tryz.prog F (#[strV x.1] ++ caps) W fun e w' => e = .returned (.tuple #[intV v, intV 0]) ∧ Fr W w' (fun _ => False)) :
    Calls Tryz.prog 160 #[.pointer (some ⟨b, 0, none⟩), .func (.func F) #[] caps] w fun e w' => e = .returned (intV v) ∧ LeftAt w' b g r ∧ Fr w w' (· = b) := by
  obtain ⟨off, c, hb, hc, c0, c1, hL⟩ := h.open
  have d0 := cell_at hb 0
  simp at d0
  have HT := Lib.hid hT
  have HL := Lib.hid hL
  have HB := Lib.hid hb
  clear hT hL hb h
  go_enter Tryz.func160, Tryz.ntmps160
  go_wp2_with fail
  refine (HT.out _ (Fr.new w _ _)).mono ?_
  rintro e w2 ⟨rfl, hf2⟩
  have HF2 := Lib.hid (ff (Fr.new w _ _) hf2)
  have HB2 := Lib.hid (HF2.out.blk HB.out (fun h => h))
  have d2 := cell_at HB2.out 0
  have f2 := free_at HB2.out 0
  simp at d2
  have l1 : (1 : Int) ≤ (r.length + 1 : Int) := by omega
  have l2 : (r.length + 1 : Int) ≤ (c : Int) := by omega
  clear hf2 HT
  go_wp2_with fail
  case inl =>
    subst h
    go_ret
    have hf3 := fr_put0 HF2.out b 0 (.slice (some ⟨g, off, none⟩) r.length 0)
    exact ⟨rfl, HL.out _ _ hf3 hbg (HB2.out.put' (cs' := #[.slice (some ⟨g, off, none⟩) r.length 0]) 0 _ (by simp)), hf3⟩
  case inr =>
    go_ret
    have hf3 := fr_put0 HF2.out b 0 (.slice (some ⟨g, off + 2, none⟩) r.length (c - 1))
    have hcut : Mem.cutA (some ⟨g, off, none⟩) c 1 2 = some ⟨g, off + 2, none⟩ := by
      unfold Mem.cutA
      rw [if_neg h]
      rfl
    rw [hcut] at HL
    exact ⟨rfl, HL.out _ _ hf3 hbg (HB2.out.put' (cs' := #[.slice (some ⟨g, off + 2, none⟩) r.length (c - 1)]) 0 _ (by simp)), hf3⟩
set_option maxRecDepth 100000 in
set_option maxHeartbeats 1600000 in
theorem takeI_no (F : FuncId) (hF : ∀ args w, (callFunc F args).run Tryz.prog w = .ok (.enter F args) w) (caps : Array Value) (w : World) (b g : Nat) (x : FPair) (r : List FPair) (h : LeftAt w b g (x :: r)) (v : Int) (k : Int) (hk : k ≠ 0)
    (hT : ∀ W, Fr w W (fun _ => False) → Calls Tryz.prog F (#[strV x.1] ++ caps) W fun e w' => e = .returned (.tuple #[intV v, intV k]) ∧ Fr W w' (fun _ => False)) :
    Calls Tryz.prog 160 #[.pointer (some ⟨b, 0, none⟩), .func (.func F) #[] caps] w fun e w' => e = Raised (wrongL k (x.2 : Int)) ∧ Fr w w' (fun _ => False) := by
  obtain ⟨off, c, hb, hc, c0, c1, hL⟩ := h.open
  have d0 := cell_at hb 0
  simp at d0
  have HT := Lib.hid hT
  have hk0 : (k == 0) = false := by simpa using hk
  clear hT hL hb h hk
  go_enter Tryz.func160, Tryz.ntmps160
  go_wp2_with fail
  refine (HT.out _ (Fr.new w _ _)).mono ?_
  rintro e w2 ⟨rfl, hf2⟩
  have HF2 := Lib.hid (ff (Fr.new w _ _) hf2)
  have e1 := blk_cell (hf2.blk (Blk.made w 172 #[strV x.1, intV (x.2 : Int)]) (fun h => h)) 1 _ rfl
  clear hf2 HT
  go_wp2_with fail
  refine (fault_any _ _ _).mono ?_
  rintro e w3 ⟨rfl, hf3⟩
  have HF3 := Lib.hid (ff HF2.out hf3)
  clear hf3
  go_wp2_with fail
  exact ⟨rfl, rfl, HF3.out⟩
set_option maxRecDepth 100000 in
set_option maxHeartbeats 1600000 in
theorem takeS_ok (F : FuncId) (hF : ∀ args w, (callFunc F args).run Tryz.prog w = .ok (.enter F args) w) (caps : Array Value) (w : World) (b g : Nat) (x : FPair) (r : List FPair) (h : LeftAt w b g (x :: r)) (hbg : g ≠ b) (v : Bs)
    (hT : ∀ W, Fr w W (fun _ => False) → Calls Tryz.prog F (#[strV x.1] ++ caps) W fun e w' => e = .returned (.tuple #[strV v, intV 0]) ∧ Fr W w' (fun _ => False)) :
    Calls Tryz.prog 142 #[.pointer (some ⟨b, 0, none⟩), .func (.func F) #[] caps] w fun e w' => e = .returned (strV v) ∧ LeftAt w' b g r ∧ Fr w w' (· = b) := by
  obtain ⟨off, c, hb, hc, c0, c1, hL⟩ := h.open
  have d0 := cell_at hb 0
  simp at d0
  have HT := Lib.hid hT
  have HL := Lib.hid hL
  have HB := Lib.hid hb
  clear hT hL hb h
  go_enter Tryz.func142, Tryz.ntmps142
  go_wp2_with fail
  refine (HT.out _ (Fr.new w _ _)).mono ?_
  rintro e w2 ⟨rfl, hf2⟩
  have HF2 := Lib.hid (ff (Fr.new w _ _) hf2)
  have HB2 := Lib.hid (HF2.out.blk HB.out (fun h => h))
  have d2 := cell_at HB2.out 0
  have f2 := free_at HB2.out 0
  simp at d2
  have l1 : (1 : Int) ≤ (r.length + 1 : Int) := by omega
  have l2 : (r.length + 1 : Int) ≤ (c : Int) := by omega
  clear hf2 HT
  go_wp2_with fail
  case inl =>
    subst h
    go_ret
    have hf3 := fr_put0 HF2.out b 0 (.slice (some ⟨g, off, none⟩) r.length 0)
    exact ⟨rfl, HL.out _ _ hf3 hbg (HB2.out.put' (cs' := #[.slice (some ⟨g, off, none⟩) r.length 0]) 0 _ (by simp)), hf3⟩
  case inr =>
    go_ret
    have hf3 := fr_put0 HF2.out b 0 (.slice (some ⟨g, off + 2, none⟩) r.length (c - 1))
    have hcut : Mem.cutA (some ⟨g, off, none⟩) c 1 2 = some ⟨g, off + 2, none⟩ := by
      unfold Mem.cutA
      rw [if_neg h]
      rfl
    rw [hcut] at HL
    exact ⟨rfl, HL.out _ _ hf3 hbg (HB2.out.put' (cs' := #[.slice (some ⟨g, off + 2, none⟩) r.length (c - 1)]) 0 _ (by simp)), hf3⟩
set_option maxRecDepth 100000 in
set_option maxHeartbeats 1600000 in
theorem takeS_no (F : FuncId) (hF : ∀ args w, (callFunc F args).run Tryz.prog w = .ok (.enter F args) w) (caps : Array Value) (w : World) (b g : Nat) (x : FPair) (r : List FPair) (h : LeftAt w b g (x :: r)) (v : Bs) (k : Int) (hk : k ≠ 0)
    (hT : ∀ W, Fr w W (fun _ => False) → Calls Tryz.prog F (#[strV x.1] ++ caps) W fun e w' => e = .returned (.tuple #[strV v, intV k]) ∧ Fr W w' (fun _ => False)) :
    Calls Tryz.prog 142 #[.pointer (some ⟨b, 0, none⟩), .func (.func F) #[] caps] w fun e w' => e = Raised (wrongL k (x.2 : Int)) ∧ Fr w w' (fun _ => False) := by
  obtain ⟨off, c, hb, hc, c0, c1, hL⟩ := h.open
  have d0 := cell_at hb 0
  simp at d0
  have HT := Lib.hid hT
  have hk0 : (k == 0) = false := by simpa using hk
  clear hT hL hb h hk
  go_enter Tryz.func142, Tryz.ntmps142
  go_wp2_with fail
  refine (HT.out _ (Fr.new w _ _)).mono ?_
  rintro e w2 ⟨rfl, hf2⟩
  have HF2 := Lib.hid (ff (Fr.new w _ _) hf2)
  have e1 := blk_cell (hf2.blk (Blk.made w 172 #[strV x.1, intV (x.2 : Int)]) (fun h => h)) 1 _ rfl
  clear hf2 HT
  go_wp2_with fail
  refine (fault_any _ _ _).mono ?_
  rintro e w3 ⟨rfl, hf3⟩
  have HF3 := Lib.hid (ff HF2.out hf3)
  clear hf3
  go_wp2_with fail
  exact ⟨rfl, rfl, HF3.out⟩
theorem res_takeD {w : World} {q : Nat} {v : DayL} (hb : Blk w q 61 (dayC v)) (tmps : Array Value) (hp : tmps.getD 4 undef = .pointer (some ⟨q, 0, none⟩)) : (results Tryz.f166 tmps).run Tryz.prog w = .ok (.agg (dayC v)) w :=
  results_cell_row (P := Tryz.prog) (fn := Tryz.f166) (p := 4) (ty := 61) rfl tmps _ q 61 (dayC v) (0, 0) _ hp hb Tryz.underlying61 rfl (infoD v)
set_option maxRecDepth 100000 in
set_option maxHeartbeats 3200000 in
theorem takeD_no (F : FuncId) (hF : ∀ args w, (callFunc F args).run Tryz.prog w = .ok (.enter F args) w) (caps : Array Value) (w : World) (b g : Nat) (x : FPair) (r : List FPair) (h : LeftAt w b g (x :: r)) (v : DayL) (k : Int) (hk : k ≠ 0)
    (hT : ∀ W, Fr w W (fun _ => False) → Calls Tryz.prog F (#[strV x.1] ++ caps) W fun e w' => e = .returned (.tuple #[.agg (dayC v), intV k]) ∧ Fr W w' (fun _ => False)) :
    Calls Tryz.prog 166 #[.pointer (some ⟨b, 0, none⟩), .func (.func F) #[] caps] w fun e w' => e = Raised (wrongL k (x.2 : Int)) ∧ Fr w w' (fun _ => False) := by
  have hf0 := Fr.new w (.cells #[intV 0, intV 0, intV 0] 61) (fun _ => False)
  have hsz : (w.alloc (.cells #[intV 0, intV 0, intV 0] 61)).heap.size = w.heap.size + 1 := by simp
  obtain ⟨off, c, hb, hc, c0, c1, hL⟩ := (h.fr hf0 (fun h => h) (fun h => h)).open
  have d0 := cell_at hb 0
  simp at d0
  have HT := Lib.hid hT
  have hk0 : (k == 0) = false := by simpa using hk
  clear hT hL hb h hk hf0
  go_enter Tryz.func166, Tryz.ntmps166
  go_wp2_with fail
  refine (HT.out _ (ff (Fr.new w (.cells #[intV 0, intV 0, intV 0] 61) _) (Fr.new _ _ _))).mono ?_
  rintro e w2 ⟨rfl, hf2⟩
  have HF2 := Lib.hid (ff (ff (Fr.new w (.cells #[intV 0, intV 0, intV 0] 61) _) (Fr.new _ _ _)) hf2)
  have hE := hf2.blk (Blk.made (w.alloc (.cells #[intV 0, intV 0, intV 0] 61)) 172 #[strV x.1, intV (x.2 : Int)]) (fun h => h)
  rw [hsz] at hE
  have HE := Lib.hid hE
  clear hf2 HT hE
  go_wp2_with (
        refine wpList_store_blk 61 _ _ w2.heap.size 0 61 (dayC dayZ) (dayC v) (dayC v) (by rfl) rfl rfl rfl rfl (Blk.made w2 61 (dayC dayZ)) (infoD _) (dayC_one _) (show 0 + 3 ≤ 3 by decide) (put_all rfl) ?_
        intro w3 hf3 hb3
        have hf23 := (Fr.new w2 (.cells (dayC dayZ) 61) (fun _ => False)).fresh hf3 (fun i e => by omega)
        have HF3 := Lib.hid (ff HF2.out hf23)
        have e1 := blk_cell (hf23.blk HE.out (fun h => h)) 1 _ rfl
        clear hf3 hb3 hf23)
  refine (fault_any _ _ _).mono ?_
  rintro e w4 ⟨rfl, hf4⟩
  have HF4 := Lib.hid (ff HF3.out hf4)
  clear hf4
  go_wp2_with fail
  exact ⟨rfl, rfl, HF4.out⟩
set_option maxRecDepth 100000 in
set_option maxHeartbeats 3200000 in
theorem takeD_ok (F : FuncId) (hF : ∀ args w, (callFunc F args).run Tryz.prog w = .ok (.enter F args) w) (caps : Array Value) (w : World) (b g : Nat) (x : FPair) (r : List FPair) (h : LeftAt w b g (x :: r)) (hbg : g ≠ b) (v : DayL)
    (hT : ∀ W, Fr w W (fun _ => False) → Calls Tryz.prog F (#[strV x.1] ++ caps) W fun e w' => e = .returned (.tuple #[.agg (dayC v), intV 0]) ∧ Fr W w' (fun _ => False)) :
    Calls Tryz.prog 166 #[.pointer (some ⟨b, 0, none⟩), .func (.func F) #[] caps] w fun e w' => e = .returned (.agg (dayC v)) ∧ LeftAt w' b g r ∧ Fr w w' (· = b) := by
  have hf0 := Fr.new w (.cells #[intV 0, intV 0, intV 0] 61) (fun _ => False)
  have hsz : (w.alloc (.cells #[intV 0, intV 0, intV 0] 61)).heap.size = w.heap.size + 1 := by simp
  have hbs := h.lt
  obtain ⟨_, _, _, _, cg, _, _⟩ := h.open
  have hgs := World.block_lt_of_cell? w _ cg
  obtain ⟨off, c, hb, hc, c0, c1, hL⟩ := (h.fr hf0 (fun h => h) (fun h => h)).open
  have d0 := cell_at hb 0
  simp at d0
  have HT := Lib.hid hT
  have HL := Lib.hid hL
  have HB := Lib.hid hb
  have HZ := Lib.hid (show Blk (w.alloc (.cells #[intV 0, intV 0, intV 0] 61)) w.heap.size 61 (dayC dayZ) from Blk.made w 61 #[intV 0, intV 0, intV 0])
  have HF0 := Lib.hid hf0
  clear hT hL hb h hf0 cg
  have l1 : (1 : Int) ≤ (r.length + 1 : Int) := by omega
  have l2 : (r.length + 1 : Int) ≤ (c : Int) := by omega
  go_enter Tryz.func166, Tryz.ntmps166
  go_wp2_with fail
  refine (HT.out _ (ff (Fr.new w (.cells #[intV 0, intV 0, intV 0] 61) _) (Fr.new _ _ _))).mono ?_
  rintro e w2 ⟨rfl, hf2⟩
  have hs2 := hf2.size
  simp at hs2
  have HF2 := Lib.hid (ff (Fr.new _ _ _) hf2)
  clear hf2 HT
  go_wp2_with (first
      | (
        refine wpList_store_blk 61 _ _ w2.heap.size 0 61 (dayC dayZ) (dayC v) (dayC v) (by rfl) rfl rfl rfl rfl (Blk.made w2 61 (dayC dayZ)) (infoD _) (dayC_one _) (show 0 + 3 ≤ 3 by decide) (put_all rfl) ?_
        intro w3 hf3 hb3
        have hf23 := (Fr.new w2 (.cells (dayC dayZ) 61) (fun _ => False)).fresh hf3 (fun i e => by omega)
        have HF3 := Lib.hid (ff HF2.out hf23)
        have HZ3 := Lib.hid (HF3.out.blk HZ.out (fun h => h))
        have HB3 := Lib.hid (HF3.out.blk HB.out (fun h => h))
        have HV3 := Lib.hid hb3
        have d3 := blk_cell HB3.out 0 _ rfl
        have hs3 := hf3.size
        simp at hs3
        clear hf3 hb3 hf23)
      | (
        refine wpList_store_cell 133 _ _ b 0 177 _ #[.slice (if c = 1 then some ⟨g, off, none⟩ else some ⟨g, off + 2, none⟩) r.length (c - 1)] (.slice (if c = 1 then some ⟨g, off, none⟩ else some ⟨g, off + 2, none⟩) r.length (c - 1)) (by rfl) rfl rfl rfl rfl HB3.out info_fields (by rfl) (show 0 < 1 by decide) rfl ?_
        intro w4 hf4 hb4
        have HF4 := Lib.hid hf4
        have HB4 := Lib.hid hb4
        have HV4 := Lib.hid (hf4.blk HV3.out (by omega))
        have HZ4 := Lib.hid (hf4.blk HZ3.out (by omega))
        clear hf4 hb4)
      | (refine wpList_load_blk 61 _ w2.heap.size 0 61 (dayC v) (dayC v) _ (by rfl) rfl rfl HV4.out Tryz.underlying61 rfl (infoD _) (zero_part _) ?_)
      | (
        refine wpList_store_blk 61 _ _ w.heap.size 0 61 (dayC dayZ) (dayC v) (dayC v) (by rfl) rfl rfl rfl rfl HZ4.out (infoD _) (dayC_one _) (show 0 + 3 ≤ 3 by decide) (put_all rfl) ?_
        intro w5 hf5 hb5
        have HF5 := Lib.hid hf5
        have HB5 := Lib.hid hb5
        clear hf5 hb5))
  all_goals
    (try simp only [Exit.inBlock, Exit.then])
    have hf04 : Fr (w.alloc (.cells #[intV 0, intV 0, intV 0] 61)) w4 (· = b) := HF3.out.trans HF4.out (fun _ _ h => h.elim) (fun _ _ h => h)
    have hcut : Mem.cutA (some ⟨g, off, none⟩) c 1 2 = if c = 1 then some ⟨g, off, none⟩ else some ⟨g, off + 2, none⟩ := rfl
    rw [hcut] at HL
    have hL4 := HL.out _ _ hf04 hbg HB4.out
    have hA4 : Fr w w4 (· = b) := HF0.out.trans hf04 (fun _ _ h => h.elim) (fun _ _ h => h)
    have hA5 : Fr w w5 (· = b) := fr_more hA4 HF5.out (fun i e => by omega)
    exact bodyPost_ret (res_takeD HB5.out _ rfl) rfl ⟨rfl, hL4.fr HF5.out (by omega) (by omega), hA5⟩
theorem res_takeA {w : World} {q : Nat} {v : AtL} (hb : Blk w q 63 (atC v)) (tmps : Array Value) (hp : tmps.getD 4 undef = .pointer (some ⟨q, 0, none⟩)) : (results Tryz.f168 tmps).run Tryz.prog w = .ok (.agg (atC v)) w :=
  results_cell_row (P := Tryz.prog) (fn := Tryz.f168) (p := 4) (ty := 63) rfl tmps _ q 63 (atC v) (0, 0) _ hp hb Tryz.underlying63 rfl (infoA v)
set_option maxRecDepth 100000 in
set_option maxHeartbeats 3200000 in
theorem takeA_no (F : FuncId) (hF : ∀ args w, (callFunc F args).run Tryz.prog w = .ok (.enter F args) w) (caps : Array Value) (w : World) (b g : Nat) (x : FPair) (r : List FPair) (h : LeftAt w b g (x :: r)) (v : AtL) (k : Int) (hk : k ≠ 0)
    (hT : ∀ W, Fr w W (fun _ => False) → Calls Tryz.prog F (#[strV x.1] ++ caps) W fun e w' => e = .returned (.tuple #[.agg (atC v), intV k]) ∧ Fr W w' (fun _ => False)) :
    Calls Tryz.prog 168 #[.pointer (some ⟨b, 0, none⟩), .func (.func F) #[] caps] w fun e w' => e = Raised (wrongL k (x.2 : Int)) ∧ Fr w w' (fun _ => False) := by
  have hf0 := Fr.new w (.cells #[intV 0, intV 0] 63) (fun _ => False)
  have hsz : (w.alloc (.cells #[intV 0, intV 0] 63)).heap.size = w.heap.size + 1 := by simp
  obtain ⟨off, c, hb, hc, c0, c1, hL⟩ := (h.fr hf0 (fun h => h) (fun h => h)).open
  have d0 := cell_at hb 0
  simp at d0
  have HT := Lib.hid hT
  have hk0 : (k == 0) = false := by simpa using hk
  clear hT hL hb h hk hf0
  go_enter Tryz.func168, Tryz.ntmps168
  go_wp2_with fail
  refine (HT.out _ (ff (Fr.new w (.cells #[intV 0, intV 0] 63) _) (Fr.new _ _ _))).mono ?_
  rintro e w2 ⟨rfl, hf2⟩
  have HF2 := Lib.hid (ff (ff (Fr.new w (.cells #[intV 0, intV 0] 63) _) (Fr.new _ _ _)) hf2)
  have hE := hf2.blk (Blk.made (w.alloc (.cells #[intV 0, intV 0] 63)) 172 #[strV x.1, intV (x.2 : Int)]) (fun h => h)
  rw [hsz] at hE
  have HE := Lib.hid hE
  clear hf2 HT hE
  go_wp2_with (
        refine wpList_store_blk 63 _ _ w2.heap.size 0 63 (atC atZ) (atC v) (atC v) (by rfl) rfl rfl rfl rfl (Blk.made w2 63 (atC atZ)) (infoA _) (atC_one _) (show 0 + 2 ≤ 2 by decide) (put_all rfl) ?_
        intro w3 hf3 hb3
        have hf23 := (Fr.new w2 (.cells (atC atZ) 63) (fun _ => False)).fresh hf3 (fun i e => by omega)
        have HF3 := Lib.hid (ff HF2.out hf23)
        have e1 := blk_cell (hf23.blk HE.out (fun h => h)) 1 _ rfl
        clear hf3 hb3 hf23)
  refine (fault_any _ _ _).mono ?_
  rintro e w4 ⟨rfl, hf4⟩
  have HF4 := Lib.hid (ff HF3.out hf4)
  clear hf4
  go_wp2_with fail
  exact ⟨rfl, rfl, HF4.out⟩
set_option maxRecDepth 100000 in
set_option maxHeartbeats 3200000 in
theorem takeA_ok (F : FuncId) (hF : ∀ args w, (callFunc F args).run Tryz.prog w = .ok (.enter F args) w) (caps : Array Value) (w : World) (b g : Nat) (x : FPair) (r : List FPair) (h : LeftAt w b g (x :: r)) (hbg : g ≠ b) (v : AtL)
    (hT : ∀ W, Fr w W (fun _ => False) → Calls Tryz.prog F (#[strV x.1] ++ caps) W fun e w' => e = .returned (.tuple #[.agg (atC v), intV 0]) ∧ Fr W w' (fun _ => False)) :
    Calls Tryz.prog 168 #[.pointer (some ⟨b, 0, none⟩), .func (.func F) #[] caps] w fun e w' => e = .returned (.agg (atC v)) ∧ LeftAt w' b g r ∧ Fr w w' (· = b) := by
  have hf0 := Fr.new w (.cells #[intV 0, intV 0] 63) (fun _ => False)
  have hsz : (w.alloc (.cells #[intV 0, intV 0] 63)).heap.size = w.heap.size + 1 := by simp
  have hbs := h.lt
  obtain ⟨_, _, _, _, cg, _, _⟩ := h.open
  have hgs := World.block_lt_of_cell? w _ cg
  obtain ⟨off, c, hb, hc, c0, c1, hL⟩ := (h.fr hf0 (fun h => h) (fun h => h)).open
  have d0 := cell_at hb 0
  simp at d0
  have HT := Lib.hid hT
  have HL := Lib.hid hL
  have HB := Lib.hid hb
  have HZ := Lib.hid (show Blk (w.alloc (.cells #[intV 0, intV 0] 63)) w.heap.size 63 (atC atZ) from Blk.made w 63 #[intV 0, intV 0])
  have HF0 := Lib.hid hf0
  clear hT hL hb h hf0 cg
  have l1 : (1 : Int) ≤ (r.length + 1 : Int) := by omega
  have l2 : (r.length + 1 : Int) ≤ (c : Int) := by omega
  go_enter Tryz.func168, Tryz.ntmps168
  go_wp2_with fail
  refine (HT.out _ (ff (Fr.new w (.cells #[intV 0, intV 0] 63) _) (Fr.new _ _ _))).mono ?_
  rintro e w2 ⟨rfl, hf2⟩
  have hs2 := hf2.size
  simp at hs2
  have HF2 := Lib.hid (ff (Fr.new _ _ _) hf2)
  clear hf2 HT
  go_wp2_with (first
      | (
        refine wpList_store_blk 63 _ _ w2.heap.size 0 63 (atC atZ) (atC v) (atC v) (by rfl) rfl rfl rfl rfl (Blk.made w2 63 (atC atZ)) (infoA _) (atC_one _) (show 0 + 2 ≤ 2 by decide) (put_all rfl) ?_
        intro w3 hf3 hb3
        have hf23 := (Fr.new w2 (.cells (atC atZ) 63) (fun _ => False)).fresh hf3 (fun i e => by omega)
        have HF3 := Lib.hid (ff HF2.out hf23)
        have HZ3 := Lib.hid (HF3.out.blk HZ.out (fun h => h))
        have HB3 := Lib.hid (HF3.out.blk HB.out (fun h => h))
        have HV3 := Lib.hid hb3
        have d3 := blk_cell HB3.out 0 _ rfl
        have hs3 := hf3.size
        simp at hs3
        clear hf3 hb3 hf23)
      | (
        refine wpList_store_cell 133 _ _ b 0 177 _ #[.slice (if c = 1 then some ⟨g, off, none⟩ else some ⟨g, off + 2, none⟩) r.length (c - 1)] (.slice (if c = 1 then some ⟨g, off, none⟩ else some ⟨g, off + 2, none⟩) r.length (c - 1)) (by rfl) rfl rfl rfl rfl HB3.out info_fields (by rfl) (show 0 < 1 by decide) rfl ?_
        intro w4 hf4 hb4
        have HF4 := Lib.hid hf4
        have HB4 := Lib.hid hb4
        have HV4 := Lib.hid (hf4.blk HV3.out (by omega))
        have HZ4 := Lib.hid (hf4.blk HZ3.out (by omega))
        clear hf4 hb4)
      | (refine wpList_load_blk 63 _ w2.heap.size 0 63 (atC v) (atC v) _ (by rfl) rfl rfl HV4.out Tryz.underlying63 rfl (infoA _) (zero_part _) ?_)
      | (
        refine wpList_store_blk 63 _ _ w.heap.size 0 63 (atC atZ) (atC v) (atC v) (by rfl) rfl rfl rfl rfl HZ4.out (infoA _) (atC_one _) (show 0 + 2 ≤ 2 by decide) (put_all rfl) ?_
        intro w5 hf5 hb5
        have HF5 := Lib.hid hf5
        have HB5 := Lib.hid hb5
        clear hf5 hb5))
  all_goals
    (try simp only [Exit.inBlock, Exit.then])
    have hf04 : Fr (w.alloc (.cells #[intV 0, intV 0] 63)) w4 (· = b) := HF3.out.trans HF4.out (fun _ _ h => h.elim) (fun _ _ h => h)
    have hcut : Mem.cutA (some ⟨g, off, none⟩) c 1 2 = if c = 1 then some ⟨g, off, none⟩ else some ⟨g, off + 2, none⟩ := rfl
    rw [hcut] at HL
    have hL4 := HL.out _ _ hf04 hbg HB4.out
    have hA4 : Fr w w4 (· = b) := HF0.out.trans hf04 (fun _ _ h => h.elim) (fun _ _ h => h)
    have hA5 : Fr w w5 (· = b) := fr_more hA4 HF5.out (fun i e => by omega)
    exact bodyPost_ret (res_takeA HB5.out _ rfl) rfl ⟨rfl, hL4.fr HF5.out (by omega) (by omega), hA5⟩
theorem res_takeE {w : World} {q : Nat} {v : EraL} (hb : Blk w q 69 (eraC v)) (tmps : Array Value) (hp : tmps.getD 4 undef = .pointer (some ⟨q, 0, none⟩)) : (results Tryz.f174 tmps).run Tryz.prog w = .ok (.agg (eraC v)) w :=
  results_cell_row (P := Tryz.prog) (fn := Tryz.f174) (p := 4) (ty := 69) rfl tmps _ q 69 (eraC v) (0, 0) _ hp hb Tryz.underlying69 rfl (infoE v)
set_option maxRecDepth 100000 in
set_option maxHeartbeats 3200000 in
theorem takeE_no (F : FuncId) (hF : ∀ args w, (callFunc F args).run Tryz.prog w = .ok (.enter F args) w) (caps : Array Value) (w : World) (b g : Nat) (x : FPair) (r : List FPair) (h : LeftAt w b g (x :: r)) (v : EraL) (k : Int) (hk : k ≠ 0)
    (hT : ∀ W, Fr w W (fun _ => False) → Calls Tryz.prog F (#[strV x.1] ++ caps) W fun e w' => e = .returned (.tuple #[.agg (eraC v), intV k]) ∧ Fr W w' (fun _ => False)) :
    Calls Tryz.prog 174 #[.pointer (some ⟨b, 0, none⟩), .func (.func F) #[] caps] w fun e w' => e = Raised (wrongL k (x.2 : Int)) ∧ Fr w w' (fun _ => False) := by
  have hf0 := Fr.new w (.cells #[intV 0, intV 0, intV 0, .string ⟨#[]⟩, .string ⟨#[]⟩, .bool false, intV 0, intV 0, intV 0, intV 0, intV 0, intV 0, intV 0] 69) (fun _ => False)
  have hsz : (w.alloc (.cells #[intV 0, intV 0, intV 0, .string ⟨#[]⟩, .string ⟨#[]⟩, .bool false, intV 0, intV 0, intV 0, intV 0, intV 0, intV 0, intV 0] 69)).heap.size = w.heap.size + 1 := by simp
  obtain ⟨off, c, hb, hc, c0, c1, hL⟩ := (h.fr hf0 (fun h => h) (fun h => h)).open
  have d0 := cell_at hb 0
  simp at d0
  have HT := Lib.hid hT
  have hk0 : (k == 0) = false := by simpa using hk
  clear hT hL hb h hk hf0
  go_enter Tryz.func174, Tryz.ntmps174
  go_wp2_with fail
  refine (HT.out _ (ff (Fr.new w (.cells #[intV 0, intV 0, intV 0, .string ⟨#[]⟩, .string ⟨#[]⟩, .bool false, intV 0, intV 0, intV 0, intV 0, intV 0, intV 0, intV 0] 69) _) (Fr.new _ _ _))).mono ?_
  rintro e w2 ⟨rfl, hf2⟩
  have HF2 := Lib.hid (ff (ff (Fr.new w (.cells #[intV 0, intV 0, intV 0, .string ⟨#[]⟩, .string ⟨#[]⟩, .bool false, intV 0, intV 0, intV 0, intV 0, intV 0, intV 0, intV 0] 69) _) (Fr.new _ _ _)) hf2)
  have hE := hf2.blk (Blk.made (w.alloc (.cells #[intV 0, intV 0, intV 0, .string ⟨#[]⟩, .string ⟨#[]⟩, .bool false, intV 0, intV 0, intV 0, intV 0, intV 0, intV 0, intV 0] 69)) 172 #[strV x.1, intV (x.2 : Int)]) (fun h => h)
  rw [hsz] at hE
  have HE := Lib.hid hE
  clear hf2 HT hE
  go_wp2_with (
        refine wpList_store_blk 69 _ _ w2.heap.size 0 69 (eraC eraZ) (eraC v) (eraC v) (by rfl) rfl rfl rfl rfl (Blk.made w2 69 (eraC eraZ)) (infoE _) (eraC_one _) (show 0 + 13 ≤ 13 by decide) (put_all rfl) ?_
        intro w3 hf3 hb3
        have hf23 := (Fr.new w2 (.cells (eraC eraZ) 69) (fun _ => False)).fresh hf3 (fun i e => by omega)
        have HF3 := Lib.hid (ff HF2.out hf23)
        have e1 := blk_cell (hf23.blk HE.out (fun h => h)) 1 _ rfl
        clear hf3 hb3 hf23)
  refine (fault_any _ _ _).mono ?_
  rintro e w4 ⟨rfl, hf4⟩
  have HF4 := Lib.hid (ff HF3.out hf4)
  clear hf4
  go_wp2_with fail
  exact ⟨rfl, rfl, HF4.out⟩
set_option maxRecDepth 100000 in
set_option maxHeartbeats 3200000 in
theorem takeE_ok (F : FuncId) (hF : ∀ args w, (callFunc F args).run Tryz.prog w = .ok (.enter F args) w) (caps : Array Value) (w : World) (b g : Nat) (x : FPair) (r : List FPair) (h : LeftAt w b g (x :: r)) (hbg : g ≠ b) (v : EraL)
    (hT : ∀ W, Fr w W (fun _ => False) → Calls Tryz.prog F (#[strV x.1] ++ caps) W fun e w' => e = .returned (.tuple #[.agg (eraC v), intV 0]) ∧ Fr W w' (fun _ => False)) :
    Calls Tryz.prog 174 #[.pointer (some ⟨b, 0, none⟩), .func (.func F) #[] caps] w fun e w' => e = .returned (.agg (eraC v)) ∧ LeftAt w' b g r ∧ Fr w w' (· = b) := by
  have hf0 := Fr.new w (.cells #[intV 0, intV 0, intV 0, .string ⟨#[]⟩, .string ⟨#[]⟩, .bool false, intV 0, intV 0, intV 0, intV 0, intV 0, intV 0, intV 0] 69) (fun _ => False)
  have hsz : (w.alloc (.cells #[intV 0, intV 0, intV 0, .string ⟨#[]⟩, .string ⟨#[]⟩, .bool false, intV 0, intV 0, intV 0, intV 0, intV 0, intV 0, intV 0] 69)).heap.size = w.heap.size + 1 := by simp
  have hbs := h.lt
  obtain ⟨_, _, _, _, cg, _, _⟩ := h.open
  have hgs := World.block_lt_of_cell? w _ cg
  obtain ⟨off, c, hb, hc, c0, c1, hL⟩ := (h.fr hf0 (fun h => h) (fun h => h)).open
  have d0 := cell_at hb 0
  simp at d0
  have HT := Lib.hid hT
  have HL := Lib.hid hL
  have HB := Lib.hid hb
  have HZ := Lib.hid (show Blk (w.alloc (.cells #[intV 0, intV 0, intV 0, .string ⟨#[]⟩, .string ⟨#[]⟩, .bool false, intV 0, intV 0, intV 0, intV 0, intV 0, intV 0, intV 0] 69)) w.heap.size 69 (eraC eraZ) from Blk.made w 69 #[intV 0, intV 0, intV 0, .string ⟨#[]⟩, .string ⟨#[]⟩, .bool false, intV 0, intV 0, intV 0, intV 0, intV 0, intV 0, intV 0])
  have HF0 := Lib.hid hf0
  clear hT hL hb h hf0 cg
  have l1 : (1 : Int) ≤ (r.length + 1 : Int) := by omega
  have l2 : (r.length + 1 : Int) ≤ (c : Int) := by omega
  go_enter Tryz.func174, Tryz.ntmps174
  go_wp2_with fail
  refine (HT.out _ (ff (Fr.new w (.cells #[intV 0, intV 0, intV 0, .string ⟨#[]⟩, .string ⟨#[]⟩, .bool false, intV 0, intV 0, intV 0, intV 0, intV 0, intV 0, intV 0] 69) _) (Fr.new _ _ _))).mono ?_
  rintro e w2 ⟨rfl, hf2⟩
  have hs2 := hf2.size
  simp at hs2
  have HF2 := Lib.hid (ff (Fr.new _ _ _) hf2)
  clear hf2 HT
  go_wp2_with (first
      | (
        refine wpList_store_blk 69 _ _ w2.heap.size 0 69 (eraC eraZ) (eraC v) (eraC v) (by rfl) rfl rfl rfl rfl (Blk.made w2 69 (eraC eraZ)) (infoE _) (eraC_one _) (show 0 + 13 ≤ 13 by decide) (put_all rfl) ?_
        intro w3 hf3 hb3
        have hf23 := (Fr.new w2 (.cells (eraC eraZ) 69) (fun _ => False)).fresh hf3 (fun i e => by omega)
        have HF3 := Lib.hid (ff HF2.out hf23)
        have HZ3 := Lib.hid (HF3.out.blk HZ.out (fun h => h))
        have HB3 := Lib.hid (HF3.out.blk HB.out (fun h => h))
        have HV3 := Lib.hid hb3
        have d3 := blk_cell HB3.out 0 _ rfl
        have hs3 := hf3.size
        simp at hs3
        clear hf3 hb3 hf23)
      | (
        refine wpList_store_cell 133 _ _ b 0 177 _ #[.slice (if c = 1 then some ⟨g, off, none⟩ else some ⟨g, off + 2, none⟩) r.length (c - 1)] (.slice (if c = 1 then some ⟨g, off, none⟩ else some ⟨g, off + 2, none⟩) r.length (c - 1)) (by rfl) rfl rfl rfl rfl HB3.out info_fields (by rfl) (show 0 < 1 by decide) rfl ?_
        intro w4 hf4 hb4
        have HF4 := Lib.hid hf4
        have HB4 := Lib.hid hb4
        have HV4 := Lib.hid (hf4.blk HV3.out (by omega))
        have HZ4 := Lib.hid (hf4.blk HZ3.out (by omega))
        clear hf4 hb4)
      | (refine wpList_load_blk 69 _ w2.heap.size 0 69 (eraC v) (eraC v) _ (by rfl) rfl rfl HV4.out Tryz.underlying69 rfl (infoE _) (zero_part _) ?_)
      | (
        refine wpList_store_blk 69 _ _ w.heap.size 0 69 (eraC eraZ) (eraC v) (eraC v) (by rfl) rfl rfl rfl rfl HZ4.out (infoE _) (eraC_one _) (show 0 + 13 ≤ 13 by decide) (put_all rfl) ?_
        intro w5 hf5 hb5
        have HF5 := Lib.hid hf5
        have HB5 := Lib.hid hb5
        clear hf5 hb5))
  all_goals
    (try simp only [Exit.inBlock, Exit.then])
    have hf04 : Fr (w.alloc (.cells #[intV 0, intV 0, intV 0, .string ⟨#[]⟩, .string ⟨#[]⟩, .bool false, intV 0, intV 0, intV 0, intV 0, intV 0, intV 0, intV 0] 69)) w4 (· = b) := HF3.out.trans HF4.out (fun _ _ h => h.elim) (fun _ _ h => h)
    have hcut : Mem.cutA (some ⟨g, off, none⟩) c 1 2 = if c = 1 then some ⟨g, off, none⟩ else some ⟨g, off + 2, none⟩ := rfl
    rw [hcut] at HL
    have hL4 := HL.out _ _ hf04 hbg HB4.out
    have hA4 : Fr w w4 (· = b) := HF0.out.trans hf04 (fun _ _ h => h.elim) (fun _ _ h => h)
    have hA5 : Fr w w5 (· = b) := fr_more hA4 HF5.out (fun i e => by omega)
    exact bodyPost_ret (res_takeE HB5.out _ rfl) rfl ⟨rfl, hL4.fr HF5.out (by omega) (by omega), hA5⟩
end Go.Proofs.YtodcnbejnchmhaaGreatDoor
namespace Go.Proofs.YtodcnbejnchmhaaGreatDoor
open Go.RowKit Go.Mem Go.Lin

theorem slots_of {W : World} (h : LOk W) : W.cell? ⟨4, 0, none⟩ = some (strV [47]) ∧ W.cell? ⟨4, 1, none⟩ = some (strV [37, 115]) ∧ W.cell? ⟨4, 2, none⟩ = some (strV [37, 122]) := ⟨h.slots 0 (by omega), h.slots 1 (by omega), h.slots 2 (by omega)⟩
set_option maxRecDepth 100000 in
set_option maxHeartbeats 1600000 in
theorem without_any (l : Bs) (hl : l.length ≤ 100000) (w : World) (hw : LOk w) (T : Bs) (hT : withoutD slotW l = T) : Calls Tryz.prog 202 #[strV l] w fun e w' => e = .returned (strV T) ∧ Fr w w' (fun _ => False) := by
  obtain ⟨m0, m1, m2⟩ := slots_of hw
  have HC := Lib.hid (fun (m : Bs) (W : World) (f : Fr w W (fun _ => False)) => S6.Cut_any l m (by omega) W (hw.fr f).base)
  have i0 : ∀ w, (Instr.index 263 (.agg #[strV [47], strV [37, 115], strV [37, 122]]) (.int .i64 0)).run Tryz.prog w = .ok (strV [47]) w := fun _ => by kernel_rfl
  have i1 : ∀ w, (Instr.index 263 (.agg #[strV [47], strV [37, 115], strV [37, 122]]) (.int .i64 1)).run Tryz.prog w = .ok (strV [37, 115]) w := fun _ => by kernel_rfl
  have i2 : ∀ w, (Instr.index 263 (.agg #[strV [47], strV [37, 115], strV [37, 122]]) (.int .i64 2)).run Tryz.prog w = .ok (strV [37, 122]) w := fun _ => by kernel_rfl
  have HT := Lib.hid hT
  clear hT hw
  go_enter Tryz.func202, Tryz.ntmps202
  go_wp2_with fail
  go_loopg [9] 3 (fun g v9 wr => ∃ k : Nat, k + g = 3 ∧ v9 = .int .i64 (k : Int) ∧ withoutD (slotW.drop k) l = T ∧ Fr w wr (fun _ => False))
  case atStart => exact ⟨0, rfl, rfl, HT.out, Fr.refl _ _⟩
  case round =>
    obtain ⟨k, hk, rfl, hk2, hf⟩ := hrel
    have HK := Lib.hid hk2
    have HF := Lib.hid hf
    clear hk2 hf HT
    have hk3 : k = 0 ∨ k = 1 ∨ k = 2 ∨ k = 3 := by omega
    rcases hk3 with rfl | rfl | rfl | rfl
    · have HCk := Lib.hid (HC.out [47] _ HF.out)
      obtain ⟨a, ha⟩ : ∃ a, (Go.Lib.cut l [47]).1 = a := ⟨_, rfl⟩
      obtain ⟨c, hc⟩ : ∃ c, (Go.Lib.cut l [47]).2.1 = c := ⟨_, rfl⟩
      obtain ⟨x, hx⟩ : ∃ x, (Go.Lib.cut l [47]).2.2 = x := ⟨_, rfl⟩
      rw [ha, hc, hx] at HCk
      have HX := Lib.hid (show (if x = true then a ++ c else withoutD (slotW.drop 1) l) = T by rw [← ha, ← hc, ← hx]; exact HK.out)
      have HN := Lib.hid (show x = true → a.length + c.length ≤ l.length by rw [← ha, ← hc, ← hx]; exact cut_len)
      obtain rfl : gk = 3 := by omega
      clear ha hc hx HK hk
      cases x with
      | true =>
        have hle := HN.out rfl
        have R1 := fun W : World => S8.run_add_str (P := Tryz.prog) W a c (by omega)
        have hE : a ++ c = T := HX.out
        rw [hE] at R1
        clear HX HN hE
        go_wp2_with fail
        refine HCk.out.mono ?_
        rintro e w2 ⟨rfl, hf2⟩
        have HF2 := Lib.hid (ff HF.out hf2)
        clear hf2
        go_wp2_with fail
        go_ret
        exact ⟨rfl, HF2.out⟩
      | false =>
        have HX := Lib.hid (show withoutD (slotW.drop 1) l = T from HX.out)
        clear HN
        go_wp2_with fail
        refine HCk.out.mono ?_
        rintro e w2 ⟨rfl, hf2⟩
        have HF2 := Lib.hid (ff HF.out hf2)
        clear hf2
        go_wp2_with fail
        go_roundg 2
        case measure => omega
        case rel => exact ⟨1, rfl, rfl, HX.out, HF2.out⟩
    · have HCk := Lib.hid (HC.out [37, 115] _ HF.out)
      obtain ⟨a, ha⟩ : ∃ a, (Go.Lib.cut l [37, 115]).1 = a := ⟨_, rfl⟩
      obtain ⟨c, hc⟩ : ∃ c, (Go.Lib.cut l [37, 115]).2.1 = c := ⟨_, rfl⟩
      obtain ⟨x, hx⟩ : ∃ x, (Go.Lib.cut l [37, 115]).2.2 = x := ⟨_, rfl⟩
      rw [ha, hc, hx] at HCk
      have HX := Lib.hid (show (if x = true then a ++ c else withoutD (slotW.drop 2) l) = T by rw [← ha, ← hc, ← hx]; exact HK.out)
      have HN := Lib.hid (show x = true → a.length + c.length ≤ l.length by rw [← ha, ← hc, ← hx]; exact cut_len)
      obtain rfl : gk = 2 := by omega
      clear ha hc hx HK hk
      cases x with
      | true =>
        have hle := HN.out rfl
        have R1 := fun W : World => S8.run_add_str (P := Tryz.prog) W a c (by omega)
        have hE : a ++ c = T := HX.out
        rw [hE] at R1
        clear HX HN hE
        go_wp2_with fail
        refine HCk.out.mono ?_
        rintro e w2 ⟨rfl, hf2⟩
        have HF2 := Lib.hid (ff HF.out hf2)
        clear hf2
        go_wp2_with fail
        go_ret
        exact ⟨rfl, HF2.out⟩
      | false =>
        have HX := Lib.hid (show withoutD (slotW.drop 2) l = T from HX.out)
        clear HN
        go_wp2_with fail
        refine HCk.out.mono ?_
        rintro e w2 ⟨rfl, hf2⟩
        have HF2 := Lib.hid (ff HF.out hf2)
        clear hf2
        go_wp2_with fail
        go_roundg 1
        case measure => omega
        case rel => exact ⟨2, rfl, rfl, HX.out, HF2.out⟩
    · have HCk := Lib.hid (HC.out [37, 122] _ HF.out)
      obtain ⟨a, ha⟩ : ∃ a, (Go.Lib.cut l [37, 122]).1 = a := ⟨_, rfl⟩
      obtain ⟨c, hc⟩ : ∃ c, (Go.Lib.cut l [37, 122]).2.1 = c := ⟨_, rfl⟩
      obtain ⟨x, hx⟩ : ∃ x, (Go.Lib.cut l [37, 122]).2.2 = x := ⟨_, rfl⟩
      rw [ha, hc, hx] at HCk
      have HX := Lib.hid (show (if x = true then a ++ c else withoutD (slotW.drop 3) l) = T by rw [← ha, ← hc, ← hx]; exact HK.out)
      have HN := Lib.hid (show x = true → a.length + c.length ≤ l.length by rw [← ha, ← hc, ← hx]; exact cut_len)
      obtain rfl : gk = 1 := by omega
      clear ha hc hx HK hk
      cases x with
      | true =>
        have hle := HN.out rfl
        have R1 := fun W : World => S8.run_add_str (P := Tryz.prog) W a c (by omega)
        have hE : a ++ c = T := HX.out
        rw [hE] at R1
        clear HX HN hE
        go_wp2_with fail
        refine HCk.out.mono ?_
        rintro e w2 ⟨rfl, hf2⟩
        have HF2 := Lib.hid (ff HF.out hf2)
        clear hf2
        go_wp2_with fail
        go_ret
        exact ⟨rfl, HF2.out⟩
      | false =>
        have HX := Lib.hid (show withoutD (slotW.drop 3) l = T from HX.out)
        clear HN
        go_wp2_with fail
        refine HCk.out.mono ?_
        rintro e w2 ⟨rfl, hf2⟩
        have HF2 := Lib.hid (ff HF.out hf2)
        clear hf2
        go_wp2_with fail
        go_roundg 0
        case measure => omega
        case rel => exact ⟨3, rfl, rfl, HX.out, HF2.out⟩
    · have hE : l = T := HK.out
      subst hE
      clear HK
      go_wp2_with fail
      go_ret
      exact ⟨rfl, HF.out⟩
end Go.Proofs.YtodcnbejnchmhaaGreatDoor
namespace Go.Proofs.YtodcnbejnchmhaaGreatDoor
open Go.RowKit Go.Mem Go.Lin

theorem zoneName_any (l : Bs) (hl : l.length ≤ 100000) (W : World) (hw : LOk W) (k : Int) (h : (if Go.Kwd.zoneD l = true then 0 else 5) = k) : Calls Tryz.prog 143 #[strV l] W fun e w' => e = .returned (.tuple #[strV l, intV k]) ∧ Fr W w' (fun _ => False) := by
  obtain ⟨b, hb⟩ : ∃ b, Go.Kwd.zoneD l = b := ⟨_, rfl⟩
  have HZ := Lib.hid (zone_any l (by omega) W hw b hb)
  have HU := Lib.hid (fun W => unless_any b 5 W)
  rw [hb] at h
  rw [h] at HU
  clear hw h hb
  go_enter Tryz.func143, Tryz.ntmps143
  go_wp2_with fail
  refine HZ.out.mono ?_
  rintro e w2 ⟨rfl, hf2⟩
  have HF2 := Lib.hid hf2
  clear hf2
  go_wp2_with fail
  refine (HU.out _).mono ?_
  rintro e w3 ⟨rfl, rfl⟩
  go_wp2_with fail
  go_ret2
  exact ⟨rfl, HF2.out⟩
theorem ruleName_any (l : Bs) (hl : l.length ≤ 100000) (W : World) (k : Int) (h : (if Go.Kwd.ruleD l = true then 0 else 5) = k) : Calls Tryz.prog 159 #[strV l] W fun e w' => e = .returned (.tuple #[strV l, intV k]) ∧ Fr W w' (fun _ => False) := by
  obtain ⟨b, hb⟩ : ∃ b, Go.Kwd.ruleD l = b := ⟨_, rfl⟩
  have HZ := Lib.hid (rule_any l (by omega) W b hb)
  have HU := Lib.hid (fun W => unless_any b 5 W)
  rw [hb] at h
  rw [h] at HU
  clear h hb
  go_enter Tryz.func159, Tryz.ntmps159
  go_wp2_with fail
  refine HZ.out.mono ?_
  rintro e w2 ⟨rfl, hf2⟩
  have HF2 := Lib.hid hf2
  clear hf2
  go_wp2_with fail
  refine (HU.out _).mono ?_
  rintro e w3 ⟨rfl, rfl⟩
  go_wp2_with fail
  go_ret2
  exact ⟨rfl, HF2.out⟩
theorem dash_any (l : Bs) (W : World) (k : Int) (h : (if l = [45] then 0 else 3) = k) : Calls Tryz.prog 164 #[strV l] W fun e w' => e = .returned (.tuple #[strV l, intV k]) ∧ Fr W w' (fun _ => False) := by
  obtain ⟨b, hb⟩ : ∃ b, (l == [45]) = b := ⟨_, rfl⟩
  have HU := Lib.hid (fun W => unless_any b 3 W)
  rw [show (if b = true then (0 : Int) else 3) = k by
    rw [← h, ← hb]
    by_cases e : l = [45]
    · simp [e]
    · rw [if_neg e, if_neg (by simpa using e)]] at HU
  clear h
  go_enter Tryz.func164, Tryz.ntmps164
  go_wp2_with fail
  refine (HU.out _).mono ?_
  rintro e w3 ⟨rfl, rfl⟩
  go_wp2_with fail
  go_ret2
  exact ⟨rfl, Fr.refl _ _⟩
theorem monthF_any (l : Bs) (hl : l.length ≤ 100000) (W : World) (n : Nat) (hn : Go.Kwd.monthD l = n) (k : Int) (h : (if n = 0 then 6 else 0) = k) : Calls Tryz.prog 165 #[strV l] W fun e w' => e = .returned (.tuple #[intV (n : Int), intV k]) ∧ Fr W w' (fun _ => False) := by
  have HZ := Lib.hid (month_any l (by omega) W n hn)
  obtain ⟨b, hb⟩ : ∃ b, ((n : Int) != 0) = b := ⟨_, rfl⟩
  have HU := Lib.hid (fun W => unless_any b 6 W)
  rw [show (if b = true then (0 : Int) else 6) = k by
    rw [← h, ← hb]
    by_cases e : n = 0
    · simp [e]
    · rw [if_neg e, if_pos (by simpa using e)]] at HU
  have hb2 : ((n : Int) == 0) = !b := by rw [← hb]; simp [bne]
  clear h hn
  cases b
  all_goals
    go_enter Tryz.func165, Tryz.ntmps165
    go_wp2_with fail
    refine HZ.out.mono ?_
    rintro e w2 ⟨rfl, hf2⟩
    have HF2 := Lib.hid hf2
    clear hf2
    go_wp2_with fail
    refine (HU.out _).mono ?_
    rintro e w3 ⟨rfl, rfl⟩
    go_wp2_with fail
    go_ret2
    exact ⟨rfl, HF2.out⟩
def letterK (l : Bs) : Bs × Int := match letterP l with
  | some v => (v, 0)
  | none => (l, 15)
set_option maxHeartbeats 800000 in
theorem letter_any (l : Bs) (hl : l.length ≤ 100000) (W : World) (v : Bs) (k : Int) (h : letterK l = (v, k)) : Calls Tryz.prog 171 #[strV l] W fun e w' => e = .returned (.tuple #[strV v, intV k]) ∧ Fr W w' (fun _ => False) := by
  unfold letterK letterP at h
  by_cases h1 : l = [45]
  · rw [if_pos h1] at h
    obtain ⟨rfl, rfl⟩ := Prod.mk.inj h
    subst h1
    clear h
    go_enter Tryz.func171, Tryz.ntmps171
    go_wp2_with fail
    go_ret2
    exact ⟨rfl, Fr.refl _ _⟩
  · rw [if_neg h1] at h
    have hne : (l == [45]) = false := beq_eq_false_iff_ne.2 h1
    obtain ⟨b, hb⟩ : ∃ b, (decide (1 ≤ l.length) && decide ((l.length : Int) ≤ 6)) = b := ⟨_, rfl⟩
    obtain ⟨a, ha⟩ : ∃ a, l.all letB = a := ⟨_, rfl⟩
    have HB := Lib.hid (fun W => fits_any l 6 W b hb)
    have HA := Lib.hid (fun W => conL_any ⟨l.toArray⟩ W (by rw [str_size]; omega) a ha)
    have hv : v = l ∧ k = if (b && a) = true then 0 else 15 := by
      by_cases h2 : 1 ≤ l.length ∧ l.length ≤ 6 ∧ l.all letB = true
      · rw [if_pos h2] at h
        obtain ⟨rfl, rfl⟩ := Prod.mk.inj h
        refine ⟨rfl, ?_⟩
        rw [← hb, ← ha, h2.2.2, decide_eq_true h2.1, decide_eq_true (show (l.length : Int) ≤ 6 by omega)]
        rfl
      · rw [if_neg h2] at h
        obtain ⟨rfl, rfl⟩ := Prod.mk.inj h
        refine ⟨rfl, ?_⟩
        rw [if_neg (fun e => h2 ?_)]
        rw [← hb, ← ha] at e
        simp only [Bool.and_eq_true, decide_eq_true_eq] at e
        exact ⟨e.1.1, by omega, e.2⟩
    obtain ⟨rfl, rfl⟩ := hv
    have HU := Lib.hid (fun W => unless_any (b && a) 15 W)
    obtain ⟨k, hk⟩ : ∃ k, (if (b && a) = true then (0 : Int) else 15) = k := ⟨_, rfl⟩
    rw [hk] at HU ⊢
    clear h hb ha h1 hk
    cases b with
    | false =>
      clear HA
      go_enter Tryz.func171, Tryz.ntmps171
      go_wp2_with fail
      refine (HB.out _).mono ?_
      rintro e w2 ⟨rfl, rfl⟩
      go_wp2_with fail
      refine (HU.out _).mono ?_
      rintro e w3 ⟨rfl, rfl⟩
      go_wp2_with fail
      go_ret2
      exact ⟨rfl, Fr.refl _ _⟩
    | true =>
      rw [Bool.true_and] at HU
      go_enter Tryz.func171, Tryz.ntmps171
      go_wp2_with fail
      refine (HB.out _).mono ?_
      rintro e w2 ⟨rfl, rfl⟩
      go_wp2_with fail
      refine (HA.out _).mono ?_
      rintro e w2 ⟨rfl, rfl⟩
      go_wp2_with fail
      refine (HU.out _).mono ?_
      rintro e w3 ⟨rfl, rfl⟩
      go_wp2_with fail
      go_ret2
      exact ⟨rfl, Fr.refl _ _⟩
set_option maxHeartbeats 800000 in
theorem format_any (l : Bs) (hl : l.length ≤ 100000) (W : World) (hw : LOk W) (k : Int) (h : (if formatB l = true then 0 else 15) = k) : Calls Tryz.prog 176 #[strV l] W fun e w' => e = .returned (.tuple #[strV l, intV k]) ∧ Fr W w' (fun _ => False) := by
  obtain ⟨b, hb⟩ : ∃ b, (decide (1 ≤ l.length) && decide ((l.length : Int) ≤ 20)) = b := ⟨_, rfl⟩
  obtain ⟨t, ht⟩ : ∃ t, withoutD slotW l = t := ⟨_, rfl⟩
  obtain ⟨a, ha⟩ : ∃ a, t.all signB = a := ⟨_, rfl⟩
  have htl : t.length ≤ 100000 := by rw [← ht]; exact Nat.le_trans (without_len l slotW) hl
  have HB := Lib.hid (fun W => fits_any l 20 W b hb)
  have HT := Lib.hid (without_any l hl W hw t ht)
  have HA := Lib.hid (fun W => conF_any ⟨t.toArray⟩ W (by rw [str_size]; omega) a ha)
  have HU := Lib.hid (fun W => unless_any (b && a) 15 W)
  rw [show (if (b && a) = true then (0 : Int) else 15) = k by
    rw [← h, format_eq, ← hb, ht, ha]
    congr 1
    by_cases h1 : 1 ≤ l.length
    · by_cases h2 : l.length ≤ 20
      · simp [h1, h2, show (l.length : Int) ≤ 20 by omega]
      · simp [h2, show ¬ (l.length : Int) ≤ 20 by omega]
    · simp [h1]] at HU
  clear h hb ha ht hw
  cases b with
  | false =>
    clear HA HT
    go_enter Tryz.func176, Tryz.ntmps176
    go_wp2_with fail
    refine (HB.out _).mono ?_
    rintro e w2 ⟨rfl, rfl⟩
    go_wp2_with fail
    refine (HU.out _).mono ?_
    rintro e w3 ⟨rfl, rfl⟩
    go_wp2_with fail
    go_ret2
    exact ⟨rfl, Fr.refl _ _⟩
  | true =>
    rw [Bool.true_and] at HU
    go_enter Tryz.func176, Tryz.ntmps176
    go_wp2_with fail
    refine (HB.out _).mono ?_
    rintro e w2 ⟨rfl, rfl⟩
    go_wp2_with fail
    refine HT.out.mono ?_
    rintro e w2 ⟨rfl, hf2⟩
    have HF2 := Lib.hid hf2
    clear hf2
    go_wp2_with fail
    refine (HA.out _).mono ?_
    rintro e w4 ⟨rfl, rfl⟩
    go_wp2_with fail
    refine (HU.out _).mono ?_
    rintro e w3 ⟨rfl, rfl⟩
    go_wp2_with fail
    go_ret2
    exact ⟨rfl, HF2.out⟩
theorem rruleTo_any (l : Bs) (hl : l.length ≤ 100000) (r : RuleL) (q : Nat) (W : World) (hw : LOk W) (hb : Blk W q 65 (ruleC r)) (y k : Int) (h : toV l r.fr = (y, k)) : Calls Tryz.prog 162 #[strV l, .pointer (some ⟨q, 0, none⟩)] W fun e w' => e = .returned (.tuple #[intV y, intV k]) ∧ Fr W w' (fun _ => False) := by
  have HC := Lib.hid (to_any l r.fr hl W hw y k h)
  have c1 := blk_cell hb 1 (intV r.fr) rfl
  clear hw hb h
  go_enter Tryz.func162, Tryz.ntmps162
  go_wp2_with fail
  refine HC.out.mono ?_
  rintro e w2 ⟨rfl, hf2⟩
  have HF2 := Lib.hid hf2
  clear hf2
  go_wp2_with fail
  go_ret2
  exact ⟨rfl, HF2.out⟩
end Go.Proofs.YtodcnbejnchmhaaGreatDoor
