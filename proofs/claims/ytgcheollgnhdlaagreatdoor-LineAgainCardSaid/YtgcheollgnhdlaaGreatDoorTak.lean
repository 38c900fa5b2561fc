import Derived.Test.YtgcheollgnhdlaaGreatDoorSgn
import Derived.Test.YtgcheollgnhdlaaGreatDoorPut
import Derived.Test.YtgcheollgnhdlaaGreatDoorFac
namespace Go.Proofs.YtgcheollgnhdlaaGreatDoor
open Go.RowKit Go.Mem Go.Lin

def cellsP (x : FPair) : List Value := [strV x.1, intV (x.2 : Int)]
/-- the reader in block b has these fields still to read; they lie in block g -/
def LeftAt (w : World) (b g : Nat) (fs : List FPair) : Prop :=
  ∃ A c, Blk w b 65 #[.slice A fs.length c] ∧ Rd w 2 A fs.length (fs.flatMap cellsP) ∧ fs.length ≤ c ∧ (∀ b' off, A = some ⟨b', off, none⟩ → 0 < fs.length → b' = g)
theorem LeftAt.fr {w w' : World} {b g : Nat} {fs : List FPair} {S : Nat → Prop} (h : LeftAt w b g fs) (hf : Fr w w' S) (hb : ¬ S b) (hg : ¬ S g) : LeftAt w' b g fs := by
  obtain ⟨A, c, h1, h2, h3, h4⟩ := h
  exact ⟨A, c, hf.blk h1 hb, h2.fr hf (fun b' off e hn hs => hg (h4 b' off e hn ▸ hs)), h3, h4⟩
theorem LeftAt.lt {w : World} {b g : Nat} {fs : List FPair} (h : LeftAt w b g fs) : b < w.heap.size := by
  obtain ⟨A, c, h1, h2, h3, h4⟩ := h
  exact h1.lt
theorem LeftAt.open {w : World} {b g : Nat} {x : FPair} {r : List FPair} (h : LeftAt w b g (x :: r)) :
    ∃ off c, Blk w b 65 #[.slice (some ⟨g, off, none⟩) (r.length + 1) c] ∧ r.length + 1 ≤ c ∧ w.cell? ⟨g, off, none⟩ = some (strV x.1) ∧ w.cell? ⟨g, off + 1, none⟩ = some (intV (x.2 : Int)) ∧
      ∀ (W : World) (S : Nat → Prop), Fr w W S → ¬ S g → Blk W b 65 #[.slice (Mem.cutA (some ⟨g, off, none⟩) c 1 2) r.length (c - 1)] → LeftAt W b g r := by
  obtain ⟨A, c, h1, h2, h3, h4⟩ := h
  obtain ⟨b', off, rfl, hc⟩ := h2.2 (by simp)
  obtain rfl := h4 b' off rfl (by simp)
  refine ⟨off, c, h1, by simpa using h3, hc 0 _ rfl, hc 1 _ rfl, fun W S hf hS hB => ?_⟩
  have hl : r.length + 1 ≤ c := by simpa using h3
  have hcut := h2.cutA (lo := 1) (hi := r.length + 1) (cap := c) (by omega) (by simp) (by simpa using h3)
  have hx : (((x :: r).flatMap cellsP).drop (1 * 2)).take ((r.length + 1 - 1) * 2) = r.flatMap cellsP := by
    rw [List.flatMap_cons]
    have hlen : ∀ l : List FPair, (l.flatMap cellsP).length = l.length * 2 := by
      intro l
      induction l with
      | nil => rfl
      | cons y l ih => rw [List.flatMap_cons, List.length_append, ih]; simp [cellsP]; omega
    show ((cellsP x ++ r.flatMap cellsP).drop 2).take _ = _
    rw [List.drop_append_of_le_length (by simp [cellsP])]
    show (([] : List Value) ++ r.flatMap cellsP).take _ = _
    rw [List.nil_append, List.take_of_length_le (by rw [hlen]; omega)]
  rw [hx, show r.length + 1 - 1 = r.length by omega] at hcut
  refine ⟨_, _, hB, hcut.fr hf (fun b2 o2 e hn hs => hS ?_), by omega, fun b2 o2 e hn => ?_⟩
  · unfold Mem.cutA at e
    rw [if_neg (by omega)] at e
    injection e with e
    simp [Addr.add] at e
    rw [← e.1] at hs
    exact hs
  · unfold Mem.cutA at e
    rw [if_neg (by omega)] at e
    injection e with e
    simp [Addr.add] at e
    exact e.1.symm
theorem fr_put0 {a c : World} (h : Fr a c (fun _ => False)) (b i : Nat) (v : Value) : Fr a (c.setCell ⟨b, i, none⟩ v) (· = b) := h.trans (Fr.set (S := (· = b)) rfl) (fun _ _ h => h.elim) (fun _ _ h => h)
/-- the panic with a wrong line -/
abbrev Raised (x : LineL) : Ending := .panicked [{ v := .iface 34 (lineV x), recovered := false }]
theorem fr_more {a b c : World} {S T : Nat → Prop} (h : Fr a b S) (k : Fr b c T) (hT : ∀ i, T i → a.heap.size ≤ i) : Fr a c S := h.trans k (fun _ _ x => x) (fun i hi x => absurd (hT i x) (by omega))
theorem res_fault {w : World} {g : Nat} {x : LineL} (hb : Blk w g 34 (lineC x)) (tmps : Array Value) (hp : tmps.getD 4 undef = .pointer (some ⟨g, 0, none⟩)) : (results Tryz.f16 tmps).run Tryz.prog w = .ok (.agg (lineC x)) w :=
  results_cell_row (P := Tryz.prog) (fn := Tryz.f16) (p := 4) (ty := 34) rfl tmps _ g 34 (lineC x) (0, 0) _ hp hb Tryz.underlying34 rfl (infoL x)
set_option maxRecDepth 100000 in
set_option maxHeartbeats 1600000 in
theorem fault_any (k c : Int) (w : World) : Calls Tryz.prog 16 #[intV k, intV c] w fun e w' => e = .returned (lineV (wrongL k c)) ∧ Fr w w' (fun _ => False) := by
  go_enter Tryz.func16, Tryz.ntmps16
  go_wp2_with (refine wpList_store_blk 34 _ _ w.heap.size 0 34 (lineC lineZ) (lineC (wrongL k c)) (lineC (wrongL k c)) (by rfl) rfl rfl rfl rfl (Blk.made w 34 (lineC lineZ)) (infoL _) (lineC_one _) (show 0 + 29 ≤ 29 by decide) (put_line _ _) ?_
               intro w3 hf3 hb3
               have HF3 := Lib.hid ((Fr.new w _ (fun _ => False)).fresh hf3 (fun i e => by omega))
               have HB3 := Lib.hid hb3
               clear hf3 hb3)
  (try simp only [Exit.inBlock, Exit.then])
  exact bodyPost_ret (res_fault HB3.out _ rfl) rfl ⟨rfl, HF3.out⟩
theorem blk_cell {w : World} {g : Nat} {t : TypeId} {cs : Array Value} (h : Blk w g t cs) (i : Nat) (v : Value) (hv : cs[i]? = some v) : w.cell? ⟨g, i, none⟩ = some v := (cell_at h i).trans hv
theorem blk_size {w : World} {g : Nat} {t : TypeId} {cs : Array Value} (h : Blk w g t cs) : g < w.heap.size := h.lt
set_option maxRecDepth 100000 in
set_option maxHeartbeats 1600000 in
theorem takeI_ok (F : FuncId) (hF : ∀ args w, (callFunc F args).run Tryz.prog w = .ok (.enter F args) w) (caps : Array Value) (w : World) (b g : Nat) (x : FPair) (r : List FPair) (h : LeftAt w b g (x :: r)) (hbg : g ≠ b) (v : Int)
    (hT : ∀ W, Fr w W (fun _ => False) → Calls Tryz.prog F (#[strV x.1] ++ caps) W fun e w' => e = .returned (.tuple #[intV v, intV 0]) ∧ Fr W w' (fun _ => False)) :
    Calls Tryz.prog 62 #[.pointer (some ⟨b, 0, none⟩), .func (.func F) #[] caps] w fun e w' => e = .returned (intV v) ∧ LeftAt w' b g r ∧ Fr w w' (· = b) := by
  obtain ⟨off, c, hb, hc, c0, c1, hL⟩ := h.open
  have d0 := cell_at hb 0
  simp at d0
  have HT := Lib.hid hT
  have HL := Lib.hid hL
  have HB := Lib.hid hb
  clear hT hL hb h
  go_enter Tryz.func62, Tryz.ntmps62
  go_wp2_with fail
  refine (HT.out _ (Fr.new w _ _)).mono ?_
  rintro e w2 ⟨rfl, hf2⟩
  have HF2 := Lib.hid (ff (Fr.new w _ _) hf2)
  have HB2 := Lib.hid (HF2.out.blk HB.out (fun h => h))
  have d2 := cell_at HB2.out 0
  have f2 := free_at HB2.out 0
  simp at d2
  have l1 : (1 : Int) ≤ (r.length + 1 : Int) := by omega
  have l2 : (r.length + 1 : Int) ≤ (c : Int) := by omega
  clear hf2 HT
  go_wp2_with fail
  case inl =>
    subst h
    go_ret
    have hf3 := fr_put0 HF2.out b 0 (.slice (some ⟨g, off, none⟩) r.length 0)
    exact ⟨rfl, HL.out _ _ hf3 hbg (HB2.out.put' (cs' := #[.slice (some ⟨g, off, none⟩) r.length 0]) 0 _ (by simp)), hf3⟩
  case inr =>
    go_ret
    have hf3 := fr_put0 HF2.out b 0 (.slice (some ⟨g, off + 2, none⟩) r.length (c - 1))
    have hcut : Mem.cutA (some ⟨g, off, none⟩) c 1 2 = some ⟨g, off + 2, none⟩ := by
      unfold Mem.cutA
      rw [if_neg h]
      rfl
    rw [hcut] at HL
    exact ⟨rfl, HL.out _ _ hf3 hbg (HB2.out.put' (cs' := #[.slice (some ⟨g, off + 2, none⟩) r.length (c - 1)]) 0 _ (by simp)), hf3⟩
set_option maxRecDepth 100000 in
set_option maxHeartbeats 1600000 in
theorem takeI_no (F : FuncId) (hF : ∀ args w, (callFunc F args).run Tryz.prog w = .ok (.enter F args) w) (caps : Array Value) (w : World) (b g : Nat) (x : FPair) (r : List FPair) (h : LeftAt w b g (x :: r)) (v : Int) (k : Int) (hk : k ≠ 0)
    (hT : ∀ W, Fr w W (fun _ => False) → Calls Tryz.prog F (#[strV x.1] ++ caps) W fun e w' => e = .returned (.tuple #[intV v, intV k]) ∧ Fr W w' (fun _ => False)) :
    Calls Tryz.prog 62 #[.pointer (some ⟨b, 0, none⟩), .func (.func F) #[] caps] w fun e w' => e = Raised (wrongL k (x.2 : Int)) ∧ Fr w w' (fun _ => False) := by
  obtain ⟨off, c, hb, hc, c0, c1, hL⟩ := h.open
  have d0 := cell_at hb 0
  simp at d0
  have HT := Lib.hid hT
  have hk0 : (k == 0) = false := by simpa using hk
  clear hT hL hb h hk
  go_enter Tryz.func62, Tryz.ntmps62
  go_wp2_with fail
  refine (HT.out _ (Fr.new w _ _)).mono ?_
  rintro e w2 ⟨rfl, hf2⟩
  have HF2 := Lib.hid (ff (Fr.new w _ _) hf2)
  have e1 := blk_cell (hf2.blk (Blk.made w 46 #[strV x.1, intV (x.2 : Int)]) (fun h => h)) 1 _ rfl
  clear hf2 HT
  go_wp2_with fail
  refine (fault_any _ _ _).mono ?_
  rintro e w3 ⟨rfl, hf3⟩
  have HF3 := Lib.hid (ff HF2.out hf3)
  clear hf3
  go_wp2_with fail
  exact ⟨rfl, rfl, HF3.out⟩
set_option maxRecDepth 100000 in
set_option maxHeartbeats 1600000 in
theorem takeS_ok (F : FuncId) (hF : ∀ args w, (callFunc F args).run Tryz.prog w = .ok (.enter F args) w) (caps : Array Value) (w : World) (b g : Nat) (x : FPair) (r : List FPair) (h : LeftAt w b g (x :: r)) (hbg : g ≠ b) (v : Bs)
    (hT : ∀ W, Fr w W (fun _ => False) → Calls Tryz.prog F (#[strV x.1] ++ caps) W fun e w' => e = .returned (.tuple #[strV v, intV 0]) ∧ Fr W w' (fun _ => False)) :
    Calls Tryz.prog 46 #[.pointer (some ⟨b, 0, none⟩), .func (.func F) #[] caps] w fun e w' => e = .returned (strV v) ∧ LeftAt w' b g r ∧ Fr w w' (· = b) := by
  obtain ⟨off, c, hb, hc, c0, c1, hL⟩ := h.open
  have d0 := cell_at hb 0
  simp at d0
  have HT := Lib.hid hT
  have HL := Lib.hid hL
  have HB := Lib.hid hb
  clear hT hL hb h
  go_enter Tryz.func46, Tryz.ntmps46
  go_wp2_with fail
  refine (HT.out _ (Fr.new w _ _)).mono ?_
  rintro e w2 ⟨rfl, hf2⟩
  have HF2 := Lib.hid (ff (Fr.new w _ _) hf2)
  have HB2 := Lib.hid (HF2.out.blk HB.out (fun h => h))
  have d2 := cell_at HB2.out 0
  have f2 := free_at HB2.out 0
  simp at d2
  have l1 : (1 : Int) ≤ (r.length + 1 : Int) := by omega
  have l2 : (r.length + 1 : Int) ≤ (c : Int) := by omega
  clear hf2 HT
  go_wp2_with fail
  case inl =>
    subst h
    go_ret
    have hf3 := fr_put0 HF2.out b 0 (.slice (some ⟨g, off, none⟩) r.length 0)
    exact ⟨rfl, HL.out _ _ hf3 hbg (HB2.out.put' (cs' := #[.slice (some ⟨g, off, none⟩) r.length 0]) 0 _ (by simp)), hf3⟩
  case inr =>
    go_ret
    have hf3 := fr_put0 HF2.out b 0 (.slice (some ⟨g, off + 2, none⟩) r.length (c - 1))
    have hcut : Mem.cutA (some ⟨g, off, none⟩) c 1 2 = some ⟨g, off + 2, none⟩ := by
      unfold Mem.cutA
      rw [if_neg h]
      rfl
    rw [hcut] at HL
    exact ⟨rfl, HL.out _ _ hf3 hbg (HB2.out.put' (cs' := #[.slice (some ⟨g, off + 2, none⟩) r.length (c - 1)]) 0 _ (by simp)), hf3⟩
set_option maxRecDepth 100000 in
set_option maxHeartbeats 1600000 in
theorem takeS_no (F : FuncId) (hF : ∀ args w, (callFunc F args).run Tryz.prog w = .ok (.enter F args) w) (caps : Array Value) (w : World) (b g : Nat) (x : FPair) (r : List FPair) (h : LeftAt w b g (x :: r)) (v : Bs) (k : Int) (hk : k ≠ 0)
    (hT : ∀ W, Fr w W (fun _ => False) → Calls Tryz.prog F (#[strV x.1] ++ caps) W fun e w' => e = .returned (.tuple #[strV v, intV k]) ∧ Fr W w' (fun _ => False)) :
    Calls Tryz.prog 46 #[.pointer (some ⟨b, 0, none⟩), .func (.func F) #[] caps] w fun e w' => e = Raised (wrongL k (x.2 : Int)) ∧ Fr w w' (fun _ => False) := by
  obtain ⟨off, c, hb, hc, c0, c1, hL⟩ := h.open
  have d0 := cell_at hb 0
  simp at d0
  have HT := Lib.hid hT
  have hk0 : (k == 0) = false := by simpa using hk
  clear hT hL hb h hk
  go_enter Tryz.func46, Tryz.ntmps46
  go_wp2_with fail
  refine (HT.out _ (Fr.new w _ _)).mono ?_
  rintro e w2 ⟨rfl, hf2⟩
  have HF2 := Lib.hid (ff (Fr.new w _ _) hf2)
  have e1 := blk_cell (hf2.blk (Blk.made w 46 #[strV x.1, intV (x.2 : Int)]) (fun h => h)) 1 _ rfl
  clear hf2 HT
  go_wp2_with fail
  refine (fault_any _ _ _).mono ?_
  rintro e w3 ⟨rfl, hf3⟩
  have HF3 := Lib.hid (ff HF2.out hf3)
  clear hf3
  go_wp2_with fail
  exact ⟨rfl, rfl, HF3.out⟩
theorem res_takeD {w : World} {q : Nat} {v : DayL} (hb : Blk w q 23 (dayC v)) (tmps : Array Value) (hp : tmps.getD 4 undef = .pointer (some ⟨q, 0, none⟩)) : (results Tryz.f68 tmps).run Tryz.prog w = .ok (.agg (dayC v)) w :=
  results_cell_row (P := Tryz.prog) (fn := Tryz.f68) (p := 4) (ty := 23) rfl tmps _ q 23 (dayC v) (0, 0) _ hp hb Tryz.underlying23 rfl (infoD v)
set_option maxRecDepth 100000 in
set_option maxHeartbeats 3200000 in
theorem takeD_no (F : FuncId) (hF : ∀ args w, (callFunc F args).run Tryz.prog w = .ok (.enter F args) w) (caps : Array Value) (w : World) (b g : Nat) (x : FPair) (r : List FPair) (h : LeftAt w b g (x :: r)) (v : DayL) (k : Int) (hk : k ≠ 0)
    (hT : ∀ W, Fr w W (fun _ => False) → Calls Tryz.prog F (#[strV x.1] ++ caps) W fun e w' => e = .returned (.tuple #[.agg (dayC v), intV k]) ∧ Fr W w' (fun _ => False)) :
    Calls Tryz.prog 68 #[.pointer (some ⟨b, 0, none⟩), .func (.func F) #[] caps] w fun e w' => e = Raised (wrongL k (x.2 : Int)) ∧ Fr w w' (fun _ => False) := by
  have hf0 := Fr.new w (.cells #[intV 0, intV 0, intV 0] 23) (fun _ => False)
  have hsz : (w.alloc (.cells #[intV 0, intV 0, intV 0] 23)).heap.size = w.heap.size + 1 := by simp
  obtain ⟨off, c, hb, hc, c0, c1, hL⟩ := (h.fr hf0 (fun h => h) (fun h => h)).open
  have d0 := cell_at hb 0
  simp at d0
  have HT := Lib.hid hT
  have hk0 : (k == 0) = false := by simpa using hk
  clear hT hL hb h hk hf0
  go_enter Tryz.func68, Tryz.ntmps68
  go_wp2_with fail
  refine (HT.out _ (ff (Fr.new w (.cells #[intV 0, intV 0, intV 0] 23) _) (Fr.new _ _ _))).mono ?_
  rintro e w2 ⟨rfl, hf2⟩
  have HF2 := Lib.hid (ff (ff (Fr.new w (.cells #[intV 0, intV 0, intV 0] 23) _) (Fr.new _ _ _)) hf2)
  have hE := hf2.blk (Blk.made (w.alloc (.cells #[intV 0, intV 0, intV 0] 23)) 46 #[strV x.1, intV (x.2 : Int)]) (fun h => h)
  rw [hsz] at hE
  have HE := Lib.hid hE
  clear hf2 HT hE
  go_wp2_with (
        refine wpList_store_blk 23 _ _ w2.heap.size 0 23 (dayC dayZ) (dayC v) (dayC v) (by rfl) rfl rfl rfl rfl (Blk.made w2 23 (dayC dayZ)) (infoD _) (dayC_one _) (show 0 + 3 ≤ 3 by decide) (put_all rfl) ?_
        intro w3 hf3 hb3
        have hf23 := (Fr.new w2 (.cells (dayC dayZ) 23) (fun _ => False)).fresh hf3 (fun i e => by omega)
        have HF3 := Lib.hid (ff HF2.out hf23)
        have e1 := blk_cell (hf23.blk HE.out (fun h => h)) 1 _ rfl
        clear hf3 hb3 hf23)
  refine (fault_any _ _ _).mono ?_
  rintro e w4 ⟨rfl, hf4⟩
  have HF4 := Lib.hid (ff HF3.out hf4)
  clear hf4
  go_wp2_with fail
  exact ⟨rfl, rfl, HF4.out⟩
set_option maxRecDepth 100000 in
set_option maxHeartbeats 3200000 in
theorem takeD_ok (F : FuncId) (hF : ∀ args w, (callFunc F args).run Tryz.prog w = .ok (.enter F args) w) (caps : Array Value) (w : World) (b g : Nat) (x : FPair) (r : List FPair) (h : LeftAt w b g (x :: r)) (hbg : g ≠ b) (v : DayL)
    (hT : ∀ W, Fr w W (fun _ => False) → Calls Tryz.prog F (#[strV x.1] ++ caps) W fun e w' => e = .returned (.tuple #[.agg (dayC v), intV 0]) ∧ Fr W w' (fun _ => False)) :
    Calls Tryz.prog 68 #[.pointer (some ⟨b, 0, none⟩), .func (.func F) #[] caps] w fun e w' => e = .returned (.agg (dayC v)) ∧ LeftAt w' b g r ∧ Fr w w' (· = b) := by
  have hf0 := Fr.new w (.cells #[intV 0, intV 0, intV 0] 23) (fun _ => False)
  have hsz : (w.alloc (.cells #[intV 0, intV 0, intV 0] 23)).heap.size = w.heap.size + 1 := by simp
  have hbs := h.lt
  obtain ⟨_, _, _, _, cg, _, _⟩ := h.open
  have hgs := World.block_lt_of_cell? w _ cg
  obtain ⟨off, c, hb, hc, c0, c1, hL⟩ := (h.fr hf0 (fun h => h) (fun h => h)).open
  have d0 := cell_at hb 0
  simp at d0
  have HT := Lib.hid hT
  have HL := Lib.hid hL
  have HB := Lib.hid hb
  have HZ := Lib.hid (show Blk (w.alloc (.cells #[intV 0, intV 0, intV 0] 23)) w.heap.size 23 (dayC dayZ) from Blk.made w 23 #[intV 0, intV 0, intV 0])
  have HF0 := Lib.hid hf0
  clear hT hL hb h hf0 cg
  have l1 : (1 : Int) ≤ (r.length + 1 : Int) := by omega
  have l2 : (r.length + 1 : Int) ≤ (c : Int) := by omega
  go_enter Tryz.func68, Tryz.ntmps68
  go_wp2_with fail
  refine (HT.out _ (ff (Fr.new w (.cells #[intV 0, intV 0, intV 0] 23) _) (Fr.new _ _ _))).mono ?_
  rintro e w2 ⟨rfl, hf2⟩
  have hs2 := hf2.size
  simp at hs2
  have HF2 := Lib.hid (ff (Fr.new _ _ _) hf2)
  clear hf2 HT
  go_wp2_with (first
      | (
        refine wpList_store_blk 23 _ _ w2.heap.size 0 23 (dayC dayZ) (dayC v) (dayC v) (by rfl) rfl rfl rfl rfl (Blk.made w2 23 (dayC dayZ)) (infoD _) (dayC_one _) (show 0 + 3 ≤ 3 by decide) (put_all rfl) ?_
        intro w3 hf3 hb3
        have hf23 := (Fr.new w2 (.cells (dayC dayZ) 23) (fun _ => False)).fresh hf3 (fun i e => by omega)
        have HF3 := Lib.hid (ff HF2.out hf23)
        have HZ3 := Lib.hid (HF3.out.blk HZ.out (fun h => h))
        have HB3 := Lib.hid (HF3.out.blk HB.out (fun h => h))
        have HV3 := Lib.hid hb3
        have d3 := blk_cell HB3.out 0 _ rfl
        have hs3 := hf3.size
        simp at hs3
        clear hf3 hb3 hf23)
      | (
        refine wpList_store_cell 41 _ _ b 0 65 _ #[.slice (if c = 1 then some ⟨g, off, none⟩ else some ⟨g, off + 2, none⟩) r.length (c - 1)] (.slice (if c = 1 then some ⟨g, off, none⟩ else some ⟨g, off + 2, none⟩) r.length (c - 1)) (by rfl) rfl rfl rfl rfl HB3.out info_fields (by rfl) (show 0 < 1 by decide) rfl ?_
        intro w4 hf4 hb4
        have HF4 := Lib.hid hf4
        have HB4 := Lib.hid hb4
        have HV4 := Lib.hid (hf4.blk HV3.out (by omega))
        have HZ4 := Lib.hid (hf4.blk HZ3.out (by omega))
        clear hf4 hb4)
      | (refine wpList_load_blk 23 _ w2.heap.size 0 23 (dayC v) (dayC v) _ (by rfl) rfl rfl HV4.out Tryz.underlying23 rfl (infoD _) (zero_part _) ?_)
      | (
        refine wpList_store_blk 23 _ _ w.heap.size 0 23 (dayC dayZ) (dayC v) (dayC v) (by rfl) rfl rfl rfl rfl HZ4.out (infoD _) (dayC_one _) (show 0 + 3 ≤ 3 by decide) (put_all rfl) ?_
        intro w5 hf5 hb5
        have HF5 := Lib.hid hf5
        have HB5 := Lib.hid hb5
        clear hf5 hb5))
  all_goals
    (try simp only [Exit.inBlock, Exit.then])
    have hf04 : Fr (w.alloc (.cells #[intV 0, intV 0, intV 0] 23)) w4 (· = b) := HF3.out.trans HF4.out (fun _ _ h => h.elim) (fun _ _ h => h)
    have hcut : Mem.cutA (some ⟨g, off, none⟩) c 1 2 = if c = 1 then some ⟨g, off, none⟩ else some ⟨g, off + 2, none⟩ := rfl
    rw [hcut] at HL
    have hL4 := HL.out _ _ hf04 hbg HB4.out
    have hA4 : Fr w w4 (· = b) := HF0.out.trans hf04 (fun _ _ h => h.elim) (fun _ _ h => h)
    have hA5 : Fr w w5 (· = b) := fr_more hA4 HF5.out (fun i e => by omega)
    exact bodyPost_ret (res_takeD HB5.out _ rfl) rfl ⟨rfl, hL4.fr HF5.out (by omega) (by omega), hA5⟩
theorem res_takeA {w : World} {q : Nat} {v : AtL} (hb : Blk w q 25 (atC v)) (tmps : Array Value) (hp : tmps.getD 4 undef = .pointer (some ⟨q, 0, none⟩)) : (results Tryz.f70 tmps).run Tryz.prog w = .ok (.agg (atC v)) w :=
  results_cell_row (P := Tryz.prog) (fn := Tryz.f70) (p := 4) (ty := 25) rfl tmps _ q 25 (atC v) (0, 0) _ hp hb Tryz.underlying25 rfl (infoA v)
set_option maxRecDepth 100000 in
set_option maxHeartbeats 3200000 in
theorem takeA_no (F : FuncId) (hF : ∀ args w, (callFunc F args).run Tryz.prog w = .ok (.enter F args) w) (caps : Array Value) (w : World) (b g : Nat) (x : FPair) (r : List FPair) (h : LeftAt w b g (x :: r)) (v : AtL) (k : Int) (hk : k ≠ 0)
    (hT : ∀ W, Fr w W (fun _ => False) → Calls Tryz.prog F (#[strV x.1] ++ caps) W fun e w' => e = .returned (.tuple #[.agg (atC v), intV k]) ∧ Fr W w' (fun _ => False)) :
    Calls Tryz.prog 70 #[.pointer (some ⟨b, 0, none⟩), .func (.func F) #[] caps] w fun e w' => e = Raised (wrongL k (x.2 : Int)) ∧ Fr w w' (fun _ => False) := by
  have hf0 := Fr.new w (.cells #[intV 0, intV 0] 25) (fun _ => False)
  have hsz : (w.alloc (.cells #[intV 0, intV 0] 25)).heap.size = w.heap.size + 1 := by simp
  obtain ⟨off, c, hb, hc, c0, c1, hL⟩ := (h.fr hf0 (fun h => h) (fun h => h)).open
  have d0 := cell_at hb 0
  simp at d0
  have HT := Lib.hid hT
  have hk0 : (k == 0) = false := by simpa using hk
  clear hT hL hb h hk hf0
  go_enter Tryz.func70, Tryz.ntmps70
  go_wp2_with fail
  refine (HT.out _ (ff (Fr.new w (.cells #[intV 0, intV 0] 25) _) (Fr.new _ _ _))).mono ?_
  rintro e w2 ⟨rfl, hf2⟩
  have HF2 := Lib.hid (ff (ff (Fr.new w (.cells #[intV 0, intV 0] 25) _) (Fr.new _ _ _)) hf2)
  have hE := hf2.blk (Blk.made (w.alloc (.cells #[intV 0, intV 0] 25)) 46 #[strV x.1, intV (x.2 : Int)]) (fun h => h)
  rw [hsz] at hE
  have HE := Lib.hid hE
  clear hf2 HT hE
  go_wp2_with (
        refine wpList_store_blk 25 _ _ w2.heap.size 0 25 (atC atZ) (atC v) (atC v) (by rfl) rfl rfl rfl rfl (Blk.made w2 25 (atC atZ)) (infoA _) (atC_one _) (show 0 + 2 ≤ 2 by decide) (put_all rfl) ?_
        intro w3 hf3 hb3
        have hf23 := (Fr.new w2 (.cells (atC atZ) 25) (fun _ => False)).fresh hf3 (fun i e => by omega)
        have HF3 := Lib.hid (ff HF2.out hf23)
        have e1 := blk_cell (hf23.blk HE.out (fun h => h)) 1 _ rfl
        clear hf3 hb3 hf23)
  refine (fault_any _ _ _).mono ?_
  rintro e w4 ⟨rfl, hf4⟩
  have HF4 := Lib.hid (ff HF3.out hf4)
  clear hf4
  go_wp2_with fail
  exact ⟨rfl, rfl, HF4.out⟩
set_option maxRecDepth 100000 in
set_option maxHeartbeats 3200000 in
theorem takeA_ok (F : FuncId) (hF : ∀ args w, (callFunc F args).run Tryz.prog w = .ok (.enter F args) w) (caps : Array Value) (w : World) (b g : Nat) (x : FPair) (r : List FPair) (h : LeftAt w b g (x :: r)) (hbg : g ≠ b) (v : AtL)
    (hT : ∀ W, Fr w W (fun _ => False) → Calls Tryz.prog F (#[strV x.1] ++ caps) W fun e w' => e = .returned (.tuple #[.agg (atC v), intV 0]) ∧ Fr W w' (fun _ => False)) :
    Calls Tryz.prog 70 #[.pointer (some ⟨b, 0, none⟩), .func (.func F) #[] caps] w fun e w' => e = .returned (.agg (atC v)) ∧ LeftAt w' b g r ∧ Fr w w' (· = b) := by
  have hf0 := Fr.new w (.cells #[intV 0, intV 0] 25) (fun _ => False)
  have hsz : (w.alloc (.cells #[intV 0, intV 0] 25)).heap.size = w.heap.size + 1 := by simp
  have hbs := h.lt
  obtain ⟨_, _, _, _, cg, _, _⟩ := h.open
  have hgs := World.block_lt_of_cell? w _ cg
  obtain ⟨off, c, hb, hc, c0, c1, hL⟩ := (h.fr hf0 (fun h => h) (fun h => h)).open
  have d0 := cell_at hb 0
  simp at d0
  have HT := Lib.hid hT
  have HL := Lib.hid hL
  have HB := Lib.hid hb
  have HZ := Lib.hid (show Blk (w.alloc (.cells #[intV 0, intV 0] 25)) w.heap.size 25 (atC atZ) from Blk.made w 25 #[intV 0, intV 0])
  have HF0 := Lib.hid hf0
  clear hT hL hb h hf0 cg
  have l1 : (1 : Int) ≤ (r.length + 1 : Int) := by omega
  have l2 : (r.length + 1 : Int) ≤ (c : Int) := by omega
  go_enter Tryz.func70, Tryz.ntmps70
  go_wp2_with fail
  refine (HT.out _ (ff (Fr.new w (.cells #[intV 0, intV 0] 25) _) (Fr.new _ _ _))).mono ?_
  rintro e w2 ⟨rfl, hf2⟩
  have hs2 := hf2.size
  simp at hs2
  have HF2 := Lib.hid (ff (Fr.new _ _ _) hf2)
  clear hf2 HT
  go_wp2_with (first
      | (
        refine wpList_store_blk 25 _ _ w2.heap.size 0 25 (atC atZ) (atC v) (atC v) (by rfl) rfl rfl rfl rfl (Blk.made w2 25 (atC atZ)) (infoA _) (atC_one _) (show 0 + 2 ≤ 2 by decide) (put_all rfl) ?_
        intro w3 hf3 hb3
        have hf23 := (Fr.new w2 (.cells (atC atZ) 25) (fun _ => False)).fresh hf3 (fun i e => by omega)
        have HF3 := Lib.hid (ff HF2.out hf23)
        have HZ3 := Lib.hid (HF3.out.blk HZ.out (fun h => h))
        have HB3 := Lib.hid (HF3.out.blk HB.out (fun h => h))
        have HV3 := Lib.hid hb3
        have d3 := blk_cell HB3.out 0 _ rfl
        have hs3 := hf3.size
        simp at hs3
        clear hf3 hb3 hf23)
      | (
        refine wpList_store_cell 41 _ _ b 0 65 _ #[.slice (if c = 1 then some ⟨g, off, none⟩ else some ⟨g, off + 2, none⟩) r.length (c - 1)] (.slice (if c = 1 then some ⟨g, off, none⟩ else some ⟨g, off + 2, none⟩) r.length (c - 1)) (by rfl) rfl rfl rfl rfl HB3.out info_fields (by rfl) (show 0 < 1 by decide) rfl ?_
        intro w4 hf4 hb4
        have HF4 := Lib.hid hf4
        have HB4 := Lib.hid hb4
        have HV4 := Lib.hid (hf4.blk HV3.out (by omega))
        have HZ4 := Lib.hid (hf4.blk HZ3.out (by omega))
        clear hf4 hb4)
      | (refine wpList_load_blk 25 _ w2.heap.size 0 25 (atC v) (atC v) _ (by rfl) rfl rfl HV4.out Tryz.underlying25 rfl (infoA _) (zero_part _) ?_)
      | (
        refine wpList_store_blk 25 _ _ w.heap.size 0 25 (atC atZ) (atC v) (atC v) (by rfl) rfl rfl rfl rfl HZ4.out (infoA _) (atC_one _) (show 0 + 2 ≤ 2 by decide) (put_all rfl) ?_
        intro w5 hf5 hb5
        have HF5 := Lib.hid hf5
        have HB5 := Lib.hid hb5
        clear hf5 hb5))
  all_goals
    (try simp only [Exit.inBlock, Exit.then])
    have hf04 : Fr (w.alloc (.cells #[intV 0, intV 0] 25)) w4 (· = b) := HF3.out.trans HF4.out (fun _ _ h => h.elim) (fun _ _ h => h)
    have hcut : Mem.cutA (some ⟨g, off, none⟩) c 1 2 = if c = 1 then some ⟨g, off, none⟩ else some ⟨g, off + 2, none⟩ := rfl
    rw [hcut] at HL
    have hL4 := HL.out _ _ hf04 hbg HB4.out
    have hA4 : Fr w w4 (· = b) := HF0.out.trans hf04 (fun _ _ h => h.elim) (fun _ _ h => h)
    have hA5 : Fr w w5 (· = b) := fr_more hA4 HF5.out (fun i e => by omega)
    exact bodyPost_ret (res_takeA HB5.out _ rfl) rfl ⟨rfl, hL4.fr HF5.out (by omega) (by omega), hA5⟩
theorem res_takeE {w : World} {q : Nat} {v : EraL} (hb : Blk w q 31 (eraC v)) (tmps : Array Value) (hp : tmps.getD 4 undef = .pointer (some ⟨q, 0, none⟩)) : (results Tryz.f76 tmps).run Tryz.prog w = .ok (.agg (eraC v)) w :=
  results_cell_row (P := Tryz.prog) (fn := Tryz.f76) (p := 4) (ty := 31) rfl tmps _ q 31 (eraC v) (0, 0) _ hp hb Tryz.underlying31 rfl (infoE v)
set_option maxRecDepth 100000 in
set_option maxHeartbeats 3200000 in
theorem takeE_no (F : FuncId) (hF : ∀ args w, (callFunc F args).run Tryz.prog w = .ok (.enter F args) w) (caps : Array Value) (w : World) (b g : Nat) (x : FPair) (r : List FPair) (h : LeftAt w b g (x :: r)) (v : EraL) (k : Int) (hk : k ≠ 0)
    (hT : ∀ W, Fr w W (fun _ => False) → Calls Tryz.prog F (#[strV x.1] ++ caps) W fun e w' => e = .returned (.tuple #[.agg (eraC v), intV k]) ∧ Fr W w' (fun _ => False)) :
    Calls Tryz.prog 76 #[.pointer (some ⟨b, 0, none⟩), .func (.func F) #[] caps] w fun e w' => e = Raised (wrongL k (x.2 : Int)) ∧ Fr w w' (fun _ => False) := by
  have hf0 := Fr.new w (.cells #[intV 0, intV 0, intV 0, .string ⟨#[]⟩, .string ⟨#[]⟩, .bool false, intV 0, intV 0, intV 0, intV 0, intV 0, intV 0, intV 0] 31) (fun _ => False)
  have hsz : (w.alloc (.cells #[intV 0, intV 0, intV 0, .string ⟨#[]⟩, .string ⟨#[]⟩, .bool false, intV 0, intV 0, intV 0, intV 0, intV 0, intV 0, intV 0] 31)).heap.size = w.heap.size + 1 := by simp
  obtain ⟨off, c, hb, hc, c0, c1, hL⟩ := (h.fr hf0 (fun h => h) (fun h => h)).open
  have d0 := cell_at hb 0
  simp at d0
  have HT := Lib.hid hT
  have hk0 : (k == 0) = false := by simpa using hk
  clear hT hL hb h hk hf0
  go_enter Tryz.func76, Tryz.ntmps76
  go_wp2_with fail
  refine (HT.out _ (ff (Fr.new w (.cells #[intV 0, intV 0, intV 0, .string ⟨#[]⟩, .string ⟨#[]⟩, .bool false, intV 0, intV 0, intV 0, intV 0, intV 0, intV 0, intV 0] 31) _) (Fr.new _ _ _))).mono ?_
  rintro e w2 ⟨rfl, hf2⟩
  have HF2 := Lib.hid (ff (ff (Fr.new w (.cells #[intV 0, intV 0, intV 0, .string ⟨#[]⟩, .string ⟨#[]⟩, .bool false, intV 0, intV 0, intV 0, intV 0, intV 0, intV 0, intV 0] 31) _) (Fr.new _ _ _)) hf2)
  have hE := hf2.blk (Blk.made (w.alloc (.cells #[intV 0, intV 0, intV 0, .string ⟨#[]⟩, .string ⟨#[]⟩, .bool false, intV 0, intV 0, intV 0, intV 0, intV 0, intV 0, intV 0] 31)) 46 #[strV x.1, intV (x.2 : Int)]) (fun h => h)
  rw [hsz] at hE
  have HE := Lib.hid hE
  clear hf2 HT hE
  go_wp2_with (
        refine wpList_store_blk 31 _ _ w2.heap.size 0 31 (eraC eraZ) (eraC v) (eraC v) (by rfl) rfl rfl rfl rfl (Blk.made w2 31 (eraC eraZ)) (infoE _) (eraC_one _) (show 0 + 13 ≤ 13 by decide) (put_all rfl) ?_
        intro w3 hf3 hb3
        have hf23 := (Fr.new w2 (.cells (eraC eraZ) 31) (fun _ => False)).fresh hf3 (fun i e => by omega)
        have HF3 := Lib.hid (ff HF2.out hf23)
        have e1 := blk_cell (hf23.blk HE.out (fun h => h)) 1 _ rfl
        clear hf3 hb3 hf23)
  refine (fault_any _ _ _).mono ?_
  rintro e w4 ⟨rfl, hf4⟩
  have HF4 := Lib.hid (ff HF3.out hf4)
  clear hf4
  go_wp2_with fail
  exact ⟨rfl, rfl, HF4.out⟩
set_option maxRecDepth 100000 in
set_option maxHeartbeats 3200000 in
theorem takeE_ok (F : FuncId) (hF : ∀ args w, (callFunc F args).run Tryz.prog w = .ok (.enter F args) w) (caps : Array Value) (w : World) (b g : Nat) (x : FPair) (r : List FPair) (h : LeftAt w b g (x :: r)) (hbg : g ≠ b) (v : EraL)
    (hT : ∀ W, Fr w W (fun _ => False) → Calls Tryz.prog F (#[strV x.1] ++ caps) W fun e w' => e = .returned (.tuple #[.agg (eraC v), intV 0]) ∧ Fr W w' (fun _ => False)) :
    Calls Tryz.prog 76 #[.pointer (some ⟨b, 0, none⟩), .func (.func F) #[] caps] w fun e w' => e = .returned (.agg (eraC v)) ∧ LeftAt w' b g r ∧ Fr w w' (· = b) := by
  have hf0 := Fr.new w (.cells #[intV 0, intV 0, intV 0, .string ⟨#[]⟩, .string ⟨#[]⟩, .bool false, intV 0, intV 0, intV 0, intV 0, intV 0, intV 0, intV 0] 31) (fun _ => False)
  have hsz : (w.alloc (.cells #[intV 0, intV 0, intV 0, .string ⟨#[]⟩, .string ⟨#[]⟩, .bool false, intV 0, intV 0, intV 0, intV 0, intV 0, intV 0, intV 0] 31)).heap.size = w.heap.size + 1 := by simp
  have hbs := h.lt
  obtain ⟨_, _, _, _, cg, _, _⟩ := h.open
  have hgs := World.block_lt_of_cell? w _ cg
  obtain ⟨off, c, hb, hc, c0, c1, hL⟩ := (h.fr hf0 (fun h => h) (fun h => h)).open
  have d0 := cell_at hb 0
  simp at d0
  have HT := Lib.hid hT
  have HL := Lib.hid hL
  have HB := Lib.hid hb
  have HZ := Lib.hid (show Blk (w.alloc (.cells #[intV 0, intV 0, intV 0, .string ⟨#[]⟩, .string ⟨#[]⟩, .bool false, intV 0, intV 0, intV 0, intV 0, intV 0, intV 0, intV 0] 31)) w.heap.size 31 (eraC eraZ) from Blk.made w 31 #[intV 0, intV 0, intV 0, .string ⟨#[]⟩, .string ⟨#[]⟩, .bool false, intV 0, intV 0, intV 0, intV 0, intV 0, intV 0, intV 0])
  have HF0 := Lib.hid hf0
  clear hT hL hb h hf0 cg
  have l1 : (1 : Int) ≤ (r.length + 1 : Int) := by omega
  have l2 : (r.length + 1 : Int) ≤ (c : Int) := by omega
  go_enter Tryz.func76, Tryz.ntmps76
  go_wp2_with fail
  refine (HT.out _ (ff (Fr.new w (.cells #[intV 0, intV 0, intV 0, .string ⟨#[]⟩, .string ⟨#[]⟩, .bool false, intV 0, intV 0, intV 0, intV 0, intV 0, intV 0, intV 0] 31) _) (Fr.new _ _ _))).mono ?_
  rintro e w2 ⟨rfl, hf2⟩
  have hs2 := hf2.size
  simp at hs2
  have HF2 := Lib.hid (ff (Fr.new _ _ _) hf2)
  clear hf2 HT
  go_wp2_with (first
      | (
        refine wpList_store_blk 31 _ _ w2.heap.size 0 31 (eraC eraZ) (eraC v) (eraC v) (by rfl) rfl rfl rfl rfl (Blk.made w2 31 (eraC eraZ)) (infoE _) (eraC_one _) (show 0 + 13 ≤ 13 by decide) (put_all rfl) ?_
        intro w3 hf3 hb3
        have hf23 := (Fr.new w2 (.cells (eraC eraZ) 31) (fun _ => False)).fresh hf3 (fun i e => by omega)
        have HF3 := Lib.hid (ff HF2.out hf23)
        have HZ3 := Lib.hid (HF3.out.blk HZ.out (fun h => h))
        have HB3 := Lib.hid (HF3.out.blk HB.out (fun h => h))
        have HV3 := Lib.hid hb3
        have d3 := blk_cell HB3.out 0 _ rfl
        have hs3 := hf3.size
        simp at hs3
        clear hf3 hb3 hf23)
      | (
        refine wpList_store_cell 41 _ _ b 0 65 _ #[.slice (if c = 1 then some ⟨g, off, none⟩ else some ⟨g, off + 2, none⟩) r.length (c - 1)] (.slice (if c = 1 then some ⟨g, off, none⟩ else some ⟨g, off + 2, none⟩) r.length (c - 1)) (by rfl) rfl rfl rfl rfl HB3.out info_fields (by rfl) (show 0 < 1 by decide) rfl ?_
        intro w4 hf4 hb4
        have HF4 := Lib.hid hf4
        have HB4 := Lib.hid hb4
        have HV4 := Lib.hid (hf4.blk HV3.out (by omega))
        have HZ4 := Lib.hid (hf4.blk HZ3.out (by omega))
        clear hf4 hb4)
      | (refine wpList_load_blk 31 _ w2.heap.size 0 31 (eraC v) (eraC v) _ (by rfl) rfl rfl HV4.out Tryz.underlying31 rfl (infoE _) (zero_part _) ?_)
      | (
        refine wpList_store_blk 31 _ _ w.heap.size 0 31 (eraC eraZ) (eraC v) (eraC v) (by rfl) rfl rfl rfl rfl HZ4.out (infoE _) (eraC_one _) (show 0 + 13 ≤ 13 by decide) (put_all rfl) ?_
        intro w5 hf5 hb5
        have HF5 := Lib.hid hf5
        have HB5 := Lib.hid hb5
        clear hf5 hb5))
  all_goals
    (try simp only [Exit.inBlock, Exit.then])
    have hf04 : Fr (w.alloc (.cells #[intV 0, intV 0, intV 0, .string ⟨#[]⟩, .string ⟨#[]⟩, .bool false, intV 0, intV 0, intV 0, intV 0, intV 0, intV 0, intV 0] 31)) w4 (· = b) := HF3.out.trans HF4.out (fun _ _ h => h.elim) (fun _ _ h => h)
    have hcut : Mem.cutA (some ⟨g, off, none⟩) c 1 2 = if c = 1 then some ⟨g, off, none⟩ else some ⟨g, off + 2, none⟩ := rfl
    rw [hcut] at HL
    have hL4 := HL.out _ _ hf04 hbg HB4.out
    have hA4 : Fr w w4 (· = b) := HF0.out.trans hf04 (fun _ _ h => h.elim) (fun _ _ h => h)
    have hA5 : Fr w w5 (· = b) := fr_more hA4 HF5.out (fun i e => by omega)
    exact bodyPost_ret (res_takeE HB5.out _ rfl) rfl ⟨rfl, hL4.fr HF5.out (by omega) (by omega), hA5⟩
end Go.Proofs.YtgcheollgnhdlaaGreatDoor
