import Derived.Test.YtcjednmenbdmnaaDoorA
import Derived.Test.YtcjednmenbdmnaaDoorPure
namespace Go.Proofs.YtcjednmenbdmnaaDoor
open Go.RowKit Go.Mem Go.Wire

theorem fail_any (p : Nat) (c : Int) (w : World) (c0 c1 c2 c3 c4 c5 : Value) (hb : Blk w p 45 #[c0, c1, c2, c3, c4, c5]) :
    Calls Tryd.prog 38 #[ptr p, .int .u8 c] w fun e w' => e = .returned (.int .i64 2) ∧
      Blk w' p 45 #[c0, .int .i64 (failSt c), seeFn p (failSt c), .slice none 0 0, c4, c5] ∧ Fr w w' (· = p) := by
  have k3 := cell_at hb 3
  have f3 := free_at hb 3
  simp at k3
  have hb1 := Lib.hid (hb.put' 3 (.slice none 0 0) (cs' := #[c0, c1, c2, .slice none 0 0, c4, c5]) (by simp))
  clear hb
  unfold failSt
  by_cases hc : c = 10
  · rw [if_pos hc]
    subst hc
    go_enter Tryd.func38, Tryd.ntmps38
    go_wp2_with (go_at_call 21; refine (enter_any p 0 (by omega) _ _ _ _ _ _ _ hb1.out).mono ?_; rintro e w' ⟨rfl, hb', hf'⟩)
    go_ret
    exact ⟨rfl, hb', (Fr.set (S := (· = p)) rfl).trans hf' (fun _ _ h => h) (fun _ _ h => h)⟩
  · rw [if_neg hc]
    have hd : ((c : Int) == 10) = false := by simpa using hc
    go_enter Tryd.func38, Tryd.ntmps38
    go_wp2_with (go_at_call 21; refine (enter_any p 5 (by omega) _ _ _ _ _ _ _ hb1.out).mono ?_; rintro e w' ⟨rfl, hb', hf'⟩)
    go_ret
    exact ⟨rfl, hb', (Fr.set (S := (· = p)) rfl).trans hf' (fun _ _ h => h) (fun _ _ h => h)⟩

def u8v (x : Int) : Value := .int .u8 x
/-- the splitter at block p, its bytes that are held in the slice hv -/
def Spl (w : World) (p : Nat) (hv : Value) (σ : St) : Prop :=
  Blk w p 45 #[ptr p, .int .i64 σ.st, seeFn p σ.st, hv, .int .i64 σ.size, .int .i64 σ.left] ∧ w.ownsRow 0 5 1 hv σ.held.length (σ.held.map u8v)
/-- what a step answers, and leaves -/
def Stepped (w : World) (p : Nat) (hv : Value) (r : St × Nat) (e : Ending) (w' : World) : Prop :=
  e = .returned (.int .i64 r.2) ∧ ∃ hv', Spl w' p hv' r.1 ∧ Moved w w' p hv hv'

theorem hold_spl {w : World} {p : Nat} {hv : Value} {σ : St} (h : Spl w p hv σ) (c : Int) (hn : σ.held.length ≤ 1000000) :
    Calls Tryd.prog 39 #[ptr p, .int .u8 c] w fun e w' => e = .returned (.tuple #[]) ∧ ∃ hv', Spl w' p hv' { σ with held := σ.held ++ [c] } ∧ Moved w w' p hv hv' :=
  (hold_any p _ c w _ _ _ _ _ _ _ h.1 h.2 hn).mono fun e w' ⟨he, hv', hb, ho, hf⟩ => ⟨he, hv', ⟨hb, by simpa [u8v] using ho⟩, hf⟩

theorem fail_spl {w : World} {p : Nat} {hv : Value} {σ : St} (h : Spl w p hv σ) (c : Int) :
    Calls Tryd.prog 38 #[ptr p, .int .u8 c] w (Stepped w p hv (fail σ c)) :=
  (fail_any p c w _ _ _ _ _ _ h.1).mono fun _ w' ⟨he, hb, hf⟩ => ⟨he, .slice none 0 0, ⟨hb, World.ownsRow_nil w' 0 5 1⟩, .nil hf _⟩

theorem enter_spl {w : World} {p : Nat} {hv : Value} {σ : St} (h : Spl w p hv σ) (st : Nat) (hst : st ≤ 5) :
    Calls Tryd.prog 21 #[ptr p, .int .i64 st] w fun e w' => e = .returned (.tuple #[]) ∧ Spl w' p hv { σ with st := st } ∧ Fr w w' (· = p) :=
  (enter_any p st hst w _ _ _ _ _ _ h.1).mono fun e w' ⟨he, hb, hf⟩ => ⟨he, ⟨hb, hf.own h.2 fun g hg e => own_apart h.2 h.1 (by decide) (e ▸ hg)⟩, hf⟩

theorem Spl.set4 {w : World} {p : Nat} {hv : Value} {σ : St} (h : Spl w p hv σ) (n : Int) : Spl (w.setCell ⟨p, 4, none⟩ (.int .i64 n)) p hv { σ with size := n } :=
  ⟨h.1.put' 4 _ (by simp), (Fr.set (S := (· = p)) rfl).own h.2 fun g hg e => own_apart h.2 h.1 (by decide) (e ▸ hg)⟩
theorem Spl.set5 {w : World} {p : Nat} {hv : Value} {σ : St} (h : Spl w p hv σ) (n : Int) : Spl (w.setCell ⟨p, 5, none⟩ (.int .i64 n)) p hv { σ with left := n } :=
  ⟨h.1.put' 5 _ (by simp), (Fr.set (S := (· = p)) rfl).own h.2 fun g hg e => own_apart h.2 h.1 (by decide) (e ▸ hg)⟩
theorem Spl.at_st {w : World} {p : Nat} {hv : Value} {σ : St} (h : Spl w p hv σ) {k : Nat} (e : σ.st = k) : Spl w p hv { σ with st := k } := by
  subst e
  exact h
/-- the cells of a splitter, for a walk -/
theorem Spl.cells {w : World} {p : Nat} {hv : Value} {σ : St} (h : Spl w p hv σ) :
    w.cell? ⟨p, 0, none⟩ = some (ptr p) ∧ w.cell? ⟨p, 1, none⟩ = some (.int .i64 σ.st) ∧ w.cell? ⟨p, 2, none⟩ = some (seeFn p σ.st) ∧ w.cell? ⟨p, 3, none⟩ = some hv ∧
    w.cell? ⟨p, 4, none⟩ = some (.int .i64 σ.size) ∧ w.cell? ⟨p, 5, none⟩ = some (.int .i64 σ.left) := by
  refine ⟨?_, ?_, ?_, ?_, ?_, ?_⟩ <;> · rw [cell_at h.1]; simp
theorem Spl.free {w : World} {p : Nat} {hv : Value} {σ : St} (h : Spl w p hv σ) :
    w.frozen? ⟨p, 0, none⟩ = false ∧ w.frozen? ⟨p, 1, none⟩ = false ∧ w.frozen? ⟨p, 2, none⟩ = false ∧ w.frozen? ⟨p, 3, none⟩ = false ∧ w.frozen? ⟨p, 4, none⟩ = false ∧ w.frozen? ⟨p, 5, none⟩ = false :=
  ⟨free_at h.1 0, free_at h.1 1, free_at h.1 2, free_at h.1 3, free_at h.1 4, free_at h.1 5⟩

theorem one (p : Nat) : ∀ (w : World) (i : Nat) (_ : i < w.heap.size) (_ : i = p), i = p := fun _ _ _ h => h

theorem colon_spl {w : World} {p : Nat} {hv : Value} {σ : St} (h : Spl w p hv σ) (i : Inv σ) (c : Int) :
    Calls Tryd.prog 40 #[ptr p, .int .u8 c] w (Stepped w p hv (colon σ c)) := by
  obtain ⟨k0, k1, k2, k3, k4, k5⟩ := h.cells
  obtain ⟨f0, f1, f2, f3, f4, f5⟩ := h.free
  have hl := i.held
  have s0 := i.size0
  have s1 := i.size
  have H := Lib.hid h
  clear h
  unfold colon
  by_cases h1 : 20000 < σ.size
  · rw [if_pos h1]
    go_enter Tryd.func40, Tryd.ntmps40
    go_wp2_with (go_at_call 38; refine (fail_spl H.out c).mono ?_; rintro e w' ⟨rfl, hv', hs', hf'⟩)
    go_ret
    exact ⟨rfl, hv', hs', hf'⟩
  · rw [if_neg h1]
    by_cases h2 : σ.size = 0
    · have h2' := Lib.hid h2
      rw [if_pos h2]
      have hz : (σ.size == 0) = true := by simp [h2]
      clear h2
      go_enter Tryd.func40, Tryd.ntmps40
      go_wp2_with (first | (go_at_call 39; refine (hold_spl H.out c (by omega)).mono ?_; rintro e w1 ⟨rfl, hv1, hs1, hf1⟩; obtain ⟨k10, k11, k12, k13, k14, k15⟩ := hs1.cells; obtain ⟨f10, f11, f12, f13, f14, f15⟩ := hs1.free; have H1 := Lib.hid hs1; clear hs1) | (go_at_call 21; refine (enter_spl (H1.out.set5 _) 4 (by omega)).mono ?_; rintro e w2 ⟨rfl, hs2, hf2⟩))
      go_ret
      exact ⟨rfl, hv1, hs2, (hf1.then (Fr.set rfl)).then hf2⟩
    · have h2' := Lib.hid h2
      rw [if_neg h2]
      have hz : (σ.size == 0) = false := by simpa using h2
      clear h2
      go_enter Tryd.func40, Tryd.ntmps40
      go_wp2_with (first | (go_at_call 39; refine (hold_spl H.out c (by omega)).mono ?_; rintro e w1 ⟨rfl, hv1, hs1, hf1⟩; obtain ⟨k10, k11, k12, k13, k14, k15⟩ := hs1.cells; obtain ⟨f10, f11, f12, f13, f14, f15⟩ := hs1.free; have H1 := Lib.hid hs1; clear hs1) | (go_at_call 21; refine (enter_spl (H1.out.set5 _) 3 (by omega)).mono ?_; rintro e w2 ⟨rfl, hs2, hf2⟩))
      go_ret
      exact ⟨rfl, hv1, hs2, (hf1.then (Fr.set rfl)).then hf2⟩

theorem zero_spl {w : World} {p : Nat} {hv : Value} {σ : St} (h : Spl w p hv σ) (i : Inv σ) (c : Int) (hst : σ.st = 1) :
    Calls Tryd.prog 27 #[ptr p, .int .u8 c] w (Stepped w p hv (stepW σ c)) := by
  have H := Lib.hid h
  clear h
  unfold stepW
  rw [if_neg (by omega), if_pos hst]
  clear hst
  by_cases h1 : c = 58
  · rw [if_pos h1]
    subst h1
    go_enter Tryd.func27, Tryd.ntmps27
    go_wp2_with (go_at_call 40; refine (colon_spl H.out i 58).mono ?_; rintro e w' ⟨rfl, hv', hs', hf'⟩)
    go_ret
    exact ⟨rfl, hv', hs', hf'⟩
  · rw [if_neg h1]
    have hd : ((c : Int) != 58) = true := by simpa using h1
    go_enter Tryd.func27, Tryd.ntmps27
    go_wp2_with (go_at_call 38; refine (fail_spl H.out c).mono ?_; rintro e w' ⟨rfl, hv', hs', hf'⟩)
    go_ret
    exact ⟨rfl, hv', hs', hf'⟩

theorem end_spl {w : World} {p : Nat} {hv : Value} {σ : St} (h : Spl w p hv σ) (c : Int) (hst : σ.st = 4) :
    Calls Tryd.prog 30 #[ptr p, .int .u8 c] w (Stepped w p hv (stepW σ c)) := by
  have H := Lib.hid h
  clear h
  unfold stepW
  rw [if_neg (by omega), if_neg (by omega), if_neg (by omega), if_neg (by omega), if_pos hst]
  clear hst
  by_cases h1 : c = 10
  · rw [if_pos h1]
    subst h1
    go_enter Tryd.func30, Tryd.ntmps30
    go_wp2_with (go_at_call 21; refine (enter_spl H.out 0 (by omega)).mono ?_; rintro e w' ⟨rfl, hs', hf'⟩)
    go_ret
    exact ⟨rfl, hv, hs', Moved.of hf' _⟩
  · rw [if_neg h1]
    have hd : ((c : Int) != 10) = true := by simpa using h1
    go_enter Tryd.func30, Tryd.ntmps30
    go_wp2_with (go_at_call 38; refine (fail_spl H.out c).mono ?_; rintro e w' ⟨rfl, hv', hs', hf'⟩)
    go_ret
    exact ⟨rfl, hv', hs', hf'⟩

theorem waste_spl {w : World} {p : Nat} {hv : Value} {σ : St} (h : Spl w p hv σ) (c : Int) (hst : σ.st = 5) :
    Calls Tryd.prog 31 #[ptr p, .int .u8 c] w (Stepped w p hv (stepW σ c)) := by
  have H := Lib.hid h
  clear h
  unfold stepW
  rw [if_neg (by omega), if_neg (by omega), if_neg (by omega), if_neg (by omega), if_neg (by omega)]
  by_cases h1 : c = 10
  · rw [if_pos h1]
    clear hst
    subst h1
    go_enter Tryd.func31, Tryd.ntmps31
    go_wp2_with (go_at_call 21; refine (enter_spl H.out 0 (by omega)).mono ?_; rintro e w' ⟨rfl, hs', hf'⟩)
    go_ret
    exact ⟨rfl, hv, hs', Moved.of hf' _⟩
  · rw [if_neg h1]
    have hd : ((c : Int) == 10) = false := by simpa using h1
    have hh : Spl w p hv { σ with st := 5 } := by
      have := H.out
      rw [← hst]
      exact this
    clear hst
    go_enter Tryd.func31, Tryd.ntmps31
    go_wp2
    go_ret
    exact ⟨rfl, hv, hh, Moved.refl _ _ _⟩

theorem body_spl {w : World} {p : Nat} {hv : Value} {σ : St} (h : Spl w p hv σ) (i : Inv σ) (c : Int) (hst : σ.st = 3) :
    Calls Tryd.prog 29 #[ptr p, .int .u8 c] w (Stepped w p hv (stepW σ c)) := by
  obtain ⟨k0, k1, k2, k3, k4, k5⟩ := h.cells
  obtain ⟨f0, f1, f2, f3, f4, f5⟩ := h.free
  have hl := i.held
  have s0 := i.size0
  have s1 := i.size
  have l0 := i.left0
  have l1 := i.left
  have H := Lib.hid h
  clear h
  unfold stepW
  rw [if_neg (by omega), if_neg (by omega), if_neg (by omega), if_pos hst]
  have l2 := (i.s3 hst).1
  have HS := Lib.hid hst
  clear hst
  by_cases h2 : σ.left - 1 = 0
  · rw [if_pos h2]
    have hz : (σ.left - 1 == 0) = true := by simp [h2]
    have h2' := Lib.hid h2
    clear h2
    go_enter Tryd.func29, Tryd.ntmps29
    go_wp2_with (first | (go_at_call 39; refine (hold_spl H.out c (by omega)).mono ?_; rintro e w1 ⟨rfl, hv1, hs1, hf1⟩; obtain ⟨k10, k11, k12, k13, k14, k15⟩ := hs1.cells; obtain ⟨f10, f11, f12, f13, f14, f15⟩ := hs1.free; have H1 := Lib.hid hs1; clear hs1) | (go_at_call 21; refine (enter_spl (H1.out.set5 _) 4 (by omega)).mono ?_; rintro e w2 ⟨rfl, hs2, hf2⟩))
    go_ret
    exact ⟨rfl, hv1, hs2, (hf1.then (Fr.set rfl)).then hf2⟩
  · rw [if_neg h2]
    have hz : (σ.left - 1 == 0) = false := by simpa using h2
    have h2' := Lib.hid h2
    clear h2
    go_enter Tryd.func29, Tryd.ntmps29
    go_wp2_with (go_at_call 39; refine (hold_spl H.out c (by omega)).mono ?_; rintro e w1 ⟨rfl, hv1, hs1, hf1⟩; obtain ⟨k10, k11, k12, k13, k14, k15⟩ := hs1.cells; obtain ⟨f10, f11, f12, f13, f14, f15⟩ := hs1.free; have H1 := Lib.hid hs1; clear hs1)
    go_ret
    exact ⟨rfl, hv1, (H1.out.set5 _).at_st HS.out, hf1.then (Fr.set rfl)⟩

theorem begin_spl {w : World} {p : Nat} {hv : Value} {σ : St} (h : Spl w p hv σ) (i : Inv σ) (c : Int) (c0 : 0 ≤ c) (c1 : c ≤ 255) (hst : σ.st = 0) :
    Calls Tryd.prog 26 #[ptr p, .int .u8 c] w (Stepped w p hv (stepW σ c)) := by
  obtain ⟨k0, k1, k2, k3, k4, k5⟩ := h.cells
  obtain ⟨f0, f1, f2, f3, f4, f5⟩ := h.free
  have hl := i.held
  have s0 := i.size0
  have s1 := i.size
  have l0 := i.left0
  have l1 := i.left
  have H := Lib.hid h
  clear h
  unfold stepW
  rw [if_pos hst]
  clear hst
  have hd : (decide (48 ≤ c) && decide (c ≤ 57)) = isDig c := rfl
  by_cases h1 : isDig c = true
  · rw [if_pos h1]
    have h2 : 48 ≤ c ∧ c ≤ 57 := by simpa [isDig] using h1
    obtain ⟨h3, h4⟩ := h2
    by_cases h5 : c = 48
    · rw [if_pos h5]
      subst h5
      clear hd
      go_enter Tryd.func26, Tryd.ntmps26
      go_wp2_with (first | (go_at_call 37; refine (isDigit_any _ _ (by omega) (by omega)).mono ?_; rintro e w' ⟨rfl, rfl⟩) | (go_at_call 39; refine (hold_spl H.out 48 (by omega)).mono ?_; rintro e w1 ⟨rfl, hv1, hs1, hf1⟩; obtain ⟨k10, k11, k12, k13, k14, k15⟩ := hs1.cells; obtain ⟨f10, f11, f12, f13, f14, f15⟩ := hs1.free; have H1 := Lib.hid hs1; clear hs1) | (go_at_call 21; refine (enter_spl (H1.out.set4 _) 1 (by omega)).mono ?_; rintro e w2 ⟨rfl, hs2, hf2⟩))
      go_ret
      exact ⟨rfl, hv1, hs2, (hf1.then (Fr.set rfl)).then hf2⟩
    · rw [if_neg h5]
      have hz : (c == 48) = false := by simpa using h5
      have h5' := Lib.hid h5
      clear h5
      rw [h1] at hd
      go_enter Tryd.func26, Tryd.ntmps26
      go_wp2_with (first | (go_at_call 37; refine (isDigit_any _ _ (by omega) (by omega)).mono ?_; rintro e w' ⟨rfl, rfl⟩) | (go_at_call 39; refine (hold_spl H.out c (by omega)).mono ?_; rintro e w1 ⟨rfl, hv1, hs1, hf1⟩; obtain ⟨k10, k11, k12, k13, k14, k15⟩ := hs1.cells; obtain ⟨f10, f11, f12, f13, f14, f15⟩ := hs1.free; have H1 := Lib.hid hs1; clear hs1) | (go_at_call 21; refine (enter_spl (H1.out.set4 _) 2 (by omega)).mono ?_; rintro e w2 ⟨rfl, hs2, hf2⟩))
      go_ret
      exact ⟨rfl, hv1, hs2, (hf1.then (Fr.set rfl)).then hf2⟩
  · rw [if_neg h1]
    have h1' : isDig c = false := by simpa using h1
    rw [h1'] at hd
    go_enter Tryd.func26, Tryd.ntmps26
    go_wp2_with (first | (go_at_call 37; refine (isDigit_any _ _ (by omega) (by omega)).mono ?_; rintro e w' ⟨rfl, rfl⟩) | (go_at_call 38; refine (fail_spl H.out c).mono ?_; rintro e w' ⟨rfl, hv', hs', hf'⟩))
    go_ret
    exact ⟨rfl, hv', hs', hf'⟩

theorem length_spl {w : World} {p : Nat} {hv : Value} {σ : St} (h : Spl w p hv σ) (i : Inv σ) (c : Int) (c0 : 0 ≤ c) (c1 : c ≤ 255) (hst : σ.st = 2) :
    Calls Tryd.prog 28 #[ptr p, .int .u8 c] w (Stepped w p hv (stepW σ c)) := by
  obtain ⟨A, cap, rfl⟩ := own_slice h.2
  obtain ⟨k0, k1, k2, k3, k4, k5⟩ := h.cells
  obtain ⟨f0, f1, f2, f3, f4, f5⟩ := h.free
  have hl := i.held
  have s0 := i.size0
  have s1 := i.size
  have l0 := i.left0
  have l1 := i.left
  have H := Lib.hid h
  clear h
  unfold stepW
  rw [if_neg (by omega), if_neg (by omega), if_pos hst]
  have HS := Lib.hid hst
  clear hst
  have hd : (decide (48 ≤ c) && decide (c ≤ 57)) = isDig c := rfl
  by_cases h0 : c = 58
  · rw [if_pos h0]
    subst h0
    clear hd
    go_enter Tryd.func28, Tryd.ntmps28
    go_wp2_with (go_at_call 40; refine (colon_spl H.out i 58).mono ?_; rintro e w' ⟨rfl, hv', hs', hf'⟩)
    go_ret
    exact ⟨rfl, hv', hs', hf'⟩
  · rw [if_neg h0]
    have hz : (c == 58) = false := by simpa using h0
    have h0' := Lib.hid h0
    clear h0
    by_cases h1 : isDig c = true
    · have h2 : 48 ≤ c ∧ c ≤ 57 := by simpa [isDig] using h1
      obtain ⟨h3, h4⟩ := h2
      rw [h1] at hd
      by_cases h5 : σ.held.length = 5
      · rw [if_neg (fun x => x.2 h5)]
        have h5' : ((σ.held.length : Int) == 5) = true := by simp [h5]
        have h6 := Lib.hid h5
        clear h5
        go_enter Tryd.func28, Tryd.ntmps28
        go_wp2_with (first | (go_at_call 37; refine (isDigit_any _ _ (by omega) (by omega)).mono ?_; rintro e w' ⟨rfl, rfl⟩) | (go_at_call 38; refine (fail_spl H.out c).mono ?_; rintro e w' ⟨rfl, hv', hs', hf'⟩))
        go_ret
        exact ⟨rfl, hv', hs', hf'⟩
      · rw [if_pos ⟨h1, h5⟩]
        have h5' : ((σ.held.length : Int) == 5) = false := by simp; omega
        have h6 := Lib.hid h5
        clear h5
        go_enter Tryd.func28, Tryd.ntmps28
        go_wp2_with (first | (go_at_call 37; refine (isDigit_any _ _ (by omega) (by omega)).mono ?_; rintro e w' ⟨rfl, rfl⟩) | (go_at_call 39; refine (hold_spl H.out c (by omega)).mono ?_; rintro e w1 ⟨rfl, hv1, hs1, hf1⟩; obtain ⟨k10, k11, k12, k13, k14, k15⟩ := hs1.cells; obtain ⟨f10, f11, f12, f13, f14, f15⟩ := hs1.free; have H1 := Lib.hid hs1; clear hs1))
        go_ret
        exact ⟨rfl, hv1, H1.out.set4 _, hf1.then (Fr.set rfl)⟩
    · have h1' : isDig c = false := by simpa using h1
      rw [if_neg (fun x => h1 x.1)]
      rw [h1'] at hd
      go_enter Tryd.func28, Tryd.ntmps28
      go_wp2_with (first | (go_at_call 37; refine (isDigit_any _ _ (by omega) (by omega)).mono ?_; rintro e w' ⟨rfl, rfl⟩) | (go_at_call 38; refine (fail_spl H.out c).mono ?_; rintro e w' ⟨rfl, hv', hs', hf'⟩))
      go_ret
      exact ⟨rfl, hv', hs', hf'⟩
end Go.Proofs.YtcjednmenbdmnaaDoor
