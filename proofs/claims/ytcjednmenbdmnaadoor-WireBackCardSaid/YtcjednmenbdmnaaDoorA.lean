import Derived.Test.YtcjednmenbdmnaaDoorRows
import Derived.Test.YtcjednmenbdmnaaDoorMem
import Derived.WalkKit
import Derived.ProofKit
import Derived.OpenShut
import Derived.Outline
import Derived.Laws.EntriesVeiled
import Derived.WalkSpells
import Derived.Lib.Hide
import Derived.OwnWalk
import Derived.Maps.AppendAt
namespace Go.Proofs.YtcjednmenbdmnaaDoor
open Go.RowKit Go.Mem

theorem isDigit_any (c : Int) (w : World) (h0 : 0 ≤ c) (h1 : c ≤ 255) :
    Calls Tryd.prog 37 #[.int .u8 c] w fun e w' => e = .returned (.bool (decide (48 ≤ c) && decide (c ≤ 57))) ∧ w = w' := by
  go_enter Tryd.func37, Tryd.ntmps37
  go_wp2
  all_goals go_ret
  · exact ⟨by simp_all, rfl⟩
  · exact ⟨by simp; omega, rfl⟩

/-- the splitter at block p -/
abbrev ptr (p : Nat) : Value := .pointer (some ⟨p, 0, none⟩)
def seeFn (p st : Nat) : Value := .func (.func (26 + st)) #[ptr p] #[]

theorem enter_any (p st : Nat) (hst : st ≤ 5) (w : World) (c0 c1 c2 c3 c4 c5 : Value) (hb : Blk w p 45 #[c0, c1, c2, c3, c4, c5]) :
    Calls Tryd.prog 21 #[ptr p, .int .i64 st] w fun e w' => e = .returned (.tuple #[]) ∧ Blk w' p 45 #[c0, .int .i64 st, seeFn p st, c3, c4, c5] ∧ Fr w w' (· = p) := by
  have k1 := cell_at hb 1
  have k2 := cell_at hb 2
  have f1 := free_at hb 1
  have f2 := free_at hb 2
  simp at k1 k2
  have hst' : st = 0 ∨ st = 1 ∨ st = 2 ∨ st = 3 ∨ st = 4 ∨ st = 5 := by omega
  clear hst
  have fin : ∀ v : Value, Blk ((w.setCell ⟨p, 1, none⟩ (.int .i64 st)).setCell ⟨p, 2, none⟩ v) p 45 #[c0, .int .i64 st, v, c3, c4, c5] ∧ Fr w ((w.setCell ⟨p, 1, none⟩ (.int .i64 st)).setCell ⟨p, 2, none⟩ v) (· = p) := fun v => by
    have h1 := (hb.put 1 (.int .i64 st)).put 2 v
    simp at h1
    exact ⟨h1, (Fr.set (S := (· = p)) rfl).trans (Fr.set (S := (· = p)) rfl) (fun _ _ h => h) (fun _ _ h => h)⟩
  rcases hst' with rfl | rfl | rfl | rfl | rfl | rfl
  all_goals
    have H := Lib.hid fin
    clear fin
    go_enter Tryd.func21, Tryd.ntmps21
    go_wp2
    go_end0
    exact ⟨rfl, H.out _⟩

theorem info5 : (Tryd.prog.info? 5).map (fun i => (i.zero, i.size, i.bytes)) = some (some (.int .u8 0), 1, 1) := by kernel_rfl

/-- where the held bytes lie behind a step -/
def Stays (w : World) (hv hv' : Value) : Prop := hv'.ownBlock = hv.ownBlock ∨ hv'.ownBlock = none ∨ ∃ g, hv'.ownBlock = some g ∧ w.heap.size ≤ g
/-- what a step may turn -/
abbrev Mine (p : Nat) (hv : Value) : Nat → Prop := fun k => k = p ∨ some k = hv.ownBlock
structure Moved (w w' : World) (p : Nat) (hv hv' : Value) : Prop where
  fr : Fr w w' (Mine p hv)
  stays : Stays w hv hv'
theorem Moved.refl (w : World) (p : Nat) (hv : Value) : Moved w w p hv hv := ⟨Fr.refl _ _, .inl rfl⟩
theorem Moved.then {w w1 w2 : World} {p : Nat} {hv hv' : Value} (h : Moved w w1 p hv hv') (f : Fr w1 w2 (· = p)) : Moved w w2 p hv hv' :=
  ⟨h.fr.trans f (fun _ _ h => h) (fun _ _ h => .inl h), h.stays⟩
theorem Moved.of {w w1 : World} {p : Nat} (f : Fr w w1 (· = p)) (hv : Value) : Moved w w1 p hv hv := ⟨f.mono fun _ _ h => .inl h, .inl rfl⟩
theorem Moved.nil {w w1 : World} {p : Nat} (f : Fr w w1 (· = p)) (hv : Value) : Moved w w1 p hv (.slice none 0 0) := ⟨f.mono fun _ _ h => .inl h, .inr (.inl rfl)⟩

theorem hold_any (p n : Nat) (c : Int) (w : World) (c0 c1 c2 hv c4 c5 : Value) (xs : List Value) (hb : Blk w p 45 #[c0, c1, c2, hv, c4, c5])
    (ho : w.ownsRow 0 5 1 hv n xs) (hn : n ≤ 1000000) :
    Calls Tryd.prog 39 #[ptr p, .int .u8 c] w fun e w' => e = .returned (.tuple #[]) ∧
      ∃ hv', Blk w' p 45 #[c0, c1, c2, hv', c4, c5] ∧ w'.ownsRow 0 5 1 hv' (n + 1) (xs ++ [.int .u8 c]) ∧ Moved w w' p hv hv' := by
  have k3 := cell_at hb 3
  have f3 := free_at hb 3
  simp at k3
  obtain ⟨i0, hi, hz0, hz1, hz2⟩ := info_parts info5
  have H := Lib.hid hb
  have HO := Lib.hid ho
  obtain ⟨A, cap, rfl⟩ := own_slice ho
  clear hb ho
  have h1 : ∀ u ∈ [Value.int .u8 c], u.oneCell' = true := by simp [Value.oneCell']
  go_enter Tryd.func39, Tryd.ntmps39
  go_wp2_with (at_builtin; refine wpList_append_own_at _ rfl (.tmp 8) (.tmp 10) 22 rfl 0 5 i0 (.int .u8 0) 1 1 Tryd.underlying22 hi hz0 hz1 hz2 rfl (by decide) (.slice A n cap) n xs rfl (HO.out.alloc _) ⟨w.heap.size, 0, none⟩ 1 1 [.int .u8 c] rfl rfl (cell_one_new _ _ _) h1 (by simp only [maxLen]; omega) (by omega) (Nat.zero_le _) ?_; intro v' w1 hown1 hg1 _ hat1; obtain ⟨A1, cap1, rfl⟩ := own_slice hown1; have hb1 := Lib.hid ((Fr.ofGrown hg1).blk ((Fr.new w _ (fun _ => False)).blk H.out (fun h => h)) (fun e => own_apart HO.out H.out (by decide) e.symm)); have k31 := cell_at hb1.out 3; have f31 := free_at hb1.out 3; simp at k31)
  go_end0
  refine ⟨rfl, .slice A1 (n + 1) cap1, ?_, ?_, ?_, ?_⟩
  · have := hb1.out.put 3 (.slice A1 (n + 1) cap1)
    simpa using this
  · exact (Fr.set (S := (· = p)) rfl).own hown1 (fun g hg e => own_apart hown1 hb1.out (by decide) (e ▸ hg))
  · refine (((Fr.new w _ _).trans (Fr.ofGrown hg1) (fun _ _ h => h) (fun _ _ h => .inr h)).trans (Fr.set (S := (· = p)) rfl) (fun _ _ h => h) (fun _ _ h => .inl h))
  · rcases hat1 with h | h
    · exact .inl h
    · exact .inr (.inr ⟨_, h, by simp⟩)
end Go.Proofs.YtcjednmenbdmnaaDoor
