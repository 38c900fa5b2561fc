import Derived.Test.YtcjednmenbdmnaaDoorB
import Derived.StillTailTactics
import Derived.LaidEqlPtr
import Derived.BigQuiet
import Derived.Deep.QuietTactic
namespace Go.Proofs.YtcjednmenbdmnaaDoor
open Go.RowKit Go.Mem Go.Wire

theorem clone_any (A : Option Addr) (n c : Nat) (xs : List Value) (w : World) (hr : Rd w 1 A n xs) (h1 : ∀ u ∈ xs, u.oneCell' = true) (hA : A = none → n = 0 ∧ c = 0) (hn : n ≤ 140737488355328) :
    Calls Tryd.prog 19 #[.slice A n c] w fun e w' => ∃ v, e = .returned v ∧ w'.ownsRow w.heap.size 5 1 v n xs ∧ Fr w w' (fun _ => False) := by
  obtain ⟨i0, hi, hz0, hz1, hz2⟩ := info_parts info5
  have HR := Lib.hid hr
  have H1 := Lib.hid h1
  cases A with
  | none =>
    obtain ⟨rfl, rfl⟩ := hA rfl
    have hx : xs = [] := List.eq_nil_of_length_eq_zero (by simpa using hr.1)
    subst hx
    clear hr h1
    have he : ∀ w : World, (binOp .eql 22 (.slice none 0 0) (.slice none 0 0)).run Tryd.prog w = .ok (.bool true) w := fun w => Lib.run_eql_slice_nil w 22 5 none 0 0 0 0 Tryd.underlying22
    go_enter Tryd.func19, Tryd.ntmps19
    go_wp2
    go_ret
    exact ⟨_, rfl, World.ownsRow_nil _ _ _ _, Fr.refl _ _⟩
  | some a =>
    clear hr h1
    have he : ∀ w : World, (binOp .eql 22 (.slice (some a) n c) (.slice none 0 0)).run Tryd.prog w = .ok (.bool false) w := fun w => Lib.run_eql_slice_nil w 22 5 (some a) n c 0 0 Tryd.underlying22
    go_enter Tryd.func19, Tryd.ntmps19
    go_wp2_with (at_builtin; refine wpList_append_rd _ rfl (.tmp 5) (.tmp 6) 22 rfl w.heap.size 5 i0 (.int .u8 0) 1 1 Tryd.underlying22 hi hz0 hz1 hz2 rfl (by decide) (.slice (some ⟨w.heap.size, 0, none⟩) 0 0) 0 [] rfl (World.ownsRow_made w #[] 0 (Nat.le_refl _) (Nat.zero_le _) rfl) (some a) n c xs rfl (HR.out.fr (Fr.new w _ (fun _ => False)) (fun _ _ _ _ h => h)) H1.out (by simp only [maxLen]; omega) (by omega) (by simp) ?_; intro v' w1 hown1 hg1 hat1)
    go_ret
    refine ⟨v', rfl, by simpa using hown1, ?_⟩
    refine ((Fr.new w _ (fun _ => False)).trans (Fr.ofGrown hg1) (fun _ _ h => h) (fun k hk h => ?_))
    simp [Value.ownBlock] at h
    omega

theorem clone_nil (w : World) : Calls Tryd.prog 19 #[.slice none 0 0] w fun e w' => e = .returned (.slice none 0 0) ∧ w = w' := by
  have he : ∀ w : World, (binOp .eql 22 (.slice none 0 0) (.slice none 0 0)).run Tryd.prog w = .ok (.bool true) w := fun w => Lib.run_eql_slice_nil w 22 5 none 0 0 0 0 Tryd.underlying22
  go_enter Tryd.func19, Tryd.ntmps19
  go_wp2
  go_ret
  exact ⟨rfl, rfl⟩

theorem size5 (w : World) : (sizeOf 5).run Tryd.prog w = .ok 1 w := by kernel_rfl

theorem take_spl {w : World} {p : Nat} {hv : Value} {σ : St} (h : Spl w p hv σ) (hl : σ.held.length ≤ 30000) (h0 : 0 ≤ σ.size) (hs : σ.size + 1 ≤ σ.held.length) :
    Calls Tryd.prog 18 #[ptr p] w fun e w' => ∃ v, e = .returned v ∧ w'.ownsRow w.heap.size 5 1 v σ.size.toNat ((σ.held.drop (σ.held.length - σ.size.toNat)).map u8v) ∧
      Spl w' p (.slice none 0 0) { σ with held := [] } ∧ Fr w w' (· = p) := by
  obtain ⟨A, cap, rfl, hcap, hcm, hrd, hA, -⟩ := own_rd h.2
  obtain ⟨-, -, -, k3, k4, -⟩ := h.cells
  have f3 := h.free.2.2.2.1
  have H := Lib.hid h
  obtain ⟨s, hs'⟩ : ∃ s : Nat, σ.size = (s : Int) := ⟨σ.size.toNat, by omega⟩
  clear h0
  obtain ⟨d, hd⟩ : ∃ d : Nat, d + s = σ.held.length := ⟨σ.held.length - s, by omega⟩
  have hsl := fun w => run_cut_lo (P := Tryd.prog) w 22 5 1 Tryd.underlying22 size5 A σ.held.length cap d (by omega)
  have hrc := Lib.hid (hrd.cutA (lo := d) (hi := σ.held.length) (by omega) (Nat.le_refl _) hcap)
  rw [hs'] at k4 hs
  have e0 : σ.held.length - d = s := by omega
  have e1 : IntKind.i64.wrap ((σ.held.length : Int) - (s : Int)) = (d : Int) := by rw [IntWalk.i64_in _ (by omega)]; omega
  rw [e0] at hsl hrc
  have HE := Lib.hid e0
  have HS := Lib.hid hs'
  have HD := Lib.hid hd
  have hlist : List.take (s * 1) (List.drop (d * 1) (σ.held.map u8v)) = (σ.held.drop (σ.held.length - s)).map u8v := by
    have hd' : σ.held.length - s = d := by omega
    rw [hd', Nat.mul_one, Nat.mul_one, ← List.map_drop]
    exact List.take_of_length_le (by simp; omega)
  rw [hlist] at hrc
  have hone := Lib.hid (show ∀ u ∈ (σ.held.drop (σ.held.length - s)).map u8v, u.oneCell' = true from fun u hu => by
    obtain ⟨x, _, rfl⟩ := List.mem_map.1 hu
    rfl)
  have hnil := Lib.hid (show cutA A cap d 1 = none → s = 0 ∧ cap - d = 0 from fun e => by
    have := (hA (cutA_none.1 e)).1
    omega)
  clear h hrd hs' e0 hd hlist
  go_enter Tryd.func18, Tryd.ntmps18
  go_wp2
  go_still_tail 15, (by kernel_rfl)
  change wpList _ _ _ _ _ w.drew
  go_wp2_with (go_at_call 19; refine (clone_any _ _ _ _ _ (hrc.out.fr (Fr.drew w (fun _ => False)) (fun _ _ _ _ h => h)) hone.out hnil.out (by omega)).mono ?_; rintro e w1 ⟨v, rfl, hown, hf1⟩; have hb1 := Lib.hid (hf1.blk (H.out.1 : Blk w.drew p 45 _) (fun h => h)); have k13 := cell_at hb1.out 3; have f13 := free_at hb1.out 3; simp at k13)
  go_ret
  have hv : v.ownBlock ≠ some p := own_apart hown hb1.out (by decide)
  rw [HS.out]
  refine ⟨v, rfl, ?_, ⟨?_, World.ownsRow_nil _ _ _ _⟩, ?_⟩
  · exact (Fr.set (S := (· = p)) rfl).own hown (fun g hg e => hv (e ▸ hg))
  · have := hb1.out.put' 3 (.slice none 0 0) rfl
    rw [HS.out] at this
    simpa [HS.out] using this
  · exact ((Fr.drew w (· = p)).trans hf1 (fun _ _ h => h) (fun _ _ h => h.elim)).trans (Fr.set (S := (· = p)) rfl) (fun _ _ h => h) (fun _ _ h => h)

theorem info48 : (Tryd.prog.info? 45).map (fun i => (i.zero, i.size, i.bytes)) = some (some (.agg #[.pointer none, .int .i64 0, .nilFunc, .slice none 0 0, .int .i64 0, .int .i64 0]), 6, 64) := by kernel_rfl

theorem own_same {w : World} {p : Nat} {hv : Value} {σ : St} (h : Spl w p hv σ) :
    Calls Tryd.prog 17 #[ptr p] w fun e w' => e = .returned (.tuple #[]) ∧ w = w' := by
  obtain ⟨k0, -⟩ := h.cells
  obtain ⟨i0, hi, hz0, hz1, hz2⟩ := info_parts info48
  have he := fun w => run_eql_ptr_same (P := Tryd.prog) w ⟨p, 0, none⟩ Tryd.underlying38 hi
  clear h hz0 hz1 hz2 hi
  go_enter Tryd.func17, Tryd.ntmps17
  go_wp2
  refine bodyPost_ret (results_none rfl _ _ _) rfl ?_
  exact ⟨rfl, rfl⟩

def st0 : St := ⟨0, [], 0, 0⟩

theorem own_new {w : World} {p : Nat} (h : Blk w p 45 #[.pointer none, .int .i64 0, .nilFunc, .slice none 0 0, .int .i64 0, .int .i64 0]) :
    Calls Tryd.prog 17 #[ptr p] w fun e w' => e = .returned (.tuple #[]) ∧ Spl w' p (.slice none 0 0) st0 ∧ Fr w w' (· = p) := by
  have k0 := cell_at h 0
  have k1 := cell_at h 1
  have k3 := cell_at h 3
  simp at k0 k1 k3
  have f0 := free_at h 0
  have f3 := free_at h 3
  have H := Lib.hid h
  clear h
  have he := fun w => run_eql_nil_ptr (P := Tryd.prog) w ⟨p, 0, none⟩ Tryd.underlying38
  go_enter Tryd.func17, Tryd.ntmps17
  have H1 := Lib.hid ((H.out.put' 0 (ptr p) rfl).put' 3 (.slice none 0 0) rfl)
  go_wp2_with (first | (go_at_call 19; refine (clone_nil _).mono ?_; rintro e w1 ⟨rfl, rfl⟩) | (go_at_call 21; refine (enter_any p 0 (by omega) _ _ _ _ _ _ _ H1.out).mono ?_; rintro e w2 ⟨rfl, hb2, hf2⟩))
  go_end0
  refine ⟨rfl, ⟨hb2, World.ownsRow_nil _ _ _ _⟩, ?_⟩
  exact ((Fr.set (S := (· = p)) rfl).trans (Fr.set (S := (· = p)) rfl) (fun _ _ h => h) (fun _ _ h => h)).trans hf2 (fun _ _ h => h) (fun _ _ h => h)

theorem new_any (w : World) : Calls Tryd.prog 13 #[] w fun e w' => ∃ p, e = .returned (ptr p) ∧ Spl w' p (.slice none 0 0) st0 ∧ Fr w w' (fun _ => False) ∧ w.heap.size ≤ p := by
  have hb := Lib.hid (Blk.made w 45 #[.pointer none, .int .i64 0, .nilFunc, .slice none 0 0, .int .i64 0, .int .i64 0])
  go_enter Tryd.func13, Tryd.ntmps13
  go_wp2_with (go_at_call 17; refine (own_new hb.out).mono ?_; rintro e w1 ⟨rfl, hs, hf⟩)
  go_ret
  exact ⟨_, rfl, hs, (Fr.new w _ (fun _ => False)).trans hf (fun _ _ h => h) (fun k hk h => by omega), Nat.le_refl _⟩

theorem rest_nil (w : World) : Calls Tryd.prog 15 #[.pointer none] w fun e w' => e = .returned (.slice none 0 0) ∧ w = w' := by
  go_enter Tryd.func15, Tryd.ntmps15
  go_wp2
  go_ret
  exact ⟨rfl, rfl⟩

theorem rest_spl {w : World} {p : Nat} {hv : Value} {σ : St} (h : Spl w p hv σ) (hn : σ.held.length ≤ 1000000) :
    Calls Tryd.prog 15 #[ptr p] w fun e w' => ∃ v, e = .returned v ∧ w'.ownsRow w.heap.size 5 1 v σ.held.length (σ.held.map u8v) ∧ Fr w w' (fun _ => False) := by
  obtain ⟨A, cap, rfl, hcap, hcm, hrd, hA, -⟩ := own_rd h.2
  obtain ⟨-, -, -, k3, -, -⟩ := h.cells
  have hrd' := Lib.hid hrd
  have hone := Lib.hid (show ∀ u ∈ σ.held.map u8v, u.oneCell' = true from fun u hu => by
    obtain ⟨x, _, rfl⟩ := List.mem_map.1 hu
    rfl)
  have hA' := Lib.hid hA
  clear h hrd hA
  go_enter Tryd.func15, Tryd.ntmps15
  go_wp2_with (go_at_call 19; refine (clone_any _ _ _ _ _ hrd'.out hone.out hA'.out (by omega)).mono ?_; rintro e w1 ⟨v, rfl, hown, hf1⟩)
  go_ret
  exact ⟨v, rfl, hown, hf1⟩
end Go.Proofs.YtcjednmenbdmnaaDoor
