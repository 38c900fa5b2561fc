import Derived.Test.YtbolgodoifbnnaaDoorRec
namespace Go.Proofs.YtbolgodoifbnnaaDoor
open Go.RowKit Go.Mem Go.Esc

theorem Strs.base {w : World} {B B' : Nat} {v : Value} {vs : List Bs} (h : Strs w B v vs) (hb : B' ≤ B) : Strs w B' v vs := by
  refine ⟨h.1, ?_⟩
  rcases h.2 with h2 | ⟨g, cap, cur, hv, hg, r⟩
  · exact .inl h2
  · exact .inr ⟨g, cap, cur, hv, by omega, r⟩
theorem catchL_panicking (q : Nat) (k : Int) (x : Value) (w : World) (hb : Blk w q 23 #[x]) :
    CallsD Tryd.prog 41 #[.pointer (some ⟨q, 0, none⟩)] (.panicking [{ v := .iface 23 (.int .i64 k), recovered := false }]) w fun e u' w' =>
      e = .returned (.tuple #[]) ∧ u' = .panicking [{ v := .iface 23 (.int .i64 k), recovered := true }] ∧ w' = w.setCell ⟨q, 0, none⟩ (.int .i64 k) := by
  have hc := cell_at hb 0
  have hz := free_at hb 0
  simp at hc
  have hta : ∀ w : World, (Instr.typeAssert (.iface 23 (.int .i64 k)) 20 23 false).run Tryd.prog w = .ok (.int .i64 k) w := fun w => by kernel_rfl
  have hne : ∀ w : World, (binOp .neq 20 (.iface 23 (.int .i64 k)) .nilIface).run Tryd.prog w = .ok (.bool true) w := fun w => by kernel_rfl
  refine callsD_of_wpS Tryd.func41 rfl fun c₀ cs hu => ?_
  apply wpS_seq
  apply wpS_region
  simp [wpOpsS, go_sem, recoverD, hu, Tryd.ntmps41, Exit.thenS]
  apply wpS_seq
  apply wpS_region
  simp [wpOpsS, go_sem, Exit.thenS, Act.eval, Array.replicate, hne]
  refine wpS_cond (t := true) (by simp [Act.eval, Array.replicate]) ?_
  simp only [if_true]
  apply wpS_region
  simp [wpOpsS, go_sem, Act.eval, hta, hc, hz, bodyPostS, results, Tryd.results41]
theorem catchL_idle (q : Nat) (w : World) :
    CallsD Tryd.prog 41 #[.pointer (some ⟨q, 0, none⟩)] .returning w fun e u' w' => e = .returned (.tuple #[]) ∧ u' = .returning ∧ w' = w := by
  have hne : ∀ w : World, (binOp .neq 20 .nilIface .nilIface).run Tryd.prog w = .ok (.bool false) w := fun w => by kernel_rfl
  refine callsD_of_wpS Tryd.func41 rfl fun c₀ cs hu => ?_
  apply wpS_seq
  apply wpS_region
  simp [wpOpsS, go_sem, recoverD, hu, Tryd.ntmps41, Exit.thenS]
  apply wpS_seq
  apply wpS_region
  simp [wpOpsS, go_sem, Exit.thenS, Act.eval, Array.replicate, hne]
  refine wpS_cond (t := false) (by simp [Act.eval, Array.replicate]) ?_
  simp only [Bool.false_eq_true, if_false]
  refine wpS_of_wp (wp_skip ?_)
  cases c₀
  simp_all [bodyPostS, results, Tryd.results41]

/-- what read answers of a text, as fields -/
def ReadL (g : Got (List Bs)) (s : ByteArray) (w : World) (e : Ending) (w' : World) : Prop :=
  Fr w w' (fun _ => False) ∧ match g with
  | .err k => e = .returned (.tuple #[.slice none 0 0, .int .i64 0, .int .i64 k])
  | .got vs r => ∃ v, e = .returned (.tuple #[v, .int .i64 ((s.size - r.length : Nat) : Int), .int .i64 0]) ∧ Strs w' w.heap.size v vs
theorem readL_any (s : ByteArray) (w : World) (hz : s.size ≤ 999990) :
    Calls Tryd.prog 26 #[.string s, .func (.func 27) #[] #[]] w (ReadL (fieldsD s.data.toList) s w) := by
  have hmf : ∀ (fn : Fn) (first cap : Array Value) (w : World), (Instr.makeFunc fn first cap).run Tryd.prog w = .ok (.func fn first cap) w := fun _ _ _ _ => rfl
  obtain ⟨hf, hk, hr⟩ := new_two w s
  have HQ := Lib.hid (fields_any _ _ s _ hr hz)
  have HF := Lib.hid hf
  have HK := Lib.hid hk
  clear hf hk hr
  obtain ⟨T, hT⟩ : ∃ T, fieldsD s.data.toList = T := ⟨_, rfl⟩
  rw [hT] at HQ ⊢
  clear hT
  cases T with
  | err k =>
    go_enter_defers Tryd.func26, Tryd.ntmps26
    go_wp2_with fail
    refine HQ.out.mono ?_
    rintro e w2 ⟨rfl, hf2⟩
    have HF2 := Lib.hid hf2
    have HK2 := Lib.hid (hf2.blk HK.out (by omega))
    clear hf2
    go_wp2_with fail
    refine leaves_cons (f := 41) (args := #[.pointer (some ⟨w.heap.size, 0, none⟩)]) (by simp) (by simp [go_sem]) ?_
    refine (catchL_panicking w.heap.size k _ _ HK2.out).mono ?_
    rintro e u' w3 ⟨rfl, rfl, rfl⟩
    have hc := cell_at (HK2.out.put 0 (.int .i64 k)) 0
    simp at hc
    simp [Leaves, settle, results, Tryd.results26, go_sem, hc]
    refine ⟨(HF.out.fresh HF2.out (fun i e => by omega)).fresh (Fr.set (S := (· = w.heap.size)) rfl) (fun i e => by omega), rfl⟩
  | got v r =>
    go_enter_defers Tryd.func26, Tryd.ntmps26
    go_wp2_with fail
    refine HQ.out.mono ?_
    rintro e w2 ⟨v2, rfl, hs2, hr2, hf2⟩
    have HS2 := Lib.hid hs2
    have HF2 := Lib.hid hf2
    have hk2 := hf2.blk HK.out (by omega)
    have HK2 := Lib.hid hk2
    obtain ⟨a, ha, hd, hb⟩ := hr2
    have hlen := (drop_empty ha hd).2
    have HA := Lib.hid (show s.size - r.length = a by omega)
    have c1 := cell_at hb 1
    have c0 := cell_at hk2 0
    have f0 := free_at hk2 0
    simp at c1 c0
    clear hf2 hk2 hd hb hlen hs2
    go_wp2_with fail
    go_region
    go_wp2_with fail
    refine leaves_cons (f := 41) (args := #[.pointer (some ⟨w.heap.size, 0, none⟩)]) (by simp) (by simp [go_sem]) ?_
    refine (catchL_idle w.heap.size _).mono ?_
    rintro e u' w3 ⟨rfl, rfl, rfl⟩
    have hc := cell_at (HK2.out.put 0 (.int .i64 0)) 0
    simp at hc
    simp [Leaves, settle, results, Tryd.results26, go_sem, hc]
    refine ⟨((HF.out.fresh HF2.out (fun i e => by omega)).fresh (Fr.set (S := (· = w.heap.size)) rfl) (fun i e => by omega)).trans (Fr.drew _ _) (fun _ _ h => h) (fun _ _ h => h), ?_⟩
    refine ⟨v2, by rw [HA.out], ?_⟩
    exact ((HS2.out.fr (Fr.set (S := (· = w.heap.size)) rfl) (fun k hk e => by simp at hk; omega)).fr (Fr.drew _ (fun _ => False)) (fun _ _ h => h)).base HF.out.size

theorem Unquote_any (s : ByteArray) (w : World) (hz : s.size ≤ 999990) : Calls Tryd.prog 14 #[.string s] w (ReadS (quotedD s.data.toList) s w) := by
  have HQ := Lib.hid (readS_any s w hz)
  obtain ⟨T, hT⟩ : ∃ T, quotedD s.data.toList = T := ⟨_, rfl⟩
  rw [hT] at HQ ⊢
  clear hT
  cases T with
  | err k =>
    go_enter Tryd.func14, Tryd.ntmps14
    go_wp2_with fail
    refine HQ.out.mono ?_
    rintro e w2 ⟨hf2, rfl⟩
    have HF2 := Lib.hid hf2
    clear hf2
    go_wp2_with fail
    go_ret3
    exact ⟨HF2.out, rfl⟩
  | got v r =>
    go_enter Tryd.func14, Tryd.ntmps14
    go_wp2_with fail
    refine HQ.out.mono ?_
    rintro e w2 ⟨hf2, rfl⟩
    have HF2 := Lib.hid hf2
    clear hf2
    go_wp2_with fail
    go_ret3
    exact ⟨HF2.out, rfl⟩

/-- what Fields answers of a text -/
def FldL (g : Got (List Bs)) (w : World) (e : Ending) (w' : World) : Prop :=
  Fr w w' (fun _ => False) ∧ match g with
  | .err k => e = .returned (.tuple #[.slice none 0 0, .int .i64 k])
  | .got vs _ => ∃ v, e = .returned (.tuple #[v, .int .i64 0]) ∧ Strs w' w.heap.size v vs
theorem Fields_any (s : ByteArray) (w : World) (hz : s.size ≤ 999990) : Calls Tryd.prog 15 #[.string s] w (FldL (fieldsD s.data.toList) w) := by
  have HQ := Lib.hid (readL_any s w hz)
  obtain ⟨T, hT⟩ : ∃ T, fieldsD s.data.toList = T := ⟨_, rfl⟩
  rw [hT] at HQ ⊢
  clear hT
  cases T with
  | err k =>
    go_enter Tryd.func15, Tryd.ntmps15
    go_wp2_with fail
    refine HQ.out.mono ?_
    rintro e w2 ⟨hf2, rfl⟩
    have HF2 := Lib.hid hf2
    clear hf2
    go_wp2_with fail
    go_ret2
    exact ⟨HF2.out, rfl⟩
  | got v r =>
    go_enter Tryd.func15, Tryd.ntmps15
    go_wp2_with fail
    refine HQ.out.mono ?_
    rintro e w2 ⟨hf2, v2, rfl, hs2⟩
    have HF2 := Lib.hid hf2
    have HS2 := Lib.hid hs2
    clear hf2 hs2
    go_wp2_with fail
    go_ret2
    exact ⟨HF2.out, _, rfl, HS2.out⟩
end Go.Proofs.YtbolgodoifbnnaaDoor
