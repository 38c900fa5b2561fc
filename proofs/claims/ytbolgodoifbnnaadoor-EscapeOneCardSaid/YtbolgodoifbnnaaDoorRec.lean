import Derived.Test.YtbolgodoifbnnaaDoorFld
import Derived.Defers
import Derived.Recover
import Derived.Tactics2
namespace Go.Proofs.YtbolgodoifbnnaaDoor
open Go.RowKit Go.Mem Go.Esc

theorem catchS_panicking (q : Nat) (k : Int) (x : Value) (w : World) (hb : Blk w q 23 #[x]) :
    CallsD Tryd.prog 36 #[.pointer (some ⟨q, 0, none⟩)] (.panicking [{ v := .iface 23 (.int .i64 k), recovered := false }]) w fun e u' w' =>
      e = .returned (.tuple #[]) ∧ u' = .panicking [{ v := .iface 23 (.int .i64 k), recovered := true }] ∧ w' = w.setCell ⟨q, 0, none⟩ (.int .i64 k) := by
  have hc := cell_at hb 0
  have hz := free_at hb 0
  simp at hc
  have hta : ∀ w : World, (Instr.typeAssert (.iface 23 (.int .i64 k)) 20 23 false).run Tryd.prog w = .ok (.int .i64 k) w := fun w => by kernel_rfl
  have hne : ∀ w : World, (binOp .neq 20 (.iface 23 (.int .i64 k)) .nilIface).run Tryd.prog w = .ok (.bool true) w := fun w => by kernel_rfl
  refine callsD_of_wpS Tryd.func36 rfl fun c₀ cs hu => ?_
  apply wpS_seq
  apply wpS_region
  simp [wpOpsS, go_sem, recoverD, hu, Tryd.ntmps36, Exit.thenS]
  apply wpS_seq
  apply wpS_region
  simp [wpOpsS, go_sem, Exit.thenS, Act.eval, Array.replicate, hne]
  refine wpS_cond (t := true) (by simp [Act.eval, Array.replicate]) ?_
  simp only [if_true]
  apply wpS_region
  simp [wpOpsS, go_sem, Act.eval, hta, hc, hz, bodyPostS, results, Tryd.results36]
theorem catchS_idle (q : Nat) (w : World) :
    CallsD Tryd.prog 36 #[.pointer (some ⟨q, 0, none⟩)] .returning w fun e u' w' => e = .returned (.tuple #[]) ∧ u' = .returning ∧ w' = w := by
  have hne : ∀ w : World, (binOp .neq 20 .nilIface .nilIface).run Tryd.prog w = .ok (.bool false) w := fun w => by kernel_rfl
  refine callsD_of_wpS Tryd.func36 rfl fun c₀ cs hu => ?_
  apply wpS_seq
  apply wpS_region
  simp [wpOpsS, go_sem, recoverD, hu, Tryd.ntmps36, Exit.thenS]
  apply wpS_seq
  apply wpS_region
  simp [wpOpsS, go_sem, Exit.thenS, Act.eval, Array.replicate, hne]
  refine wpS_cond (t := false) (by simp [Act.eval, Array.replicate]) ?_
  simp only [Bool.false_eq_true, if_false]
  refine wpS_of_wp (wp_skip ?_)
  cases c₀
  simp_all [bodyPostS, results, Tryd.results36]

/-- what read answers of a text -/
def ReadS (g : Got Bs) (s : ByteArray) (w : World) (e : Ending) (w' : World) : Prop :=
  Fr w w' (fun _ => False) ∧ match g with
  | .err k => e = .returned (.tuple #[.string ⟨#[]⟩, .int .i64 0, .int .i64 k])
  | .got v r => e = .returned (.tuple #[strV v, .int .i64 ((s.size - r.length : Nat) : Int), .int .i64 0])
theorem new_two (w : World) (s : ByteArray) : Fr w ((w.alloc (.cells #[.int .i64 0] 23)).alloc (.cells #[.string s, .int .i64 0] 66)) (fun _ => False) ∧
    Blk ((w.alloc (.cells #[.int .i64 0] 23)).alloc (.cells #[.string s, .int .i64 0] 66)) w.heap.size 23 #[.int .i64 0] ∧
    RdAt ((w.alloc (.cells #[.int .i64 0] 23)).alloc (.cells #[.string s, .int .i64 0] 66)) (w.heap.size + 1) s s.data.toList := by
  have f1 := Fr.new w (.cells #[.int .i64 0] 23) (fun _ => False)
  have f2 := Fr.new (w.alloc (.cells #[.int .i64 0] 23)) (.cells #[.string s, .int .i64 0] 66) (fun _ => False)
  have b1 := Blk.made w 23 #[.int .i64 0]
  have b2 := Blk.made (w.alloc (.cells #[.int .i64 0] 23)) 66 #[.string s, .int .i64 0]
  have hsz : (w.alloc (.cells #[.int .i64 0] 23)).heap.size = w.heap.size + 1 := by simp
  rw [hsz] at b2
  exact ⟨f1.trans f2 (fun _ _ h => h) (fun _ _ h => h), f2.blk b1 (fun h => h), 0, Nat.zero_le _, rfl, b2⟩
theorem fin_fr {w w2 w3 : World} {b q : Nat} {S : Nat → Prop} (h : Fr w w2 (fun _ => False)) (h2 : Fr w2 w3 S) (hb : ∀ k, S k → w.heap.size ≤ k) : Fr w w3 (fun _ => False) := h.fresh h2 hb
theorem readS_any (s : ByteArray) (w : World) (hz : s.size ≤ 999990) :
    Calls Tryd.prog 24 #[.string s, .func (.func 25) #[] #[]] w (ReadS (quotedD s.data.toList) s w) := by
  have hmf : ∀ (fn : Fn) (first cap : Array Value) (w : World), (Instr.makeFunc fn first cap).run Tryd.prog w = .ok (.func fn first cap) w := fun _ _ _ _ => rfl
  obtain ⟨hf, hk, hr⟩ := new_two w s
  have HQ := Lib.hid (quoted_any _ _ s _ hr hz)
  have HF := Lib.hid hf
  have HK := Lib.hid hk
  clear hf hk hr
  obtain ⟨T, hT⟩ : ∃ T, quotedD s.data.toList = T := ⟨_, rfl⟩
  rw [hT] at HQ ⊢
  clear hT
  cases T with
  | err k =>
    go_enter_defers Tryd.func24, Tryd.ntmps24
    go_wp2_with fail
    refine HQ.out.mono ?_
    rintro e w2 ⟨rfl, hf2⟩
    have HF2 := Lib.hid hf2
    have HK2 := Lib.hid (hf2.blk HK.out (by omega))
    clear hf2
    go_wp2_with fail
    refine leaves_cons (f := 36) (args := #[.pointer (some ⟨w.heap.size, 0, none⟩)]) (by simp) (by simp [go_sem]) ?_
    refine (catchS_panicking w.heap.size k _ _ HK2.out).mono ?_
    rintro e u' w3 ⟨rfl, rfl, rfl⟩
    have hc := cell_at (HK2.out.put 0 (.int .i64 k)) 0
    simp at hc
    simp [Leaves, settle, results, Tryd.results24, go_sem, hc]
    refine ⟨(HF.out.fresh HF2.out (fun i e => by omega)).fresh (Fr.set (S := (· = w.heap.size)) rfl) (fun i e => by omega), rfl⟩
  | got v r =>
    go_enter_defers Tryd.func24, Tryd.ntmps24
    go_wp2_with fail
    refine HQ.out.mono ?_
    rintro e w2 ⟨rfl, hr2, hf2⟩
    have HF2 := Lib.hid hf2
    have hk2 := hf2.blk HK.out (by omega)
    have HK2 := Lib.hid hk2
    obtain ⟨a, ha, hd, hb⟩ := hr2
    have hlen := (drop_empty ha hd).2
    have HA := Lib.hid (show s.size - r.length = a by omega)
    have c1 := cell_at hb 1
    have c0 := cell_at hk2 0
    have f0 := free_at hk2 0
    simp at c1 c0
    clear hf2 hk2 hd hb hlen
    go_wp2_with fail
    go_region
    go_wp2_with fail
    refine leaves_cons (f := 36) (args := #[.pointer (some ⟨w.heap.size, 0, none⟩)]) (by simp) (by simp [go_sem]) ?_
    refine (catchS_idle w.heap.size _).mono ?_
    rintro e u' w3 ⟨rfl, rfl, rfl⟩
    have hc := cell_at (HK2.out.put 0 (.int .i64 0)) 0
    simp at hc
    simp [Leaves, settle, results, Tryd.results24, go_sem, hc]
    refine ⟨((HF.out.fresh HF2.out (fun i e => by omega)).fresh (Fr.set (S := (· = w.heap.size)) rfl) (fun i e => by omega)).trans (Fr.drew _ _) (fun _ _ h => h) (fun _ _ h => h), ?_⟩
    show _ = _
    rw [HA.out]
end Go.Proofs.YtbolgodoifbnnaaDoor
