import Derived.Test.YtgfmodfakcbgfaaDoorTim
import Derived.Defers
import Derived.Recover
namespace Go.Proofs.YtgfmodfakcbgfaaDoor
open Go.RowKit Go.Mem Go.Clk

theorem catchI_panicking (q : Nat) (x : Value) (w : World) (hb : Blk w q 25 #[x]) :
    CallsD Tryd.prog 33 #[.pointer (some ⟨q, 0, none⟩)] (.panicking [{ v := .iface 25 (.int .i64 7), recovered := false }]) w fun e u' w' =>
      e = .returned (.tuple #[]) ∧ u' = .panicking [{ v := .iface 25 (.int .i64 7), recovered := true }] ∧ w' = w.setCell ⟨q, 0, none⟩ (.int .i64 7) := by
  have hc := cell_at hb 0
  have hz := free_at hb 0
  simp at hc
  have hta : ∀ w : World, (Instr.typeAssert (.iface 25 (.int .i64 7)) 20 25 false).run Tryd.prog w = .ok (.int .i64 7) w := fun w => by kernel_rfl
  have hne : ∀ w : World, (binOp .neq 20 (.iface 25 (.int .i64 7)) .nilIface).run Tryd.prog w = .ok (.bool true) w := fun w => by kernel_rfl
  refine callsD_of_wpS Tryd.func33 rfl fun c₀ cs hu => ?_
  apply wpS_seq
  apply wpS_region
  simp [wpOpsS, go_sem, recoverD, hu, Tryd.ntmps33, Exit.thenS]
  apply wpS_seq
  apply wpS_region
  simp [wpOpsS, go_sem, Exit.thenS, Act.eval, Array.replicate, hne]
  refine wpS_cond (t := true) (by simp [Act.eval]) ?_
  simp only [if_true]
  apply wpS_region
  simp [wpOpsS, go_sem, Act.eval, hta, hc, hz, bodyPostS, results, Tryd.results33]
theorem catchI_idle (q : Nat) (w : World) :
    CallsD Tryd.prog 33 #[.pointer (some ⟨q, 0, none⟩)] .returning w fun e u' w' => e = .returned (.tuple #[]) ∧ u' = .returning ∧ w' = w := by
  have hne : ∀ w : World, (binOp .neq 20 .nilIface .nilIface).run Tryd.prog w = .ok (.bool false) w := fun w => by kernel_rfl
  refine callsD_of_wpS Tryd.func33 rfl fun c₀ cs hu => ?_
  apply wpS_seq
  apply wpS_region
  simp [wpOpsS, go_sem, recoverD, hu, Tryd.ntmps33, Exit.thenS]
  apply wpS_seq
  apply wpS_region
  simp [wpOpsS, go_sem, Exit.thenS, Act.eval, Array.replicate, hne]
  refine wpS_cond (t := false) (by simp [Act.eval]) ?_
  simp only [Bool.false_eq_true, if_false]
  refine wpS_of_wp (wp_skip ?_)
  cases c₀
  simp_all [bodyPostS, results, Tryd.results33]

/-- what read answers of a text -/
def ReadI (g : Option Int) (w : World) (e : Ending) (w' : World) : Prop := Fr w w' (fun _ => False) ∧ match g with
  | none => e = .returned (.tuple #[.int .i64 0, .int .i64 7])
  | some n => e = .returned (.tuple #[.int .i64 n, .int .i64 0])
theorem new_two (w : World) (l : Bs) (cs : Array Value) (t : TypeId) : Fr w ((w.alloc (.cells cs t)).alloc (.cells #[strV l, .int .i64 0] 51)) (fun _ => False) ∧
    Blk ((w.alloc (.cells cs t)).alloc (.cells #[strV l, .int .i64 0] 51)) w.heap.size t cs ∧
    RdAt ((w.alloc (.cells cs t)).alloc (.cells #[strV l, .int .i64 0] 51)) (w.heap.size + 1) ⟨l.toArray⟩ l := by
  have f1 := Fr.new w (.cells cs t) (fun _ => False)
  have f2 := Fr.new (w.alloc (.cells cs t)) (.cells #[strV l, .int .i64 0] 51) (fun _ => False)
  have b1 := Blk.made w t cs
  have b2 := Blk.made (w.alloc (.cells cs t)) 51 #[strV l, .int .i64 0]
  have hsz : (w.alloc (.cells cs t)).heap.size = w.heap.size + 1 := by simp
  rw [hsz] at b2
  exact ⟨f1.trans f2 (fun _ _ h => h) (fun _ _ h => h), f2.blk b1 (fun h => h), 0, Nat.zero_le _, by simp, b2⟩
theorem whole_none {α : Type} {z : α} {f : Bs → Option (α × Bs)} {l : Bs} (h0 : l ≠ [45]) (h : f l = none) : wholeD z f l = none := by rw [wholeD, if_neg h0, h]
theorem whole_some {α : Type} {z : α} {f : Bs → Option (α × Bs)} {l : Bs} {v : α} (h0 : l ≠ [45]) (h : f l = some (v, [])) : wholeD z f l = some v := by rw [wholeD, if_neg h0, h]; simp
theorem whole_more {α : Type} {z : α} {f : Bs → Option (α × Bs)} {l : Bs} {v : α} {r : Bs} (h0 : l ≠ [45]) (h : f l = some (v, r)) (hr : r ≠ []) : wholeD z f l = none := by rw [wholeD, if_neg h0, h]; simp [hr]
set_option maxHeartbeats 800000 in
theorem readI_any (l : Bs) (w : World) (hz : l.length ≤ 1000000) :
    Calls Tryd.prog 21 #[strV l, .func (.func 22) #[] #[]] w (ReadI (amtD l) w) := by
  have hmf : ∀ (fn : Fn) (first cap : Array Value) (w : World), (Instr.makeFunc fn first cap).run Tryd.prog w = .ok (.func fn first cap) w := fun _ _ _ _ => rfl
  by_cases h0 : l = [45]
  · subst h0
    have hb := Blk.made w 25 #[.int .i64 0]
    have hc := cell_at hb 0
    have hz := free_at hb 0
    simp at hc
    have HB := Lib.hid hb
    clear hb
    go_enter_defers Tryd.func21, Tryd.ntmps21
    go_wp2_with fail
    have hc := cell_at (HB.out.put 0 (.int .i64 0)) 0
    simp at hc
    simp [bodyPostD, Leaves, results, Tryd.results21, go_sem]
    exact ⟨Fr.new _ _ _, rfl⟩
  · have e0 : (l == [45]) = false := by simpa using h0
    obtain ⟨hf, hk, hr⟩ := new_two w l #[.int .i64 0] 25
    have hzs : (⟨l.toArray⟩ : ByteArray).size ≤ 1000000 := by rw [str_size]; exact hz
    have HQ := Lib.hid (amount_any _ _ _ l hr hzs)
    have HF := Lib.hid hf
    have HK := Lib.hid hk
    clear hf hk hr
    rcases hg : amountD l with _ | ⟨n, r⟩
    · rw [show amtD l = none from whole_none h0 hg]
      rw [hg] at HQ
      clear hg h0
      go_enter_defers Tryd.func21, Tryd.ntmps21
      go_wp2_with fail
      refine HQ.out.mono ?_
      rintro e w2 ⟨rfl, hf2⟩
      have HF2 := Lib.hid hf2
      have HK2 := Lib.hid (hf2.blk HK.out (by omega))
      clear hf2
      go_wp2_with fail
      refine leaves_cons (f := 33) (args := #[.pointer (some ⟨w.heap.size, 0, none⟩)]) (by simp) (by simp [go_sem]) ?_
      refine (catchI_panicking w.heap.size _ _ HK2.out).mono ?_
      rintro e u' w3 ⟨rfl, rfl, rfl⟩
      have hc := cell_at (HK2.out.put 0 (.int .i64 7)) 0
      simp at hc
      simp [Leaves, settle, results, Tryd.results21, go_sem, hc]
      exact ⟨(HF.out.fresh HF2.out (fun i e => by omega)).fresh (Fr.set (S := (· = w.heap.size)) rfl) (fun i e => by omega), rfl⟩
    · by_cases hr0 : r = []
      · subst hr0
        rw [show amtD l = some n from whole_some h0 hg]
        rw [hg] at HQ
        clear hg h0
        go_enter_defers Tryd.func21, Tryd.ntmps21
        go_wp2_with fail
        refine HQ.out.mono ?_
        rintro e w2 ⟨rfl, hr2, hf2⟩
        have HF2 := Lib.hid hf2
        have HK2 := Lib.hid (hf2.blk HK.out (by omega))
        have HE := Lib.hid (end_none w2 _ _ hr2 hzs)
        have f0 := free_at HK2.out 0
        have c0 := cell_at HK2.out 0
        simp at c0
        clear hf2 hr2
        go_wp2_with fail
        refine HE.out.mono ?_
        rintro e w3 ⟨rfl, m, rfl⟩
        go_wp2_with fail
        refine leaves_cons (f := 33) (args := #[.pointer (some ⟨w.heap.size, 0, none⟩)]) (by simp) (by simp [go_sem]) ?_
        refine (catchI_idle w.heap.size _).mono ?_
        rintro e u' w3 ⟨rfl, rfl, rfl⟩
        have hc := cell_at ((show Blk (w2.drewN m) _ _ _ from HK2.out).put 0 (.int .i64 0)) 0
        simp at hc
        simp [Leaves, settle, results, Tryd.results21, go_sem, hc]
        exact ⟨(fd (HF.out.fresh HF2.out (fun i e => by omega)) _).fresh (Fr.set (S := (· = w.heap.size)) rfl) (fun i e => by omega), rfl⟩
      · rw [show amtD l = none from whole_more h0 hg hr0]
        rw [hg] at HQ
        clear hg h0
        go_enter_defers Tryd.func21, Tryd.ntmps21
        go_wp2_with fail
        refine HQ.out.mono ?_
        rintro e w2 ⟨rfl, hr2, hf2⟩
        have HF2 := Lib.hid hf2
        have HK2 := Lib.hid (hf2.blk HK.out (by omega))
        have HE := Lib.hid (end_some w2 _ _ r hr0 hr2 hzs)
        clear hf2 hr2
        go_wp2_with fail
        refine HE.out.mono ?_
        rintro e w3 ⟨rfl, m, rfl⟩
        go_wp2_with fail
        refine leaves_cons (f := 33) (args := #[.pointer (some ⟨w.heap.size, 0, none⟩)]) (by simp) (by simp [go_sem]) ?_
        refine (catchI_panicking w.heap.size _ _ (show Blk (w2.drewN m) _ _ _ from HK2.out)).mono ?_
        rintro e u' w3 ⟨rfl, rfl, rfl⟩
        have hc := cell_at ((show Blk (w2.drewN m) _ _ _ from HK2.out).put 0 (.int .i64 7)) 0
        simp at hc
        simp [Leaves, settle, results, Tryd.results21, go_sem, hc]
        exact ⟨(fd (HF.out.fresh HF2.out (fun i e => by omega)) _).fresh (Fr.set (S := (· = w.heap.size)) rfl) (fun i e => by omega), rfl⟩
end Go.Proofs.YtgfmodfakcbgfaaDoor
