import Derived.Test.YtgfmodfakcbgfaaDoorRed
namespace Go.Proofs.YtgfmodfakcbgfaaDoor
open Go.RowKit Go.Mem Go.Clk

theorem catchA_panicking (q : Nat) (x : Value) (w : World) (hb : Blk w q 25 #[x]) :
    CallsD Tryd.prog 27 #[.pointer (some ⟨q, 0, none⟩)] (.panicking [{ v := .iface 25 (.int .i64 7), recovered := false }]) w fun e u' w' =>
      e = .returned (.tuple #[]) ∧ u' = .panicking [{ v := .iface 25 (.int .i64 7), recovered := true }] ∧ w' = w.setCell ⟨q, 0, none⟩ (.int .i64 7) := by
  have hc := cell_at hb 0
  have hz := free_at hb 0
  simp at hc
  have hta : ∀ w : World, (Instr.typeAssert (.iface 25 (.int .i64 7)) 20 25 false).run Tryd.prog w = .ok (.int .i64 7) w := fun w => by kernel_rfl
  have hne : ∀ w : World, (binOp .neq 20 (.iface 25 (.int .i64 7)) .nilIface).run Tryd.prog w = .ok (.bool true) w := fun w => by kernel_rfl
  refine callsD_of_wpS Tryd.func27 rfl fun c₀ cs hu => ?_
  apply wpS_seq
  apply wpS_region
  simp [wpOpsS, go_sem, recoverD, hu, Tryd.ntmps27, Exit.thenS]
  apply wpS_seq
  apply wpS_region
  simp [wpOpsS, go_sem, Exit.thenS, Act.eval, Array.replicate, hne]
  refine wpS_cond (t := true) (by simp [Act.eval]) ?_
  simp only [if_true]
  apply wpS_region
  simp [wpOpsS, go_sem, Act.eval, hta, hc, hz, bodyPostS, results, Tryd.results27]
theorem catchA_idle (q : Nat) (w : World) :
    CallsD Tryd.prog 27 #[.pointer (some ⟨q, 0, none⟩)] .returning w fun e u' w' => e = .returned (.tuple #[]) ∧ u' = .returning ∧ w' = w := by
  have hne : ∀ w : World, (binOp .neq 20 .nilIface .nilIface).run Tryd.prog w = .ok (.bool false) w := fun w => by kernel_rfl
  refine callsD_of_wpS Tryd.func27 rfl fun c₀ cs hu => ?_
  apply wpS_seq
  apply wpS_region
  simp [wpOpsS, go_sem, recoverD, hu, Tryd.ntmps27, Exit.thenS]
  apply wpS_seq
  apply wpS_region
  simp [wpOpsS, go_sem, Exit.thenS, Act.eval, Array.replicate, hne]
  refine wpS_cond (t := false) (by simp [Act.eval]) ?_
  simp only [Bool.false_eq_true, if_false]
  refine wpS_of_wp (wp_skip ?_)
  cases c₀
  simp_all [bodyPostS, results, Tryd.results27]

/-- what read answers of a text, as a time -/
def ReadA (g : Option (Int × Nat)) (w : World) (e : Ending) (w' : World) : Prop := Fr w w' (fun _ => False) ∧ match g with
  | none => e = .returned (.tuple #[atV (0, 0), .int .i64 7])
  | some v => e = .returned (.tuple #[atV v, .int .i64 0])
theorem new_three (w : World) (l : Bs) : Fr w (((w.alloc (.cells #[.int .i64 0, .int .i64 0] 24)).alloc (.cells #[.int .i64 0] 25)).alloc (.cells #[strV l, .int .i64 0] 51)) (fun _ => False) ∧
    Blk (((w.alloc (.cells #[.int .i64 0, .int .i64 0] 24)).alloc (.cells #[.int .i64 0] 25)).alloc (.cells #[strV l, .int .i64 0] 51)) w.heap.size 24 #[.int .i64 0, .int .i64 0] ∧
    Blk (((w.alloc (.cells #[.int .i64 0, .int .i64 0] 24)).alloc (.cells #[.int .i64 0] 25)).alloc (.cells #[strV l, .int .i64 0] 51)) (w.heap.size + 1) 25 #[.int .i64 0] ∧
    RdAt (((w.alloc (.cells #[.int .i64 0, .int .i64 0] 24)).alloc (.cells #[.int .i64 0] 25)).alloc (.cells #[strV l, .int .i64 0] 51)) (w.heap.size + 2) ⟨l.toArray⟩ l := by
  obtain ⟨h1, h2, h3⟩ := new_two (w.alloc (.cells #[.int .i64 0, .int .i64 0] 24)) l #[.int .i64 0] 25
  have f1 := Fr.new w (.cells #[.int .i64 0, .int .i64 0] 24) (fun _ => False)
  have b1 := Blk.made w 24 #[.int .i64 0, .int .i64 0]
  have hsz : (w.alloc (.cells #[.int .i64 0, .int .i64 0] 24)).heap.size = w.heap.size + 1 := by simp
  rw [hsz] at h2 h3
  exact ⟨ff f1 h1, h1.blk b1 (fun h => h), h2, h3⟩
theorem load_at {w : World} {g : Nat} {x y : Value} (h : Blk w g 24 #[x, y]) : (loadVar 24 ⟨g, 0, none⟩).run Tryd.prog w = .ok (.agg #[x, y]) w := run_loadVar_row w g 24 24 #[x, y] (0, 0) _ h Tryd.underlying24 rfl infoAt
theorem results_readA (tmps : Array Value) (w : World) (q : Nat) (x y : Value) (k : Int) (h4 : tmps.getD 4 undef = .pointer (some ⟨q, 0, none⟩)) (h5 : tmps.getD 5 undef = .pointer (some ⟨q + 1, 0, none⟩))
    (hb : Blk w q 24 #[x, y]) (hk : Blk w (q + 1) 25 #[.int .i64 k]) : (results Tryd.f18 tmps).run Tryd.prog w = .ok (.tuple #[.agg #[x, y], .int .i64 k]) w := by
  have h4' : tmps[4]?.getD undef = .pointer (some ⟨q, 0, none⟩) := by simpa using h4
  have h5' : tmps[5]?.getD undef = .pointer (some ⟨q + 1, 0, none⟩) := by simpa using h5
  have hL := load_at hb
  have hk0 := cell_at hk 0
  simp at hk0
  have hK : (loadVar 25 ⟨q + 1, 0, none⟩).run Tryd.prog w = .ok (.int .i64 k) w := by
    simp [go_sem, hk0]
  simp [results, Tryd.results18, h4', h5', asAddr, hL, hK]
theorem frs {w w2 : World} {g : Nat} {o : Nat} {v : Value} {q : Nat} (h : Fr w w2 (fun _ => False)) (hg : w.heap.size ≤ g) (hq : g = q) : Fr w (w2.setCell ⟨g, o, none⟩ v) (fun _ => False) := h.fresh (Fr.set (S := (· = g)) rfl) (fun i e => by omega)
set_option maxHeartbeats 800000 in
theorem readA_any (l : Bs) (w : World) (hz : l.length ≤ 1000000) :
    Calls Tryd.prog 18 #[strV l, .func (.func 19) #[] #[]] w (ReadA (parseD l) w) := by
  have hmf : ∀ (fn : Fn) (first cap : Array Value) (w : World), (Instr.makeFunc fn first cap).run Tryd.prog w = .ok (.func fn first cap) w := fun _ _ _ _ => rfl
  by_cases h0 : l = [45]
  · subst h0
    rw [show parseD [45] = some (0, 0) from rfl]
    have b1 := (Fr.new (w.alloc (.cells #[.int .i64 0, .int .i64 0] 24)) (.cells #[.int .i64 0] 25) (fun _ => False)).blk (Blk.made w 24 #[.int .i64 0, .int .i64 0]) (fun h => h)
    have b2 := Blk.made (w.alloc (.cells #[.int .i64 0, .int .i64 0] 24)) 25 #[.int .i64 0]
    rw [show (w.alloc (.cells #[.int .i64 0, .int .i64 0] 24)).heap.size = w.heap.size + 1 by simp] at b2
    have c0 := cell_at b1 0
    have c1 := cell_at b1 1
    have c2 := cell_at b2 0
    have f0 := free_at b1 0
    have f1 := free_at b1 1
    have f2 := free_at b2 0
    simp at c0 c1 c2
    have HB1 := Lib.hid b1
    have HB2 := Lib.hid b2
    clear b1 b2
    go_enter_defers Tryd.func18, Tryd.ntmps18
    go_wp2_with fail
    have hL := load_at HB1.out
    have hK := cell_at HB2.out 0
    simp at hK
    simp [bodyPostD, Leaves, results, Tryd.results18, go_sem]
    exact ⟨ff (Fr.new _ _ _) (Fr.new _ _ _), rfl⟩
  · have e0 : (l == [45]) = false := by simpa using h0
    obtain ⟨hf, hv, hk, hr⟩ := new_three w l
    have hzs : (⟨l.toArray⟩ : ByteArray).size ≤ 1000000 := by rw [str_size]; exact hz
    have HQ := Lib.hid (time_any _ _ _ l hr hzs)
    have HF := Lib.hid hf
    have HV := Lib.hid hv
    have HK := Lib.hid hk
    clear hf hv hk hr
    rcases hg : timeD l with _ | ⟨n, r⟩
    · rw [show parseD l = none from whole_none h0 hg]
      rw [hg] at HQ
      clear hg h0
      go_enter_defers Tryd.func18, Tryd.ntmps18
      go_wp2_with fail
      refine HQ.out.mono ?_
      rintro e w2 ⟨rfl, hf2⟩
      have HF2 := Lib.hid hf2
      have HV2 := Lib.hid (hf2.blk HV.out (by omega))
      have HK2 := Lib.hid (hf2.blk HK.out (by omega))
      clear hf2
      go_wp2_with fail
      refine leaves_cons (f := 27) (args := #[.pointer (some ⟨w.heap.size + 1, 0, none⟩)]) (by simp) (by simp [go_sem]) ?_
      refine (catchA_panicking (w.heap.size + 1) _ _ HK2.out).mono ?_
      rintro e u' w3 ⟨rfl, rfl, rfl⟩
      have hb4 := (Fr.set (w := w2) (S := (· = w.heap.size + 1)) (v := .int .i64 7) (a := ⟨w.heap.size + 1, 0, none⟩) rfl).blk HV2.out (by omega)
      have hk4 := HK2.out.put' (cs' := #[.int .i64 7]) 0 (.int .i64 7) (by simp)
      exact ⟨_, results_readA _ _ w.heap.size _ _ 7 rfl rfl hb4 hk4, (HF.out.fresh HF2.out (fun i e => by omega)).fresh (Fr.set (S := (· = w.heap.size + 1)) rfl) (fun i e => by omega), rfl⟩
    · by_cases hr0 : r = []
      · subst hr0
        rw [show parseD l = some n from whole_some h0 hg]
        rw [hg] at HQ
        clear hg h0
        go_enter_defers Tryd.func18, Tryd.ntmps18
        go_wp2_with fail
        refine HQ.out.mono ?_
        rintro e w2 ⟨rfl, hr2, hf2⟩
        have HF2 := Lib.hid hf2
        have hf3 := Fr.new w2 (.cells #[.int .i64 n.1, .int .i64 (n.2 : Int)] 24) (fun _ => False)
        have HF3 := Lib.hid hf3
        have HV2 := Lib.hid (hf3.blk (hf2.blk HV.out (by omega)) (fun h => h))
        have HK2 := Lib.hid (hf3.blk (hf2.blk HK.out (by omega)) (fun h => h))
        have HT2 := Lib.hid (Blk.made w2 24 #[.int .i64 n.1, .int .i64 (n.2 : Int)])
        have HE := Lib.hid (end_none _ _ _ (hr2.fr hf3 (fun h => h)) hzs)
        have hsz := hf2.size
        simp at hsz
        have c0 := cell_at HV2.out 0
        have c1 := cell_at HV2.out 1
        have f0 := free_at HV2.out 0
        have f1 := free_at HV2.out 1
        have k0 := cell_at HK2.out 0
        have g0 := free_at HK2.out 0
        have t0 := cell_at HT2.out 0
        have t1 := cell_at HT2.out 1
        simp at c0 c1 k0
        have HR0 := Lib.hid t0
        have HR1 := Lib.hid t1
        clear hf2 hr2 hf3 t0 t1
        go_wp2_with fail
        refine HE.out.mono ?_
        rintro e w3 ⟨rfl, m, rfl⟩
        go_wp2_with fail
        refine leaves_cons (f := 27) (args := #[.pointer (some ⟨w.heap.size + 1, 0, none⟩)]) (by simp) (by simp [go_sem]) ?_
        refine (catchA_idle (w.heap.size + 1) _).mono ?_
        rintro e u' w3 ⟨rfl, rfl, rfl⟩
        have hb3 := (show Blk ((w2.alloc (.cells #[.int .i64 n.1, .int .i64 (n.2 : Int)] 24)).drewN m) w.heap.size 24 #[.int .i64 0, .int .i64 0] from HV2.out)
        have hb4 := (hb3.put' (cs' := #[.int .i64 n.1, .int .i64 0]) 0 (.int .i64 n.1) (by simp)).put' (cs' := #[.int .i64 n.1, .int .i64 (n.2 : Int)]) 1 (.int .i64 (n.2 : Int)) (by simp)
        have hb5 := (Fr.set (S := (· = w.heap.size + 1)) (v := .int .i64 0) (a := ⟨w.heap.size + 1, 0, none⟩) rfl).blk hb4 (by omega)
        have hk3 := (show Blk ((w2.alloc (.cells #[.int .i64 n.1, .int .i64 (n.2 : Int)] 24)).drewN m) (w.heap.size + 1) 25 #[.int .i64 0] from HK2.out)
        have hk4 := (Fr.set (S := (· = w.heap.size)) (v := .int .i64 n.1) (a := ⟨w.heap.size, 0, none⟩) rfl).blk hk3 (by omega)
        have hk5 := (Fr.set (S := (· = w.heap.size)) (v := .int .i64 (n.2 : Int)) (a := ⟨w.heap.size, 1, none⟩) rfl).blk hk4 (by omega)
        have hk6 := hk5.put' (cs' := #[.int .i64 0]) 0 (.int .i64 0) (by simp)
        have hfr := fd (ff (HF.out.fresh HF2.out (fun i e => by omega)) HF3.out) m
        have hfr1 := hfr.fresh (Fr.set (S := (· = w.heap.size)) (a := ⟨w.heap.size, 0, none⟩) (v := .int .i64 n.1) rfl) (fun i e => by omega)
        have hfr2 := hfr1.fresh (Fr.set (S := (· = w.heap.size)) (a := ⟨w.heap.size, 1, none⟩) (v := .int .i64 (n.2 : Int)) rfl) (fun i e => by omega)
        exact ⟨_, results_readA _ _ w.heap.size _ _ 0 rfl rfl hb5 hk6, hfr2.fresh (Fr.set (S := (· = w.heap.size + 1)) rfl) (fun i e => by omega), rfl⟩
      · rw [show parseD l = none from whole_more h0 hg hr0]
        rw [hg] at HQ
        clear hg h0
        go_enter_defers Tryd.func18, Tryd.ntmps18
        go_wp2_with fail
        refine HQ.out.mono ?_
        rintro e w2 ⟨rfl, hr2, hf2⟩
        have HF2 := Lib.hid hf2
        have hf3 := Fr.new w2 (.cells #[.int .i64 n.1, .int .i64 (n.2 : Int)] 24) (fun _ => False)
        have HF3 := Lib.hid hf3
        have HV2 := Lib.hid (hf3.blk (hf2.blk HV.out (by omega)) (fun h => h))
        have HK2 := Lib.hid (hf3.blk (hf2.blk HK.out (by omega)) (fun h => h))
        have HE := Lib.hid (end_some _ _ _ r hr0 (hr2.fr hf3 (fun h => h)) hzs)
        have hsz := hf2.size
        simp at hsz
        clear hf2 hr2 hf3
        go_wp2_with fail
        refine HE.out.mono ?_
        rintro e w3 ⟨rfl, m, rfl⟩
        go_wp2_with fail
        refine leaves_cons (f := 27) (args := #[.pointer (some ⟨w.heap.size + 1, 0, none⟩)]) (by simp) (by simp [go_sem]) ?_
        have hk3 := (show Blk ((w2.alloc (.cells #[.int .i64 n.1, .int .i64 (n.2 : Int)] 24)).drewN m) (w.heap.size + 1) 25 #[.int .i64 0] from HK2.out)
        refine (catchA_panicking (w.heap.size + 1) _ _ hk3).mono ?_
        rintro e u' w3 ⟨rfl, rfl, rfl⟩
        have hb3 := (show Blk ((w2.alloc (.cells #[.int .i64 n.1, .int .i64 (n.2 : Int)] 24)).drewN m) w.heap.size 24 #[.int .i64 0, .int .i64 0] from HV2.out)
        have hb4 := (Fr.set (S := (· = w.heap.size + 1)) (v := .int .i64 7) (a := ⟨w.heap.size + 1, 0, none⟩) rfl).blk hb3 (by omega)
        have hk4 := hk3.put' (cs' := #[.int .i64 7]) 0 (.int .i64 7) (by simp)
        have hfr := fd (ff (HF.out.fresh HF2.out (fun i e => by omega)) HF3.out) m
        exact ⟨_, results_readA _ _ w.heap.size _ _ 7 rfl rfl hb4 hk4, hfr.fresh (Fr.set (S := (· = w.heap.size + 1)) rfl) (fun i e => by omega), rfl⟩
end Go.Proofs.YtgfmodfakcbgfaaDoor
