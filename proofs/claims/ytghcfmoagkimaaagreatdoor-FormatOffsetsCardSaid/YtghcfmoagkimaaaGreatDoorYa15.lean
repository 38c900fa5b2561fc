import Derived.Test.YtghcfmoagkimaaaGreatDoorYa14
import Derived.Test.YtghcfmoagkimaaaGreatDoorYa13
import Derived.OwnWalk
import Derived.Lib.Hide
import Derived.LoopTactic
import Derived.IntWalk
import Derived.Deep.RegionHeld
import Derived.OrdersHeld
namespace Go.Proofs.YtghcfmoagkimaaaGreatDoor.S6
open Go.RowKit Go.Mem Go.Civil

theorem rClock_any (t : Int) (w : World) (hn : inRange t) : Calls Tryz.prog 45 #[.int .i64 t] w fun e w' => e = .returned (.tuple #[.int .i64 (t / 86400), .int .i64 (t % 86400)]) ∧ w = w' := by
  by_cases h : t < 0
  · have hp := neg_parts h (show (0 : Int) < 86400 by omega)
    have hh := neg_half h hn (c := 86400) (by omega)
    unfold inRange at hn
    rcases hp with ⟨h1, h2, h3⟩ | ⟨h1, h2, h3⟩
    · rw [h2]
      go_enter Tryz.func45, Tryz.ntmps45
      go_wp2_with fail
      all_goals
        go_ret2
        exact ⟨rfl, rfl⟩
    · have b : -86400 < t.tmod 86400 := tmod_gt h (by omega)
      rw [h2, h3]
      go_enter Tryz.func45, Tryz.ntmps45
      go_wp2_with fail
      all_goals
        go_ret2
        exact ⟨rfl, rfl⟩
  · unfold inRange at hn
    go_enter Tryz.func45, Tryz.ntmps45
    go_wp2_with fail
    all_goals
      go_ret2
      exact ⟨rfl, rfl⟩
theorem rDate_any (n y m d k : Int) (w : World) (hn : inRange n) (h : DateR n y m d k) :
    Calls Tryz.prog 46 #[.int .i64 n] w fun e w' => e = .returned (.tuple #[.int .i64 y, .int .i64 m, .int .i64 d, .int .i64 k]) ∧ w = w' := by
  have HB1 := Lib.hid (rYear_any (-9999) w (by omega))
  have HB2 := Lib.hid (rYear_any 10000 w (by omega))
  rw [begD_first] at HB1
  rw [begD_end] at HB2
  unfold inRange at hn
  rcases h with ⟨h1, h2, h3, h4, rfl⟩ | ⟨h1, rfl, rfl, rfl, rfl⟩
  · obtain ⟨b1, b2, b3, b4⟩ := numD_in h3
    have hnum : numD y m d = begD y + sumM y (m - 1).toNat + (d - 1) := rfl
    have hb := rightB_iff.1 h3
    rw [h4] at b1 b2 b3 b4
    have hle := longI_le y m
    obtain ⟨j, rfl⟩ : ∃ j : Nat, m = (j : Int) + 1 := ⟨(m - 1).toNat, by omega⟩
    rw [show ((j : Int) + 1 - 1).toNat = j by omega] at b3 b4 hnum
    obtain ⟨r, hr⟩ : ∃ r, n - begD y = r := ⟨_, rfl⟩
    rw [hr] at b3 b4
    have hr0 : 0 ≤ r ∧ r ≤ 366 := by have := begD_succ y; have := leapI_le y; omega
    have hdv : d = r - sumM y j + 1 := by omega
    have HL := Lib.hid (fun i => rLong_any y i w)
    have HN : Hid (∀ k : Nat, k ≤ 12 → 0 ≤ sumM y k ∧ sumM y k ≤ 366) := Lib.hid (sumM_le y)
    have hj : j ≤ 11 := by omega
    have B3 := Lib.hid b3
    have B4 := Lib.hid b4
    have hy' : -9999 ≤ y ∧ y ≤ 9999 := by omega
    have hz0 : -9999 + (n + 4371587) / 366 ≤ y := by
      by_cases h : -9999 + (n + 4371587) / 366 ≤ y
      · exact h
      · have e1 := begD_mono (show y < -9999 + (n + 4371587) / 366 by omega)
        have e2 := (begD_far (y := -9999) (z := -9999 + (n + 4371587) / 366) (by omega)).2
        rw [begD_first] at e2
        omega
    have hz1 : 0 ≤ (n + 4371587) / 366 ∧ (n + 4371587) / 366 ≤ 30000 := by omega
    have HYl : Hid (∀ z, z < y → begD (z + 1) ≤ n) := Lib.hid (fun z hz => by have := begD_mono hz; omega)
    have BY := Lib.hid b2
    have HYr := Lib.hid (fun z (hz : -9999 ≤ z ∧ z ≤ 10000) => rYear_any z w hz)
    have HR := Lib.hid hr
    have h0 : 0 ≤ n + 4371587 := by omega
    subst hdv
    clear hb hnum hle h3 h4 hr b1 b2 b3 b4
    go_enter Tryz.func46, Tryz.ntmps46
    go_wp2_with fail
    refine HB1.out.mono ?_
    rintro e w' ⟨rfl, rfl⟩
    go_wp2_with fail
    refine HB2.out.mono ?_
    rintro e w' ⟨rfl, rfl⟩
    go_wp2_with fail
    refine HB1.out.mono ?_
    rintro e w' ⟨rfl, rfl⟩
    go_wp2_with fail
    go_loop [6] (fun v6 => ∃ z : Int, -9999 ≤ z ∧ z ≤ y ∧ v6 = .int .i64 z) (fun v6 => (y - intOf v6).toNat)
    case atStart => exact ⟨_, by omega, hz0, rfl⟩
    case round =>
      obtain ⟨z, hz2, hz3, rfl⟩ := hrel
      clear hz0 hz1
      by_cases hlt : z < y
      · have hle := HYl.out z hlt
        have HC := Lib.hid (HYr.out (z + 1) (by omega))
        go_wp2_with fail
        refine HC.out.mono ?_
        rintro e w' ⟨rfl, rfl⟩
        go_wp2_with fail
        go_round
        case rel => exact ⟨z + 1, by omega, by omega, rfl⟩
        case measure => simp [intOf]; omega
      · obtain rfl : z = y := by omega
        have hby := BY.out
        have hr := HR.out
        have HC := Lib.hid (HYr.out (z + 1) (by omega))
        have HC2 := Lib.hid (HYr.out z (by omega))
        clear hlt HYl HYr
        go_wp2_with fail
        refine HC.out.mono ?_
        rintro e w' ⟨rfl, rfl⟩
        go_wp2_with fail
        refine HC2.out.mono ?_
        rintro e w' ⟨rfl, rfl⟩
        go_wp2_with fail
        go_loop [0, 7] (fun v0 v7 => ∃ k : Nat, k ≤ j ∧ v7 = .int .i64 ((k : Int) + 1) ∧ v0 = .int .i64 (r - sumM z k)) (fun _ v7 => j + 1 - (intOf v7).toNat)
        case atStart => exact ⟨0, Nat.zero_le _, rfl, by rw [← hr]; simp [sumM]⟩
        case round =>
          obtain ⟨k, hk, rfl, rfl⟩ := hrel
          have hs := HN.out k (by omega)
          have hle := longI_le z ((k : Int) + 1)
          have HC := Lib.hid (HL.out ((k : Int) + 1))
          clear hby hr
          by_cases hlt : k < j
          · have hmo := sumM_mono (y := z) (show k + 1 ≤ j by omega)
            have hst := sumM_step z k
            have hb3 := B3.out
            have hge : longI z ((k : Int) + 1) ≤ r - sumM z k := by omega
            have HS := Lib.hid hst
            clear hst hmo hb3
            have h1 : (k : Int) < (j : Int) := by omega
            go_wp2_with fail
            refine HC.out.mono ?_
            rintro e w' ⟨rfl, rfl⟩
            go_wp2_with fail
            refine HC.out.mono ?_
            rintro e w' ⟨rfl, rfl⟩
            go_wp2_with fail
            go_round
            case rel => exact ⟨k + 1, by omega, by go_num, by rw [HS.out]; congr 1; omega⟩
            case measure => simp [intOf]; omega
          · obtain rfl : k = j := by omega
            have hb4 := B4.out
            rw [sumM_step] at hb4
            have hge : r - sumM z k < longI z ((k : Int) + 1) := by omega
            have hb3 := B3.out
            clear hb4
            go_wp2_with fail
            refine HC.out.mono ?_
            rintro e w' ⟨rfl, rfl⟩
            go_wp2_with fail
            (try simp only [Exit.inBlock, Exit.then])
            refine bodyPost_ret (results_tmp4 rfl _ _ _) rfl ?_
            exact ⟨rfl, rfl⟩
  · by_cases ha : n < -4371587
    · clear HB2
      go_enter Tryz.func46, Tryz.ntmps46
      go_wp2_with fail
      refine HB1.out.mono ?_
      rintro e w' ⟨rfl, rfl⟩
      go_wp2_with fail
      (try simp only [Exit.inBlock, Exit.then])
      refine bodyPost_ret (results_tmp4 rfl _ _ _) rfl ?_
      exact ⟨rfl, rfl⟩
    · have hb : 2932897 ≤ n := by omega
      clear h1
      go_enter Tryz.func46, Tryz.ntmps46
      go_wp2_with fail
      refine HB1.out.mono ?_
      rintro e w' ⟨rfl, rfl⟩
      go_wp2_with fail
      refine HB2.out.mono ?_
      rintro e w' ⟨rfl, rfl⟩
      go_wp2_with fail
      (try simp only [Exit.inBlock, Exit.then])
      refine bodyPost_ret (results_tmp4 rfl _ _ _) rfl ?_
      exact ⟨rfl, rfl⟩
end Go.Proofs.YtghcfmoagkimaaaGreatDoor.S6
namespace Go.Proofs.YtghcfmoagkimaaaGreatDoor
open Go.RowKit Go.Mem Go.Lin Go.Dcm

/-- a row of one element, just made -/
theorem rd_made (w : World) (t : TypeId) (cs : Array Value) : Rd (w.alloc (.cells cs t)) cs.size (some ⟨w.heap.size, 0, none⟩) 1 cs.toList := by
  refine ⟨by simp, fun _ => ⟨w.heap.size, 0, rfl, fun j u hu => ?_⟩⟩
  have := cell_at (Blk.made w t cs) j
  rw [Nat.zero_add, this]
  simpa using hu
theorem one_made {cs : Array Value} (h : cs.all (·.oneCell') = true) : ∀ u ∈ cs.toList, u.oneCell' = true := by
  intro u hu
  have := (Array.all_eq_true' ).1 h u (by simpa using hu)
  exact this
/-- a row with one element more -/
theorem own_more {X : Type} {w : World} {base : Nat} {e : TypeId} {k : Nat} {f : X → List Value} {v : Value} {l : List X} {x : X} {cs : List Value} (h : w.ownsRow base e k v (l.length + 1) (l.flatMap f ++ cs)) (hc : cs = f x) : Own w base e k f v (l ++ [x]) := by
  subst hc
  show w.ownsRow base e k v (l ++ [x]).length ((l ++ [x]).flatMap f)
  simpa using h
theorem own_none {X : Type} (w : World) (base : Nat) (e : TypeId) (k : Nat) (f : X → List Value) : Own w base e k f (.slice none 0 0) ([] : List X) := World.ownsRow_nil _ _ _ _
theorem own_base {X : Type} {w : World} {a b : Nat} {e : TypeId} {k : Nat} {f : X → List Value} {v : Value} {l : List X} (h : Own w b e k f v l) (hb : a ≤ b) : Own w a e k f v l := by
  refine ⟨h.1, ?_⟩
  rcases h.2 with h2 | ⟨g, cap, cur, hv, hg, r⟩
  · exact .inl h2
  · exact .inr ⟨g, cap, cur, hv, by omega, r⟩
theorem own_block {X : Type} {w : World} {b : Nat} {e : TypeId} {k : Nat} {f : X → List Value} {v : Value} {l : List X} (h : Own w b e k f v l) {g : Nat} (hg : v.ownBlock = some g) : b ≤ g ∧ g < w.heap.size ∧ ∃ cs, Blk w g e cs := by
  obtain ⟨h1, h2⟩ := h.lt g hg
  refine ⟨h1, h2, ?_⟩
  rcases h.2 with ⟨rfl, _⟩ | ⟨g', cap, cur, rfl, _, hh, _⟩
  · simp [Value.ownBlock] at hg
  · have : g' = g := by simpa [Value.ownBlock] using hg
    subst this
    exact ⟨cur, hh⟩
theorem blk_same {w : World} {g : Nat} {t t' : TypeId} {cs cs' : Array Value} (h : Blk w g t cs) (h' : Blk w g t' cs') : t = t' := by
  unfold Blk at h h'
  rw [h] at h'
  injection h' with h'
  injection h' with _ ht
/- zones -/
theorem ZAt.fr {w w' : World} {S : Nat → Prop} {base : Nat} {z : ZV} (h : ZAt w base z) (hf : Fr w w' S) (h1 : ∀ k cs, base ≤ k → Blk w k 48 cs → ¬ S k) (h2 : ∀ k cs, base ≤ k → Blk w k 3 cs → ¬ S k) : ZAt w' base z := by
  refine ⟨h.e.fr hf fun g hg => ?_, h.l.fr hf fun g hg => ?_⟩
  · obtain ⟨hb, -, cs, hk⟩ := own_block h.e hg
    exact h1 g cs hb hk
  · obtain ⟨hb, -, cs, hk⟩ := own_block h.l hg
    exact h2 g cs hb hk
end Go.Proofs.YtghcfmoagkimaaaGreatDoor
namespace Go.Proofs.YtghcfmoagkimaaaGreatDoor
open Go.RowKit Go.Mem
/- append(append(append([]T{}, x[:n]...), e), x[n:]...) in a region that draws its order -/
theorem ev_ne (a : Act) {d k : Nat} (v : Value) (h : k ≠ d) : (a.put (some d) v).eval (.tmp k) = a.eval (.tmp k) := by
  simp [Act.put, Act.eval, Ne.symm h]
theorem ev_eq (a : Act) {d : Nat} (v : Value) (h : d < a.tmps.size) : (a.put (some d) v).eval (.tmp d) = v := by
  simp [Act.put, Act.eval, h]
theorem pt_size (a : Act) (d : Nat) (v : Value) : (a.put (some d) v).tmps.size = a.tmps.size := by simp [Act.put]
theorem put3 (a : Act) {d0 d1 d2 : Nat} (h0 : d0 ≠ d2) (h1 : d1 ≠ d2) (X Y Z : Value) : ((a.put (some d2) X).put (some d0) Y).put (some d1) Z = ((a.put (some d0) Y).put (some d1) Z).put (some d2) X := by
  simp only [Act.put]
  rw [Array.setIfInBounds_comm _ _ h0.symm, Array.setIfInBounds_comm _ _ h1.symm]
section
variable {P : Program} {ops : Array Oper} {Q : Exit → Act → World → Prop} {md : Region.Mode} {S : World → Prop}
theorem at_store4 {rest : List Oper} {d : Option Tmp} {x y : Operand} {ty : TypeId} {pos : String} {af : Array Edge} {g : Option (Nat × Bool)} {a : Act} {w : World} (t : TypeId) (h : wpList P ops Q (⟨d, .store t x y, ty, pos, af, g⟩ :: rest) a w) : wpList P ops Q (⟨d, .store t x y, ty, pos, af, g⟩ :: rest) a w := h
theorem wp_build0 {o : Oper} {a : Act} {w : World} {K : Act → World → Prop} {t e : TypeId} (ho : o.op = .buildSlice t 0 #[]) (h : ∀ w, (Instr.buildSlice t 0 #[]).run P w = .ok (.slice (some ⟨w.heap.size, 0, none⟩) 0 0) (w.alloc (.cells #[] e)))
    (hK : K (a.put o.dst (.slice (some ⟨w.heap.size, 0, none⟩) 0 0)) (w.alloc (.cells #[] e))) : o.wp P a w K Q := by
  unfold Oper.wp execOp
  simp only [ho, Sem.run_bind, List.map_toArray, List.map_nil, h, Result.andThen_ok]
  exact hK
theorem wp_build1 {o : Oper} {a : Act} {w : World} {K : Act → World → Prop} {t e : TypeId} {y : Operand} {v : Value} {cs : Array Value} (ho : o.op = .buildSlice t 1 #[(0, y)]) (hy : a.eval y = v)
    (h : ∀ w, (Instr.buildSlice t 1 #[(0, v)]).run P w = .ok (.slice (some ⟨w.heap.size, 0, none⟩) 1 1) (w.alloc (.cells cs e))) (hK : K (a.put o.dst (.slice (some ⟨w.heap.size, 0, none⟩) 1 1)) (w.alloc (.cells cs e))) : o.wp P a w K Q := by
  unfold Oper.wp execOp
  simp only [ho, Sem.run_bind, List.map_toArray, List.map_cons, List.map_nil, hy, h, Result.andThen_ok]
  exact hK
theorem own_grown {X : Type} {w W W' : World} {e : TypeId} {k : Nat} {f : X → List Value} {v : Value} {l : List X} (hf : Fr w W (fun _ => False)) (h : Own W w.heap.size e k f v l) (hg : W.grownBy W' v.ownBlock) : Fr w W' (fun _ => False) :=
  hf.fresh (Fr.ofGrown hg) fun _ hi => (own_block h hi.symm).1
theorem flat_ones4 {X : Type} {f : X → List Value} (h : ∀ x, (f x).toArray.all (·.oneCell') = true) (l : List X) : ∀ u ∈ l.flatMap f, u.oneCell' = true := by
  intro u hu
  obtain ⟨x, -, hx⟩ := List.mem_flatMap.1 hu
  have := h x
  rw [List.all_toArray, List.all_eq_true] at this
  exact this u hx
theorem wpAnyH_insert {X : Type} {f : X → List Value} {k : Nat} {p q : List X} {x : X} {fuel : Nat} {listed : Array Bool} {a : Act} {w : World} (i0 i1 i2 i3 i4 : Nat) (o0 o1 o2 o3 o4 : Oper)
    (h0 : ops[i0]? = some o0) (h1 : ops[i1]? = some o1) (h2 : ops[i2]? = some o2) (h3 : ops[i3]? = some o3) (h4 : ops[i4]? = some o4)
    (_n01 : i0 ≠ i1) (n02 : i0 ≠ i2) (n12 : i1 ≠ i2)
    (r : Region.ready md ops listed = [i0, i2]) (r0 : Region.ready md ops (listed.setIfInBounds i0 true) = [i1, i2]) (r01 : Region.ready md ops ((listed.setIfInBounds i0 true).setIfInBounds i1 true) = [i2])
    (r02 : Region.ready md ops ((listed.setIfInBounds i0 true).setIfInBounds i2 true) = [i1]) (r2 : Region.ready md ops (listed.setIfInBounds i2 true) = [i0])
    (r3 : Region.ready md ops (((listed.setIfInBounds i0 true).setIfInBounds i1 true).setIfInBounds i2 true) = [i3]) (r4 : Region.ready md ops ((((listed.setIfInBounds i0 true).setIfInBounds i1 true).setIfInBounds i2 true).setIfInBounds i3 true) = [i4])
    (g0 : o0.guard = none) (g1 : o1.guard = none) (g2 : o2.guard = none) (g3 : o3.guard = none) (g4 : o4.guard = none)
    {ts e : TypeId} {d0 d1 d2 d3 x1 y2 x4 : Nat} (ho0 : o0.op = .buildSlice ts 0 #[]) (ho1 : o1.op = .call { callee := .builtin .append, args := #[.tmp d0, .tmp x1], argTypes := #[ts, ts] })
    (ho2 : o2.op = .buildSlice ts 1 #[(0, .tmp y2)]) (ho3 : o3.op = .call { callee := .builtin .append, args := #[.tmp d1, .tmp d2], argTypes := #[ts, ts] }) (ho4 : o4.op = .call { callee := .builtin .append, args := #[.tmp d3, .tmp x4], argTypes := #[ts, ts] })
    (e0 : o0.dst = some d0) (e1 : o1.dst = some d1) (e2 : o2.dst = some d2) (e3 : o3.dst = some d3)
    (_m01 : d0 ≠ d1) (m02 : d0 ≠ d2) (m12 : d1 ≠ d2) (mx : x1 ≠ d0 ∧ x1 ≠ d2) (my : y2 ≠ d0 ∧ y2 ≠ d1) (mz : x4 ≠ d0 ∧ x4 ≠ d1 ∧ x4 ≠ d2 ∧ x4 ≠ d3)
    (ms : d0 < a.tmps.size ∧ d1 < a.tmps.size ∧ d2 < a.tmps.size ∧ d3 < a.tmps.size)
    (A1 : Option Addr) (c1 : Nat) (hx1 : a.eval (.tmp x1) = .slice A1 p.length c1) (hr1 : Rd w k A1 p.length (p.flatMap f))
    (A4 : Option Addr) (c4 : Nat) (hx4 : a.eval (.tmp x4) = .slice A4 q.length c4) (hr4 : Rd w k A4 q.length (q.flatMap f))
    (v : Value) (cs : Array Value) (hy2 : a.eval (.tmp y2) = v) (hrun0 : ∀ w, (Instr.buildSlice ts 0 #[]).run P w = .ok (.slice (some ⟨w.heap.size, 0, none⟩) 0 0) (w.alloc (.cells #[] e)))
    (hrun : ∀ w, (Instr.buildSlice ts 1 #[(0, v)]).run P w = .ok (.slice (some ⟨w.heap.size, 0, none⟩) 1 1) (w.alloc (.cells cs e)))
    (hcs : cs.toList = f x) (hone : ∀ x, (f x).toArray.all (·.oneCell') = true)
    (z : Value) (bytes : Nat) (ht : P.underlying ts = some (.slice e)) (hinf : (P.info? e).map (fun i => (i.zero, i.size, i.bytes)) = some (some z, k, bytes)) (hzs : z.cells.size = k) (hk : 0 < k) (hcz : cs.size = k)
    (hp : p.length ≤ 100000) (hq : q.length ≤ 100000) (hby : bytes ≤ 1000)
    (hS : ∀ W, Fr w W (fun _ => False) → S W)
    (h : ∀ A9 c9 v0 v1 v2 v3 W, S W → Own W w.heap.size e k f (.slice A9 (p.length + 1 + q.length) c9) (p ++ x :: q) → Fr w W (fun _ => False) →
      wpAnyH P md ops Q S fuel (((((listed.setIfInBounds i0 true).setIfInBounds i1 true).setIfInBounds i2 true).setIfInBounds i3 true).setIfInBounds i4 true) (((((a.put (some d0) v0).put (some d1) v1).put (some d2) v2).put (some d3) v3).put o4.dst (.slice A9 (p.length + 1 + q.length) c9)) W) :
    wpAnyH P md ops Q S (fuel + 5) listed a w := by
  have hw : ∀ (o : Oper) (y : Nat → Option Bool) (hg : o.guard = none), Region.wanted o y = true := fun o y hg => by simp only [Region.wanted, hg]
  obtain ⟨j0, hj0, hz0, hz1, hz2⟩ := info_parts hinf
  have big : ∀ n, n ≤ 200001 → n * bytes ≤ 140737488355328 := fun n hn => by
    have : n * bytes ≤ 200001 * 1000 := Nat.mul_le_mul hn hby
    omega
  -- behind the first three
  have last : ∀ W v0 v1 b2, Own W w.heap.size e k f v1 p → Rd W k (some ⟨b2, 0, none⟩) 1 (f x) → Fr w W (fun _ => False) →
      wpAnyH P md ops Q S (fuel + 2) (((listed.setIfInBounds i0 true).setIfInBounds i1 true).setIfInBounds i2 true) (((a.put (some d0) v0).put (some d1) v1).put (some d2) (.slice (some ⟨b2, 0, none⟩) 1 1)) W := by
    intro W v0 v1 b2 ho hr hf
    refine wpAnyH_ready r3 (by simp) (AllReadyH.cons h3 (fun K hK => ?_) AllReadyH.nil)
    rw [if_pos (hw _ _ g3)]
    have hx : ∀ y ∈ f x, y.oneCell' = true := fun y hy => by
      have := hone x
      rw [List.all_toArray, List.all_eq_true] at this
      exact this y hy
    refine wp_append_rd _ (.tmp d1) (.tmp d2) ts ho3 w.heap.size e j0 z k bytes ht hj0 hz0 hz1 hz2 hzs hk v1 p.length _ ?_ ho _ 1 1 (f x) ?_ hr hx (by simp only [maxLen]; omega) (big _ (by omega)) hf.size ?_
    · rw [ev_ne _ _ m12, ev_eq _ _ (by rw [pt_size]; exact ms.2.1)]
    · rw [ev_eq _ _ (by rw [pt_size, pt_size]; exact ms.2.2.1)]
    intro v3 W3 ho3' hg3 _
    have hf3 := own_grown hf ho hg3
    have ho3 := own_more (x := x) ho3' rfl
    rw [e3]
    refine hK.out _ _ (hS _ hf3) (fun _ => ?_)
    refine wpAnyH_ready r4 (by simp) (AllReadyH.cons h4 (fun K2 hK2 => ?_) AllReadyH.nil)
    rw [if_pos (hw _ _ g4)]
    refine wp_append_rd _ (.tmp d3) (.tmp x4) ts ho4 w.heap.size e j0 z k bytes ht hj0 hz0 hz1 hz2 hzs hk v3 (p.length + 1) _ ?_ ho3' A4 q.length c4 (q.flatMap f) ?_ (Rd.fr hr4 hf3 (fun _ _ _ _ h => h)) (flat_ones4 hone q) (by simp only [maxLen]; omega) (big _ (by omega)) hf3.size ?_
    · rw [ev_eq _ _ (by rw [pt_size, pt_size, pt_size]; exact ms.2.2.2)]
    · rw [ev_ne _ _ mz.2.2.2, ev_ne _ _ mz.2.2.1, ev_ne _ _ mz.2.1, ev_ne _ _ mz.1, hx4]
    intro v4 W4 ho4' hg4 _
    have hf4 := own_grown hf3 ho3 hg4
    obtain ⟨A9, c9, rfl⟩ := Go.Mem.own_slice ho4'
    refine hK2.out _ _ (hS _ hf4) (fun hs => h A9 c9 v0 v1 _ v3 W4 hs ?_ hf4)
    show W4.ownsRow w.heap.size e k _ (p ++ x :: q).length ((p ++ x :: q).flatMap f)
    rw [show (p ++ x :: q).length = p.length + 1 + q.length by simp; omega]
    have e9 : (p ++ x :: q).flatMap f = p.flatMap f ++ f x ++ q.flatMap f := by simp
    rw [e9]
    exact ho4'
  have mk0 : ∀ W, Fr w W (fun _ => False) → Own (W.alloc (.cells #[] e)) w.heap.size e k f (.slice (some ⟨W.heap.size, 0, none⟩) 0 0) ([] : List X) := fun W hf => World.ownsRow_made W #[] 0 hf.size (Nat.zero_le _) (by simp)
  -- the first append
  have app : ∀ (a : Act) W b0 (K : Act → World → Prop), Fr w W (fun _ => False) → Own W w.heap.size e k f (.slice (some ⟨b0, 0, none⟩) 0 0) ([] : List X) → a.eval (.tmp d0) = .slice (some ⟨b0, 0, none⟩) 0 0 → a.eval (.tmp x1) = .slice A1 p.length c1 →
      (∀ v1 W', Own W' w.heap.size e k f v1 p → Fr W W' (fun i => i = b0) → Fr w W' (fun _ => False) → K (a.put (some d1) v1) W') → o1.wp P a W K Q := by
    intro a W b0 K hf ho hd hx hK
    refine wp_append_rd _ (.tmp d0) (.tmp x1) ts ho1 w.heap.size e j0 z k bytes ht hj0 hz0 hz1 hz2 hzs hk _ 0 [] hd ho A1 p.length c1 (p.flatMap f) hx (Rd.fr hr1 hf (fun _ _ _ _ h => h)) (flat_ones4 hone p) (by simp only [maxLen]; omega) (big _ (by omega)) hf.size ?_
    intro v1 W' ho' hg _
    rw [Nat.zero_add, List.nil_append] at ho'
    rw [e1]
    refine hK _ _ ho' ((Fr.ofGrown hg).mono fun i _ hi => ?_) (own_grown hf ho hg)
    have : some i = some b0 := hi
    injection this
  have hn0 := Fr.new w (.cells #[] e) (fun _ => False)
  have hn2 := Fr.new w (.cells cs e) (fun _ => False)
  have rdm : ∀ W : World, Rd (W.alloc (.cells cs e)) k (some ⟨W.heap.size, 0, none⟩) 1 (f x) := fun W => by
    have := rd_made W e cs
    rwa [hcz, hcs] at this
  refine wpAnyH_ready r (by simp) (AllReadyH.cons h0 (fun K hK => ?_) (AllReadyH.cons h2 (fun K hK => ?_) AllReadyH.nil))
  · rw [if_pos (hw _ _ g0)]
    refine wp_build0 ho0 hrun0 ?_
    rw [e0]
    refine hK.out _ _ (hS _ hn0) (fun _ => ?_)
    refine wpAnyH_ready r0 (by simp) (AllReadyH.cons h1 (fun K hK => ?_) (AllReadyH.cons h2 (fun K hK => ?_) AllReadyH.nil))
    · rw [if_pos (hw _ _ g1)]
      refine app _ _ _ K hn0 (mk0 w (Fr.refl _ _)) (ev_eq _ _ ms.1) (by rw [ev_ne _ _ mx.1]; exact hx1) fun v1 W1 ho1' _ hf1 => ?_
      refine hK.out _ _ (hS _ hf1) (fun _ => ?_)
      refine wpAnyH_ready r01 (by simp) (AllReadyH.cons h2 (fun K hK => ?_) AllReadyH.nil)
      rw [if_pos (hw _ _ g2)]
      refine wp_build1 ho2 (by rw [ev_ne _ _ my.2, ev_ne _ _ my.1]; exact hy2) hrun ?_
      rw [e2]
      have hn := Fr.new W1 (.cells cs e) (fun _ => False)
      have hf2 := hf1.trans hn (fun _ _ h => h) (fun _ _ h => h)
      exact hK.out _ _ (hS _ hf2) (fun _ => last _ _ _ _ (ho1'.kept hn) (rdm W1) hf2)
    · rw [if_pos (hw _ _ g2)]
      refine wp_build1 ho2 (by rw [ev_ne _ _ my.1]; exact hy2) hrun ?_
      rw [e2]
      have hn := Fr.new (w.alloc (.cells #[] e)) (.cells cs e) (fun _ => False)
      have hf2 := hn0.trans hn (fun _ _ h => h) (fun _ _ h => h)
      refine hK.out _ _ (hS _ hf2) (fun _ => ?_)
      refine wpAnyH_ready r02 (by simp) (AllReadyH.cons h1 (fun K hK => ?_) AllReadyH.nil)
      rw [if_pos (hw _ _ g1)]
      refine app _ _ _ K hf2 ((mk0 w (Fr.refl _ _)).kept hn) (by rw [ev_ne _ _ m02]; exact ev_eq _ _ ms.1) (by rw [ev_ne _ _ mx.2, ev_ne _ _ mx.1]; exact hx1) fun v1 W1 ho1' hg1 hf1 => ?_
      refine hK.out _ _ (hS _ hf1) (fun _ => ?_)
      rw [← Act.put_comm _ _ _ (by intro d hd e; injection hd with hd; injection e with e; omega), Array.setIfInBounds_comm _ _ n12.symm]
      refine last _ _ _ _ ho1' (Rd.fr (rdm _) hg1 (fun b _ he _ hs => ?_)) hf1
      injection he with he
      have : (w.alloc (.cells #[] e)).heap.size = b := congrArg Addr.block he
      simp at this
      omega
  · rw [if_pos (hw _ _ g2)]
    refine wp_build1 ho2 hy2 hrun ?_
    rw [e2]
    refine hK.out _ _ (hS _ hn2) (fun _ => ?_)
    refine wpAnyH_ready r2 (by simp) (AllReadyH.cons h0 (fun K hK => ?_) AllReadyH.nil)
    rw [if_pos (hw _ _ g0)]
    refine wp_build0 ho0 hrun0 ?_
    rw [e0]
    have hn := Fr.new (w.alloc (.cells cs e)) (.cells #[] e) (fun _ => False)
    have hf2 := hn2.trans hn (fun _ _ h => h) (fun _ _ h => h)
    refine hK.out _ _ (hS _ hf2) (fun _ => ?_)
    rw [Array.setIfInBounds_comm _ _ n02.symm]
    refine wpAnyH_ready r02 (by simp) (AllReadyH.cons h1 (fun K hK => ?_) AllReadyH.nil)
    rw [if_pos (hw _ _ g1)]
    refine app _ _ _ K hf2 (mk0 _ hn2) (ev_eq _ _ (by rw [pt_size]; exact ms.1)) (by rw [ev_ne _ _ mx.1, ev_ne _ _ mx.2]; exact hx1) fun v1 W1 ho1' hg1 hf1 => ?_
    refine hK.out _ _ (hS _ hf1) (fun _ => ?_)
    rw [put3 _ m02 m12, Array.setIfInBounds_comm _ _ n12.symm]
    refine last _ _ _ _ ho1' (Rd.fr (Rd.fr (rdm w) hn (fun _ _ _ _ h => h)) hg1 (fun b _ he _ hs => ?_)) hf1
    injection he with he
    have : w.heap.size = b := congrArg Addr.block he
    simp at hs
    omega
end
end Go.Proofs.YtghcfmoagkimaaaGreatDoor
