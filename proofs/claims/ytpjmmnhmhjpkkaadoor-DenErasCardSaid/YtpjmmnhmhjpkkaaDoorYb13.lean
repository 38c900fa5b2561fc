import Derived.Test.YtpjmmnhmhjpkkaaDoorYb12
import Derived.Test.YtpjmmnhmhjpkkaaDoorYb08
import Derived.Lib.MinMax
import Derived.Great.BuildSlice
import Derived.BigQuiet
import Derived.Deep.QuietTactic
import Derived.Deep.LoopGhost
import Derived.Laws.StructEq
namespace Go.Proofs.YtpjmmnhmhjpkkaaDoor
open Go.RowKit Go.Mem Go.Lin Go.Xpd

section
variable {P : Program} {ops : Array Oper} {rest : List Oper} {a : Act} {w : World} {Q : Exit → Act → World → Prop}
theorem at_load4 {d : Option Tmp} {x : Operand} {ty : TypeId} {pos : String} {af : Array Edge} {g : Option (Nat × Bool)} (t : TypeId) (h : wpList P ops Q (⟨d, .load t x, ty, pos, af, g⟩ :: rest) a w) : wpList P ops Q (⟨d, .load t x, ty, pos, af, g⟩ :: rest) a w := h
end
/- a seat in its cells -/
def seatC (r : RuleL) (p : Int) : Array Value := #[strV r.name, intV r.fr, intV r.to, intV r.month, intV r.on.k, intV r.on.d, intV r.on.w, intV r.at_.s, intV r.at_.k, intV r.save, strV r.letter, intV p]
theorem part_seat (r : RuleL) (p : Int) : ∀ j, j < (ruleC r).size → (seatC r p)[0 + j]? = (ruleC r)[j]? := by
  intro j hj
  have hj : j < 11 := hj
  match j, hj with
  | 0, _ => rfl
  | 1, _ => rfl
  | 2, _ => rfl
  | 3, _ => rfl
  | 4, _ => rfl
  | 5, _ => rfl
  | 6, _ => rfl
  | 7, _ => rfl
  | 8, _ => rfl
  | 9, _ => rfl
  | 10, _ => rfl
theorem fireC_one (f : FireL) : (fireC f).all (·.oneCell') = true := by simp [fireC, Value.oneCell']
theorem infoXF (f : FireL) : (Tryd.prog.info? 110).map (·.size) = some (fireC f).size := show _ = some 4 by kernel_rfl
theorem put_fi (f g : FireL) : setMany (fireC f) 0 (fireC g).toList = fireC g := put_all rfl
def f0 : FireL := ⟨0, 0, 0, 0⟩
def fireO : Option FireL → Value
  | some f => .tuple #[fireV f, .bool true]
  | none => .tuple #[fireV f0, .bool false]
theorem results_fire (tmps : Array Value) (w : World) (q : Nat) (f : FireL) (v : Value) (h4 : tmps.getD 4 undef = .pointer (some ⟨q, 0, none⟩)) (h5 : tmps.getD 5 undef = v)
    (hb : Blk w q 110 (fireC f)) : (results Tryd.f60 tmps).run Tryd.prog w = .ok (.tuple #[fireV f, v]) w := by
  have h4' : tmps[4]?.getD undef = .pointer (some ⟨q, 0, none⟩) := by simpa using h4
  have h5' : tmps[5]?.getD undef = v := by simpa using h5
  have hL := run_loadVar_blk (P := Tryd.prog) w q 0 110 110 (fireC f) (fireC f) _ hb Tryd.underlying110 rfl (infoXF f) (zero_part _)
  simp [results, Tryd.results60, h4', h5', asAddr, hL]
theorem within_any (y : Int) (w : World) (_hy : -1000000 ≤ y ∧ y ≤ 1000000) : Calls Tryd.prog 61 #[intV y] w fun e w' => e = .returned (intV (withD y)) ∧ w' = w := by
  go_enter Tryd.func61, Tryd.ntmps61
  go_wp2_with fail
  go_ret
  exact ⟨rfl, rfl⟩
set_option maxHeartbeats 1600000 in
set_option maxRecDepth 100000 in
theorem fire_no (r : RuleL) (p y : Int) (w : World) (hw : S6.WOk w) (h : y < max r.fr 1 ∨ (¬ y < max r.fr 1 ∧ min r.to 9999 < y)) : Calls Tryd.prog 60 #[.agg (seatC r p), intV y] w fun e w' => e = .returned (fireO (fireR r p y)) ∧ Fr w w' (fun _ => False) := by
  have HE := Lib.hid (show fireR r p y = none by
    unfold fireR; rw [atR_no (fun hl => by unfold lasts at hl; omega)]; rfl)
  have HW := Lib.hid hw
  have hs1 : (w.alloc (.cells (seatC r p) 116)).heap.size = w.heap.size + 1 := by simp
  have hs2 : ((w.alloc (.cells (seatC r p) 116)).alloc (.cells #[.int .i64 0, .int .i64 0, .int .i64 0, .int .i64 0] 110)).heap.size = w.heap.size + 2 := by simp
  have n1 := Fr.new w (.cells (seatC r p) 116) (fun _ => False)
  have n2 := Fr.new (w.alloc (.cells (seatC r p) 116)) (.cells #[.int .i64 0, .int .i64 0, .int .i64 0, .int .i64 0] 110) (fun _ => False)
  have n3 := Fr.new ((w.alloc (.cells (seatC r p) 116)).alloc (.cells #[.int .i64 0, .int .i64 0, .int .i64 0, .int .i64 0] 110)) (.cells #[.string ⟨#[]⟩, .int .i64 0, .int .i64 0, .int .i64 0, .int .i64 0, .int .i64 0, .int .i64 0, .int .i64 0, .int .i64 0, .int .i64 0, .string ⟨#[]⟩] 49) (fun _ => False)
  have HBS := Lib.hid (n2.blk (Blk.made w 116 (seatC r p)) (fun h => h))
  have hbr := Blk.made (w.alloc (.cells (seatC r p) 116)) 110 (fireC f0)
  have hbz := Blk.made ((w.alloc (.cells (seatC r p) 116)).alloc (.cells #[.int .i64 0, .int .i64 0, .int .i64 0, .int .i64 0] 110)) 49 (ruleC ruleZ)
  rw [hs1] at hbr
  rw [hs2] at hbz
  have HBS3 := Lib.hid (n3.blk HBS.out (fun h => h))
  have HBR := Lib.hid (n3.blk hbr (fun h => h))
  have HBZ := Lib.hid hbz
  have HF3 := Lib.hid (ff4 n1 (ff4 n2 n3))
  clear n1 n2 n3 hbr hbz hs1 hs2 hw
  rcases h with h1 | ⟨h1, h2⟩
  · go_enter Tryd.func60, Tryd.ntmps60
    go_wp2_with (first
      | ((with_reducible refine at_load4 49 ?_); refine wpList_load_blk 49 _ w.heap.size 0 116 (seatC r p) (ruleC r) _ (by rfl) rfl rfl HBS.out Tryd.underlying49 rfl (infoR _) (part_seat r p) ?_)
      | ((with_reducible refine at_store4 49 ?_); refine wpList_store_blk 49 _ _ (w.heap.size + 2) 0 49 (ruleC ruleZ) (ruleC r) (ruleC r) (by rfl) rfl rfl rfl rfl HBZ.out (infoR _) (ruleC_one _) (show 0 + 11 ≤ 11 by decide) (put_ra _ _) ?_
         intro W1 hf1 hb1
         have HF := Lib.hid (HF3.out.fresh hf1 (fun i e => by have e : i = w.heap.size + 2 := e; omega))
         have HS1 := Lib.hid (hf1.blk HBS3.out (fun e => by have e : w.heap.size = w.heap.size + 2 := e; omega))
         have HR1 := Lib.hid (hf1.blk HBR.out (fun e => by have e : w.heap.size + 1 = w.heap.size + 2 := e; omega))
         have HB1 := Lib.hid hb1
         have c1 : W1.cell? ⟨w.heap.size + 2, 1, none⟩ = some (.int .i64 r.fr) := blkc hb1 1 _ rfl
         have c2 : W1.cell? ⟨w.heap.size + 2, 2, none⟩ = some (.int .i64 r.to) := blkc hb1 2 _ rfl
         have c3 : W1.cell? ⟨w.heap.size + 2, 3, none⟩ = some (.int .i64 r.month) := blkc hb1 3 _ rfl
         have c4 : W1.cell? ⟨w.heap.size + 2, 4, none⟩ = some (.int .i64 r.on.k) := blkc hb1 4 _ rfl
         have c5 : W1.cell? ⟨w.heap.size + 2, 5, none⟩ = some (.int .i64 r.on.d) := blkc hb1 5 _ rfl
         have c6 : W1.cell? ⟨w.heap.size + 2, 6, none⟩ = some (.int .i64 r.on.w) := blkc hb1 6 _ rfl
         clear hf1 hb1 HBS HBZ HBS3 HBR HF3)
      | ((with_reducible refine at_store4 110 ?_); refine wpList_store_blk 110 _ _ (w.heap.size + 1) 0 110 (fireC f0) (fireC f0) (fireC f0) (by rfl) rfl rfl rfl rfl HR1.out (infoXF _) (fireC_one _) (show 0 + 4 ≤ 4 by decide) (put_fi _ _) ?_
         intro W2 hf2 hb2
         have HF2 := Lib.hid (HF.out.fresh hf2 (fun i e => by have e : i = w.heap.size + 1 := e; omega))
         have HB2 := Lib.hid hb2
         clear hf2 hb2))
    exact bodyPost_ret (results_fire _ _ (w.heap.size + 1) f0 (.bool false) rfl rfl HB2.out) rfl ⟨by rw [HE.out]; rfl, HF2.out⟩
  · go_enter Tryd.func60, Tryd.ntmps60
    go_wp2_with (first
      | ((with_reducible refine at_load4 49 ?_); refine wpList_load_blk 49 _ w.heap.size 0 116 (seatC r p) (ruleC r) _ (by rfl) rfl rfl HBS.out Tryd.underlying49 rfl (infoR _) (part_seat r p) ?_)
      | ((with_reducible refine at_store4 49 ?_); refine wpList_store_blk 49 _ _ (w.heap.size + 2) 0 49 (ruleC ruleZ) (ruleC r) (ruleC r) (by rfl) rfl rfl rfl rfl HBZ.out (infoR _) (ruleC_one _) (show 0 + 11 ≤ 11 by decide) (put_ra _ _) ?_
         intro W1 hf1 hb1
         have HF := Lib.hid (HF3.out.fresh hf1 (fun i e => by have e : i = w.heap.size + 2 := e; omega))
         have HS1 := Lib.hid (hf1.blk HBS3.out (fun e => by have e : w.heap.size = w.heap.size + 2 := e; omega))
         have HR1 := Lib.hid (hf1.blk HBR.out (fun e => by have e : w.heap.size + 1 = w.heap.size + 2 := e; omega))
         have HB1 := Lib.hid hb1
         have c1 : W1.cell? ⟨w.heap.size + 2, 1, none⟩ = some (.int .i64 r.fr) := blkc hb1 1 _ rfl
         have c2 : W1.cell? ⟨w.heap.size + 2, 2, none⟩ = some (.int .i64 r.to) := blkc hb1 2 _ rfl
         have c3 : W1.cell? ⟨w.heap.size + 2, 3, none⟩ = some (.int .i64 r.month) := blkc hb1 3 _ rfl
         have c4 : W1.cell? ⟨w.heap.size + 2, 4, none⟩ = some (.int .i64 r.on.k) := blkc hb1 4 _ rfl
         have c5 : W1.cell? ⟨w.heap.size + 2, 5, none⟩ = some (.int .i64 r.on.d) := blkc hb1 5 _ rfl
         have c6 : W1.cell? ⟨w.heap.size + 2, 6, none⟩ = some (.int .i64 r.on.w) := blkc hb1 6 _ rfl
         clear hf1 hb1 HBS HBZ HBS3 HBR HF3)
      | ((with_reducible refine at_store4 110 ?_); refine wpList_store_blk 110 _ _ (w.heap.size + 1) 0 110 (fireC f0) (fireC f0) (fireC f0) (by rfl) rfl rfl rfl rfl HR1.out (infoXF _) (fireC_one _) (show 0 + 4 ≤ 4 by decide) (put_fi _ _) ?_
         intro W2 hf2 hb2
         have HF2 := Lib.hid (HF.out.fresh hf2 (fun i e => by have e : i = w.heap.size + 1 := e; omega))
         have HB2 := Lib.hid hb2
         clear hf2 hb2))
    exact bodyPost_ret (results_fire _ _ (w.heap.size + 1) f0 (.bool false) rfl rfl HB2.out) rfl ⟨by rw [HE.out]; rfl, HF2.out⟩
set_option maxHeartbeats 1600000 in
set_option maxRecDepth 100000 in
theorem fire_of (r : RuleL) (p y n j : Int) (w : World) (hw : S6.WOk w) (h1 : ¬ y < max r.fr 1) (h2 : ¬ min r.to 9999 < y) (hof : S6.ofD r.on.k r.on.d r.on.w y r.month = (n, j)) (hn : j = 0 → -4371600 ≤ n ∧ n < 2932910) (hs : -700000 ≤ r.at_.s ∧ r.at_.s ≤ 700000) :
    Calls Tryd.prog 60 #[.agg (seatC r p), intV y] w fun e w' => e = .returned (fireO (if j = 0 then some ⟨p, y, n * 86400 + r.at_.s, 0⟩ else none)) ∧ Fr w w' (fun _ => False) := by
  have HQ := Lib.hid (fun (W : World) (f : Fr w W (fun _ => False)) => S6.Of_any r.on.k r.on.d r.on.w y r.month W (hw.fr f) n j hof)
  have HW := Lib.hid hw
  have hs1 : (w.alloc (.cells (seatC r p) 116)).heap.size = w.heap.size + 1 := by simp
  have hs2 : ((w.alloc (.cells (seatC r p) 116)).alloc (.cells #[.int .i64 0, .int .i64 0, .int .i64 0, .int .i64 0] 110)).heap.size = w.heap.size + 2 := by simp
  have n1 := Fr.new w (.cells (seatC r p) 116) (fun _ => False)
  have n2 := Fr.new (w.alloc (.cells (seatC r p) 116)) (.cells #[.int .i64 0, .int .i64 0, .int .i64 0, .int .i64 0] 110) (fun _ => False)
  have n3 := Fr.new ((w.alloc (.cells (seatC r p) 116)).alloc (.cells #[.int .i64 0, .int .i64 0, .int .i64 0, .int .i64 0] 110)) (.cells #[.string ⟨#[]⟩, .int .i64 0, .int .i64 0, .int .i64 0, .int .i64 0, .int .i64 0, .int .i64 0, .int .i64 0, .int .i64 0, .int .i64 0, .string ⟨#[]⟩] 49) (fun _ => False)
  have HBS := Lib.hid (n2.blk (Blk.made w 116 (seatC r p)) (fun h => h))
  have hbr := Blk.made (w.alloc (.cells (seatC r p) 116)) 110 (fireC f0)
  have hbz := Blk.made ((w.alloc (.cells (seatC r p) 116)).alloc (.cells #[.int .i64 0, .int .i64 0, .int .i64 0, .int .i64 0] 110)) 49 (ruleC ruleZ)
  rw [hs1] at hbr
  rw [hs2] at hbz
  have HBS3 := Lib.hid (n3.blk HBS.out (fun h => h))
  have HBR := Lib.hid (n3.blk hbr (fun h => h))
  have HBZ := Lib.hid hbz
  have HF3 := Lib.hid (ff4 n1 (ff4 n2 n3))
  clear n1 n2 n3 hbr hbz hs1 hs2 hw
  by_cases hj : j = 0
  · subst hj
    obtain ⟨hn1, hn2⟩ := hn rfl
    obtain ⟨hs1, hs2⟩ := hs
    clear hn hof
    go_enter Tryd.func60, Tryd.ntmps60
    go_wp2_with (first
      | ((with_reducible refine at_load4 49 ?_); refine wpList_load_blk 49 _ w.heap.size 0 116 (seatC r p) (ruleC r) _ (by rfl) rfl rfl HBS.out Tryd.underlying49 rfl (infoR _) (part_seat r p) ?_)
      | ((with_reducible refine at_store4 49 ?_); refine wpList_store_blk 49 _ _ (w.heap.size + 2) 0 49 (ruleC ruleZ) (ruleC r) (ruleC r) (by rfl) rfl rfl rfl rfl HBZ.out (infoR _) (ruleC_one _) (show 0 + 11 ≤ 11 by decide) (put_ra _ _) ?_
         intro W1 hf1 hb1
         have HF := Lib.hid (HF3.out.fresh hf1 (fun i e => by have e : i = w.heap.size + 2 := e; omega))
         have HS1 := Lib.hid (hf1.blk HBS3.out (fun e => by have e : w.heap.size = w.heap.size + 2 := e; omega))
         have HR1 := Lib.hid (hf1.blk HBR.out (fun e => by have e : w.heap.size + 1 = w.heap.size + 2 := e; omega))
         have HB1 := Lib.hid hb1
         have c1 : W1.cell? ⟨w.heap.size + 2, 1, none⟩ = some (.int .i64 r.fr) := blkc hb1 1 _ rfl
         have c2 : W1.cell? ⟨w.heap.size + 2, 2, none⟩ = some (.int .i64 r.to) := blkc hb1 2 _ rfl
         have c3 : W1.cell? ⟨w.heap.size + 2, 3, none⟩ = some (.int .i64 r.month) := blkc hb1 3 _ rfl
         have c4 : W1.cell? ⟨w.heap.size + 2, 4, none⟩ = some (.int .i64 r.on.k) := blkc hb1 4 _ rfl
         have c5 : W1.cell? ⟨w.heap.size + 2, 5, none⟩ = some (.int .i64 r.on.d) := blkc hb1 5 _ rfl
         have c6 : W1.cell? ⟨w.heap.size + 2, 6, none⟩ = some (.int .i64 r.on.w) := blkc hb1 6 _ rfl
         clear hf1 hb1 HBS HBZ HBS3 HBR HF3))
    refine (HQ.out _ HF.out).mono ?_
    rintro e w5 ⟨rfl, hf5⟩
    have HF5 := Lib.hid (ff4 HF.out hf5)
    have HR5 := Lib.hid (hf5.blk HR1.out (fun h => h))
    have hb5 := hf5.blk HB1.out (fun h => h)
    have hs5 := hf5.blk HS1.out (fun h => h)
    have c7 : w5.cell? ⟨w.heap.size + 2, 7, none⟩ = some (.int .i64 r.at_.s) := blkc hb5 7 _ rfl
    have c11 : w5.cell? ⟨w.heap.size, 11, none⟩ = some (.int .i64 p) := blkc hs5 11 _ rfl
    clear hf5 hb5 hs5 c1 c2 c3 c4 c5 c6
    go_wp2_with (
      ((with_reducible refine at_store4 110 ?_); refine wpList_store_blk 110 _ _ (w.heap.size + 1) 0 110 (fireC f0) (fireC ⟨p, y, n * 86400 + r.at_.s, 0⟩) (fireC ⟨p, y, n * 86400 + r.at_.s, 0⟩) (by rfl) rfl rfl rfl rfl HR5.out (infoXF _) (fireC_one _) (show 0 + 4 ≤ 4 by decide) (put_fi _ _) ?_
       intro W2 hf2 hb2
       have HF2 := Lib.hid (HF5.out.fresh hf2 (fun i e => by have e : i = w.heap.size + 1 := e; omega))
       have HB2 := Lib.hid hb2
       clear hf2 hb2))
    exact bodyPost_ret (results_fire _ _ (w.heap.size + 1) ⟨p, y, n * 86400 + r.at_.s, 0⟩ (.bool true) rfl rfl HB2.out) rfl ⟨rfl, HF2.out⟩
  · have HJ := Lib.hid hj
    have hj : (j == 0) = false := beq_eq_false_iff_ne.2 hj
    clear hn hof
    go_enter Tryd.func60, Tryd.ntmps60
    go_wp2_with (first
      | ((with_reducible refine at_load4 49 ?_); refine wpList_load_blk 49 _ w.heap.size 0 116 (seatC r p) (ruleC r) _ (by rfl) rfl rfl HBS.out Tryd.underlying49 rfl (infoR _) (part_seat r p) ?_)
      | ((with_reducible refine at_store4 49 ?_); refine wpList_store_blk 49 _ _ (w.heap.size + 2) 0 49 (ruleC ruleZ) (ruleC r) (ruleC r) (by rfl) rfl rfl rfl rfl HBZ.out (infoR _) (ruleC_one _) (show 0 + 11 ≤ 11 by decide) (put_ra _ _) ?_
         intro W1 hf1 hb1
         have HF := Lib.hid (HF3.out.fresh hf1 (fun i e => by have e : i = w.heap.size + 2 := e; omega))
         have HS1 := Lib.hid (hf1.blk HBS3.out (fun e => by have e : w.heap.size = w.heap.size + 2 := e; omega))
         have HR1 := Lib.hid (hf1.blk HBR.out (fun e => by have e : w.heap.size + 1 = w.heap.size + 2 := e; omega))
         have HB1 := Lib.hid hb1
         have c1 : W1.cell? ⟨w.heap.size + 2, 1, none⟩ = some (.int .i64 r.fr) := blkc hb1 1 _ rfl
         have c2 : W1.cell? ⟨w.heap.size + 2, 2, none⟩ = some (.int .i64 r.to) := blkc hb1 2 _ rfl
         have c3 : W1.cell? ⟨w.heap.size + 2, 3, none⟩ = some (.int .i64 r.month) := blkc hb1 3 _ rfl
         have c4 : W1.cell? ⟨w.heap.size + 2, 4, none⟩ = some (.int .i64 r.on.k) := blkc hb1 4 _ rfl
         have c5 : W1.cell? ⟨w.heap.size + 2, 5, none⟩ = some (.int .i64 r.on.d) := blkc hb1 5 _ rfl
         have c6 : W1.cell? ⟨w.heap.size + 2, 6, none⟩ = some (.int .i64 r.on.w) := blkc hb1 6 _ rfl
         clear hf1 hb1 HBS HBZ HBS3 HBR HF3))
    refine (HQ.out _ HF.out).mono ?_
    rintro e w5 ⟨rfl, hf5⟩
    have HF5 := Lib.hid (ff4 HF.out hf5)
    have HR5 := Lib.hid (hf5.blk HR1.out (fun h => h))
    have hb5 := hf5.blk HB1.out (fun h => h)
    have hs5 := hf5.blk HS1.out (fun h => h)
    have c7 : w5.cell? ⟨w.heap.size + 2, 7, none⟩ = some (.int .i64 r.at_.s) := blkc hb5 7 _ rfl
    have c11 : w5.cell? ⟨w.heap.size, 11, none⟩ = some (.int .i64 p) := blkc hs5 11 _ rfl
    clear hf5 hb5 hs5 c1 c2 c3 c4 c5 c6
    go_wp2_with (
      ((with_reducible refine at_store4 110 ?_); refine wpList_store_blk 110 _ _ (w.heap.size + 1) 0 110 (fireC f0) (fireC f0) (fireC f0) (by rfl) rfl rfl rfl rfl HR5.out (infoXF _) (fireC_one _) (show 0 + 4 ≤ 4 by decide) (put_fi _ _) ?_
       intro W2 hf2 hb2
       have HF2 := Lib.hid (HF5.out.fresh hf2 (fun i e => by have e : i = w.heap.size + 1 := e; omega))
       have HB2 := Lib.hid hb2
       clear hf2 hb2))
    exact bodyPost_ret (results_fire _ _ (w.heap.size + 1) f0 (.bool false) rfl rfl HB2.out) rfl ⟨rfl, HF2.out⟩
theorem fire_any (r : RuleL) (p y : Int) (w : World) (hw : S6.WOk w) (hs : -700000 ≤ r.at_.s ∧ r.at_.s ≤ 700000) : Calls Tryd.prog 60 #[.agg (seatC r p), intV y] w fun e w' => e = .returned (fireO (fireR r p y)) ∧ Fr w w' (fun _ => False) := by
  by_cases hl : lasts r y
  · obtain ⟨l1, l2, l3, l4⟩ := hl
    obtain ⟨n, j, hnj⟩ : ∃ n j, S6.ofD r.on.k r.on.d r.on.w y r.month = (n, j) := ⟨_, _, rfl⟩
    obtain ⟨N0, N1⟩ := num_of hnj
    have h := fire_of r p y n j w hw (by omega) (by omega) hnj (fun hj => numX_range (N0 hj)) hs
    have e : (if j = 0 then some ⟨p, y, n * 86400 + r.at_.s, 0⟩ else none) = fireR r p y := by
      unfold fireR
      by_cases hj : j = 0
      · rw [if_pos hj, atR_num ⟨l1, l2, l3, l4⟩ (N0 hj)]; rfl
      · rw [if_neg hj, atR_none (N1 hj)]; rfl
    rwa [e] at h
  · exact fire_no r p y w hw (by unfold lasts at hl; omega)
end Go.Proofs.YtpjmmnhmhjpkkaaDoor
namespace Go.Proofs.YtpjmmnhmhjpkkaaDoor
open Go.RowKit Go.Mem Go.Lin Go.Dcm

/-- rows of the type e -/
def TB (B : Nat) (e : TypeId) (w : World) (i : Nat) : Prop := B ≤ i ∧ ∃ cs, Blk w i e cs
theorem tb_own {X : Type} {w w' : World} {B : Nat} {e : TypeId} {k : Nat} {f : X → List Value} {v : Value} {l : List X} (h : Own w B e k f v l) (hf : Fr w w' (fun i => some i = v.ownBlock)) : Fr w w' (TB B e w) :=
  hf.mono fun i _ hi => by
    obtain ⟨h1, -, h2⟩ := own_block h hi.symm
    exact ⟨h1, h2⟩
end Go.Proofs.YtpjmmnhmhjpkkaaDoor
namespace Go.Proofs.YtpjmmnhmhjpkkaaDoor
open Go.RowKit Go.Mem Go.Lin Go.Dcm

/-- a slice of lines -/
def LinesAt (w : World) (A : Option Addr) (l : List LineL) : Prop := Rd w 29 A l.length (l.flatMap lineL)
theorem LinesAt.kept {w w' : World} {A : Option Addr} {l : List LineL} (h : LinesAt w A l) (hf : Fr w w' (fun _ => False)) : LinesAt w' A l := Rd.fr h hf (fun _ _ _ _ h => h)
theorem LinesAt.at_ {w : World} {A : Option Addr} {l : List LineL} (h : LinesAt w A l) {i : Nat} (hi : i < l.length) : ∃ b off, A = some ⟨b, off, none⟩ ∧ ∀ j, j < (lineC l[i]).size → w.cell? ⟨b, off + i * 29 + j, none⟩ = (lineC l[i])[j]? := by
  obtain ⟨b, off, e, hc⟩ := rows_at lineL_len h (List.getElem?_eq_getElem hi)
  refine ⟨b, off, e, fun j hj => ?_⟩
  rw [hc j hj]
  show (lineC l[i]).toList[j]? = _
  simp
end Go.Proofs.YtpjmmnhmhjpkkaaDoor
namespace Go.Mem
open Go.RowKit
section
variable {P : Program} {ops : Array Oper} {rest : List Oper} {o : Oper} {a : Act} {w : World} {Q : Exit → Act → World → Prop}
/-- a struct is put together -/
theorem wpList_build1 (t : TypeId) (parts : Array (Nat × Operand)) (v : Value) (hgd : Region.wanted o (yielded ops a.tmps) = true) (ho : o.op = .build t parts) (h : ∀ w, (Instr.build t (parts.map fun (i, x) => (i, a.eval x))).run P w = .ok v w)
    (hK : wpList P ops Q rest (a.put o.dst v) w) : wpList P ops Q (o :: rest) a w :=
  wpList_step fun _ hk => by
    rw [if_pos hgd]
    unfold Oper.wp execOp
    simp only [ho, Sem.run_bind, h, Sem.run_pure, Result.andThen_ok]
    exact hk _ _ hK
/-- a slice of one element is made: the world behind it is opaque -/
theorem wpList_made {t e : TypeId} {y : Operand} {v : Value} (cs : Array Value) (hgd : Region.wanted o (yielded ops a.tmps) = true) (ho : o.op = .buildSlice t 1 #[(0, y)]) (hy : a.eval y = v)
    (hm : ∀ w, (Instr.buildSlice t 1 #[(0, v)]).run P w = .ok (.slice (some ⟨w.heap.size, 0, none⟩) 1 1) (w.alloc (.cells cs e)))
    (h : ∀ W, Fr w W (fun _ => False) → W.heap.size = w.heap.size + 1 → Blk W w.heap.size e cs → Rd W cs.size (some ⟨w.heap.size, 0, none⟩) 1 cs.toList → wpList P ops Q rest (a.put o.dst (.slice (some ⟨w.heap.size, 0, none⟩) 1 1)) W) : wpList P ops Q (o :: rest) a w :=
  wpList_step fun _ hK => by
    rw [if_pos hgd]
    unfold Oper.wp execOp
    simp only [ho, Sem.run_bind, List.map_toArray, List.map_cons, List.map_nil, hy, hm, Result.andThen_ok]
    refine hK _ _ (h _ (Fr.new w _ _) (by simp) (Blk.made w e cs) ?_)
    refine ⟨by simp, fun _ => ⟨w.heap.size, 0, rfl, fun j u hu => ?_⟩⟩
    have := cell_at (Blk.made w e cs) j
    rw [Nat.zero_add, this]
    simpa using hu
end
end Go.Mem
namespace Go.Proofs.YtpjmmnhmhjpkkaaDoor
open Go.RowKit Go.Mem Go.Lin Go.Dcm
/-- one element more: the row behind it, the world opaque -/
theorem wpList_append1 {P : Program} {ops : Array Oper} {rest : List Oper} {o : Oper} {a : Act} {w : World} {Q : Exit → Act → World → Prop} {X : Type} {f : X → List Value} {l : List X} (s y : Operand) (t : TypeId)
    (hgd : o.guard = none) (ho : o.op = .call { callee := .builtin .append, args := #[s, y], argTypes := #[t, t] })
    (base : Nat) (e : TypeId) (z : Value) (size bytes : Nat) (ht : P.underlying t = some (.slice e)) (hi : (P.info? e).map (fun i => (i.zero, i.size, i.bytes)) = some (some z, size, bytes)) (hzs : z.cells.size = size) (hsz : 0 < size)
    (v : Value) (hs : a.eval s = v) (hown : Own w base e size f v l) (A : Option Addr) (c : Nat) (x : X) (cs : List Value) (hx : a.eval y = .slice A 1 c) (hr : Rd w size A 1 cs) (hcs : cs = f x) (h1 : ∀ u ∈ cs, u.oneCell' = true)
    (h63 : l.length ≤ 100000) (hby : bytes ≤ 1000) (hbase : base ≤ w.heap.size)
    (h : ∀ A9 c9 w9, Own w9 base e size f (.slice A9 (l.length + 1) c9) (l ++ [x]) → Fr w w9 (fun i => some i = v.ownBlock) → wpList P ops Q rest (a.put o.dst (.slice A9 (l.length + 1) c9)) w9) : wpList P ops Q (o :: rest) a w := by
  obtain ⟨i0, hi0, hz0, hz1, hz2⟩ := info_parts hi
  refine wpList_append_rd w hgd s y t ho base e i0 z size bytes ht hi0 hz0 hz1 hz2 hzs hsz v l.length _ hs hown A 1 c cs hx hr h1 (by simp only [maxLen]; omega) ?_ hbase ?_
  · have : (l.length + 1) * bytes ≤ 100001 * 1000 := Nat.mul_le_mul (by omega) hby
    omega
  · intro v9 w9 hown9 hg9 _
    obtain ⟨A9, c9, rfl⟩ := Go.Mem.own_slice hown9
    exact h A9 c9 w9 (own_more hown9 hcs) (Fr.ofGrown hg9)
namespace R
end R
end Go.Proofs.YtpjmmnhmhjpkkaaDoor
namespace Go.Proofs.YtpjmmnhmhjpkkaaDoor
open Go.RowKit Go.Mem Go.Lin Go.Xpd

section
variable {P : Program} {ops : Array Oper} {rest : List Oper} {a : Act} {w : World} {Q : Exit → Act → World → Prop}
theorem at_slice4 {d : Option Tmp} {y : Operand} {ty : TypeId} {pos : String} {af : Array Edge} {g : Option (Nat × Bool)} (t : TypeId) (h : wpList P ops Q (⟨d, .buildSlice t 1 #[(0, y)], ty, pos, af, g⟩ :: rest) a w) : wpList P ops Q (⟨d, .buildSlice t 1 #[(0, y)], ty, pos, af, g⟩ :: rest) a w := h
theorem at_append4 {d : Option Tmp} {t : TypeId} {ty : TypeId} {pos : String} {af : Array Edge} {g : Option (Nat × Bool)} (s x : Operand) (h : wpList P ops Q (⟨d, .call { callee := .builtin .append, args := #[s, x], argTypes := #[t, t] }, ty, pos, af, g⟩ :: rest) a w) : wpList P ops Q (⟨d, .call { callee := .builtin .append, args := #[s, x], argTypes := #[t, t] }, ty, pos, af, g⟩ :: rest) a w := h
end
theorem info_xfire : (Tryd.prog.info? 110).map (fun i => (i.zero, i.size, i.bytes)) = some (some (fireV f0), 4, 32) := by kernel_rfl
abbrev XFires (w : World) (base : Nat) (v : Value) (l : List FireL) : Prop := Own w base 110 4 fireL v l
abbrev seatM (r : RuleL) (p : Int) : Value := .func (.func 60) #[.agg (seatC r p)] #[]
theorem gath_none {r : RuleL} {p a : Int} {n : Nat} (h : fireR r p (a + n) = none) : gathD r p a (n + 1) = gathD r p a n := by
  show gathD r p a n ++ (fireR r p (a + n)).toList = _
  rw [h]; simp
theorem gath_some {r : RuleL} {p a : Int} {n : Nat} {f : FireL} (h : fireR r p (a + n) = some f) : gathD r p a (n + 1) = gathD r p a n ++ [f] := by
  show gathD r p a n ++ (fireR r p (a + n)).toList = _
  rw [h]; rfl
theorem fire_none {r : RuleL} {p y : Int} (h : fireR r p y = none) (w : World) (hw : S6.WOk w) (hs : -700000 ≤ r.at_.s ∧ r.at_.s ≤ 700000) : Calls Tryd.prog 60 #[.agg (seatC r p), intV y] w fun e w' => e = .returned (.tuple #[fireV f0, .bool false]) ∧ Fr w w' (fun _ => False) := by
  have := fire_any r p y w hw hs
  rw [h] at this
  exact this
theorem fire_some {r : RuleL} {p y : Int} {f : FireL} (h : fireR r p y = some f) (w : World) (hw : S6.WOk w) (hs : -700000 ≤ r.at_.s ∧ r.at_.s ≤ 700000) : Calls Tryd.prog 60 #[.agg (seatC r p), intV y] w fun e w' => e = .returned (.tuple #[fireV f, .bool true]) ∧ Fr w w' (fun _ => False) := by
  have := fire_any r p y w hw hs
  rw [h] at this
  exact this
/- only rows of fires of the call's own turn -/
abbrev TF (w0 w w' : World) : Prop := Fr w w' (TB w0.heap.size 110 w)
theorem tf_of {w0 w w' : World} (h : Fr w w' (fun _ => False)) : TF w0 w w' := h.mono fun _ _ h => h.elim
theorem tf_trans {w0 a b c : World} (h : TF w0 a b) (k : TF w0 b c) : TF w0 a c := by
  refine h.trans k (fun _ _ h => h) (fun i hi ⟨h1, cs, h2⟩ => ?_)
  by_cases e : TB w0.heap.size 110 a i
  · exact e
  · refine ⟨h1, cs, ?_⟩
    have := h.block i hi e
    unfold Blk at h2 ⊢
    rw [← this]; exact h2
theorem tf_far {w0 w w' : World} (hf : TF w0 w w') {g : Nat} {t : TypeId} {cs : Array Value} (hb : Blk w g t cs) (hne : t ≠ 110) : Blk w' g t cs := hf.blk hb fun h => hne (blk_same hb h.2.choose_spec)
theorem tf_low {w0 w w' : World} (h0 : Fr w0 w (fun _ => False)) (hf : TF w0 w w') : Fr w0 w' (fun _ => False) := h0.fresh hf fun _ h => h.1
set_option maxHeartbeats 3200000 in
set_option maxRecDepth 100000 in
theorem gather_any (r : RuleL) (p : Int) (F : List FireL) (v : Value) (a b : Int) (w0 w : World) (hw : S6.WOk w0) (hf : Fr w0 w (fun _ => False)) (ho : XFires w w0.heap.size v F) (hF : F.length ≤ 20000) (hs : -700000 ≤ r.at_.s ∧ r.at_.s ≤ 700000)
    (ha : -30000 ≤ a ∧ a ≤ 30000) (_hb : -30000 ≤ b ∧ b ≤ 30000) (hab : b - a ≤ 40) :
    Calls Tryd.prog 69 #[v, seatM r p, intV a, intV b] w fun e w' => ∃ v', e = .returned v' ∧ XFires w' w0.heap.size v' (F ++ gathD r p a (cntY a b)) ∧ TF w0 w w' := by
  have HW := Lib.hid hw
  have HSe := Lib.hid hs
  have HF0 := Lib.hid hf
  obtain ⟨A0, c0, rfl⟩ := ho.slice
  have HO0 := Lib.hid ho
  clear hf ho hw hs
  go_enter Tryd.func69, Tryd.ntmps69
  go_wp2_with fail
  go_loopg [0, 9, 10, 11] 100 (fun g v0 v9 _ _ wr => ∃ n : Nat, v9 = intV (a + n) ∧ (n = 0 ∨ a + n ≤ b + 1) ∧ b + 1 - (a + n) ≤ g ∧ XFires wr w0.heap.size v0 (F ++ gathD r p a n) ∧ TF w0 w wr)
  case atStart => exact ⟨0, by rw [show a + ((0 : Nat) : Int) = a by omega], .inl rfl, by omega, by rw [show gathD r p a 0 = [] from rfl, List.append_nil]; exact HO0.out, Fr.refl _ _⟩
  case round =>
    obtain ⟨n, rfl, hn0, hg, ho, hf⟩ := hrel
    obtain ⟨A1, c1, rfl⟩ := ho.slice
    obtain ⟨G, hGk⟩ : ∃ G, gk = G := ⟨_, rfl⟩
    rw [hGk] at hg
    have HT := Lib.hid hf
    have HF := Lib.hid (tf_low HF0.out hf)
    have HO := Lib.hid ho
    obtain ⟨y, hyv⟩ : ∃ y : Int, a + n = y := ⟨_, rfl⟩
    have HYv := Lib.hid hyv
    have hn1 : n ≤ 41 := by omega
    have hgl := gathD_len r p a n
    obtain ⟨L, hL⟩ : ∃ L, F ++ gathD r p a n = L := ⟨_, rfl⟩
    have hLl : L.length ≤ 30000 := by rw [← hL, List.length_append]; omega
    have HL := Lib.hid hL
    have hy1 : -30000 ≤ y ∧ y ≤ 30041 := by omega
    rw [hyv] at hn0 hg ⊢
    rw [hL] at HO ⊢
    clear hf ho hyv hL hgl
    by_cases hx : y ≤ b
    · cases ho : fireR r p y with
      | none =>
        have HQ := Lib.hid (fire_none ho wr (HW.out.fr HF.out) HSe.out)
        have HN := Lib.hid (show F ++ gathD r p a (n + 1) = L by rw [gath_none (by rw [HYv.out]; exact ho), HL.out])
        clear ho
        go_wp2_with fail
        refine HQ.out.mono ?_
        rintro e w2 ⟨rfl, hf2⟩
        have HF2 := Lib.hid hf2
        have HO2 := Lib.hid (HO.out.kept hf2)
        have n2 := Fr.new w2 (.cells #[.int .i64 0, .int .i64 0, .int .i64 0, .int .i64 0] 110) (fun _ => False)
        have HF3 := Lib.hid (ff4 HF2.out n2)
        have HO3 := Lib.hid (HO2.out.kept n2)
        have HB := Lib.hid (show Blk _ w2.heap.size 110 (fireC f0) from Blk.made w2 110 (fireC f0))
        clear hf2 n2
        go_wp2_with (
          ((with_reducible refine at_store4 110 ?_); refine wpList_store_blk 110 _ _ w2.heap.size 0 110 (fireC f0) (fireC f0) (fireC f0) (by rfl) rfl rfl rfl rfl HB.out (infoXF _) (fireC_one _) (show 0 + 4 ≤ 4 by decide) (put_fi _ _) ?_
           intro W3 hf3 hb3
           have HF4 := Lib.hid (HF3.out.fresh hf3 (fun i e => by have e : i = w2.heap.size := e; have := HF2.out.size; omega))
           have HO4 := Lib.hid (show XFires W3 w0.heap.size _ L from HO3.out.fr hf3 (fun g hg e => by have e : g = w2.heap.size := e; have := (own_block HO2.out hg).2.1; omega))
           clear hf3 hb3))
        go_roundg (G - 1)
        case measure => omega
        case rel =>
          have hyv := HYv.out
          have e1 : a + ((n + 1 : Nat) : Int) = y + 1 := by omega
          exact ⟨n + 1, by rw [e1], .inr (by omega), by omega, by rw [HN.out]; exact HO4.out, tf_trans HT.out (tf_of HF4.out)⟩
      | some f =>
        have HQ := Lib.hid (fire_some ho wr (HW.out.fr HF.out) HSe.out)
        have HN := Lib.hid (show F ++ gathD r p a (n + 1) = L ++ [f] by rw [gath_some (by rw [HYv.out]; exact ho), ← List.append_assoc, HL.out])
        clear ho
        go_wp2_with fail
        refine HQ.out.mono ?_
        rintro e w2 ⟨rfl, hf2⟩
        have HF2 := Lib.hid hf2
        have HO2 := Lib.hid (HO.out.kept hf2)
        have n2 := Fr.new w2 (.cells #[.int .i64 0, .int .i64 0, .int .i64 0, .int .i64 0] 110) (fun _ => False)
        have HF3 := Lib.hid (ff4 HF2.out n2)
        have HO3 := Lib.hid (HO2.out.kept n2)
        have HB := Lib.hid (show Blk _ w2.heap.size 110 (fireC f0) from Blk.made w2 110 (fireC f0))
        clear hf2 n2
        go_wp2_with (first
          | ((with_reducible refine at_store4 110 ?_); refine wpList_store_blk 110 _ _ w2.heap.size 0 110 (fireC f0) (fireC f) (fireC f) (by rfl) rfl rfl rfl rfl HB.out (infoXF _) (fireC_one _) (show 0 + 4 ≤ 4 by decide) (put_fi _ _) ?_
             intro W3 hf3 hb3
             have HF4 := Lib.hid (HF3.out.fresh hf3 (fun i e => by have e : i = w2.heap.size := e; have := HF2.out.size; omega))
             have HO4 := Lib.hid (show XFires W3 w0.heap.size _ L from HO3.out.fr hf3 (fun g hg e => by have e : g = w2.heap.size := e; have := (own_block HO2.out hg).2.1; omega))
             have HB4 := Lib.hid hb3
             clear hf3 hb3)
          | ((with_reducible refine at_load4 110 ?_); refine wpList_load_blk 110 _ w2.heap.size 0 110 (fireC f) (fireC f) _ (by rfl) rfl rfl HB4.out Tryd.underlying110 rfl (infoXF _) (zero_part _) ?_)
          | ((with_reducible refine at_slice4 (y := .tmp 26) 108 ?_); refine wpList_made (t := 108) (e := 110) (y := .tmp 26) (v := fireV f) (fireC f) (by rfl) rfl rfl (fun _ => by kernel_rfl) ?_
             intro Wm hfm hsm hbm hrm
             have HFm := Lib.hid (ff4 HF4.out hfm)
             have HOm := Lib.hid (HO4.out.kept hfm)
             have HRm := Lib.hid hrm
             clear hfm hsm hbm hrm)
          | ((with_reducible refine at_append4 (.tmp 25) (.tmp 27) ?_); refine wpList_append1 (f := fireL) (.tmp 25) (.tmp 27) 108 rfl rfl w0.heap.size 110 _ 4 32 Tryd.underlying108 info_xfire rfl (by decide) _ rfl HOm.out _ 1 f (fireC f).toList rfl HRm.out rfl (one_made (fireC_one f)) (by omega) (by decide) (Nat.le_trans HF.out.size HFm.out.size) ?_
             intro A2 c2 Wp hop hfp
             have HTp := Lib.hid (tf_trans (tf_trans HT.out (tf_of HFm.out)) (tb_own HOm.out hfp))
             have HOp := Lib.hid hop
             clear hop hfp))
        go_roundg (G - 1)
        case measure => omega
        case rel =>
          have hyv := HYv.out
          have e1 : a + ((n + 1 : Nat) : Int) = y + 1 := by omega
          exact ⟨n + 1, by rw [e1], .inr (by omega), by omega, by rw [HN.out]; exact HOp.out, HTp.out⟩
    · have hyv := HYv.out
      have HE := Lib.hid (show F ++ gathD r p a (cntY a b) = L by rw [← HL.out]; unfold cntY; rw [show (b + 1 - a).toNat = n by omega])
      clear hyv
      go_wp2_with fail
      go_ret
      exact ⟨_, rfl, by rw [HE.out]; exact HO.out, HT.out⟩
end Go.Proofs.YtpjmmnhmhjpkkaaDoor
namespace Go.Proofs.YtpjmmnhmhjpkkaaDoor
open Go.RowKit Go.Mem Go.Lin Go.Xpd

theorem markF_next {l : List RuleL} {s : Int} {F : List FireL} {m : Nat} {x : FireL} (h : F[m]? = some x) : markF l s (F.take (m + 1)) = markF l s (F.take m) ++ [{ x with bef := endS l s (F.take m) }] ∧ endS l s (F.take (m + 1)) = savD l x.i := by
  rw [List.take_add_one, h]
  refine ⟨?_, ?_⟩
  · show markF l s (F.take m ++ [x]) = _
    rw [markF_app]; rfl
  · show endS l s (F.take m ++ [x]) = _
    rw [endS_app]; rfl
end Go.Proofs.YtpjmmnhmhjpkkaaDoor
namespace Go.Proofs.YtpjmmnhmhjpkkaaDoor
open Go.RowKit Go.Mem Go.Lin Go.Xpd Go.Den

/- a zone in its cells -/
structure ZnV where
  Ae : Option Addr
  ce : Nat
  eras : List EraL
  Ar : Option Addr
  cr : Nat
  Z : List RuV
def zoneC (v : ZnV) : Array Value := #[.slice v.Ae v.eras.length v.ce, .slice v.Ar v.Z.length v.cr]
structure ZnAt (w : World) (v : ZnV) : Prop where
  e : ErasAt w v.Ae v.eras
  r : RusIn w v.Ar v.Z
theorem ZnAt.kept {w w' : World} {v : ZnV} (h : ZnAt w v) (hf : Fr w w' (fun _ => False)) : ZnAt w' v := ⟨h.e.kept hf, h.r.kept hf⟩
def znD (v : ZnV) : ZoneD := ⟨v.eras, v.Z.map (·.l)⟩
/-- what Light asks of an era -/
def OkE (e : EraL) : Prop := -100000 ≤ e.off ∧ e.off ≤ 100000 ∧ -100000 ≤ e.save ∧ e.save ≤ 100000 ∧ -700000 ≤ e.til.at_.s ∧ e.til.at_.s ≤ 700000 ∧ e.rules.length ≤ 100 ∧ e.format.length ≤ 100
instance (e : EraL) : Decidable (OkE e) := by unfold OkE; infer_instance
def LightZ (v : ZnV) : Prop := v.eras.length ≤ 10 ∧ v.Z.length ≤ 10 ∧ (∀ x ∈ v.Z, LightP x.l 6) ∧ ∀ e ∈ v.eras, OkE e
instance (v : ZnV) : Decidable (LightZ v) := by unfold LightZ; infer_instance
theorem put_er (e f : EraL) : setMany (eraC e) 0 (eraC f).toList = eraC f := put_all rfl
theorem eraS_1 {z : ZoneD} {i : Nat} {t : Int} {e : EraL} (h : z.eras[i]? = some e) (hk : e.kind = 1) : eraS z i t = (e.save, []) := by unfold eraS; rw [h]; exact if_pos hk
theorem eraS_0 {z : ZoneD} {i : Nat} {t : Int} {e : EraL} (h : z.eras[i]? = some e) (h1 : e.kind ≠ 1) (h2 : e.kind ≠ 2) : eraS z i t = (0, []) := by unfold eraS; rw [h]; show (if e.kind = 1 then _ else _) = _; rw [if_neg h1, if_neg h2]
end Go.Proofs.YtpjmmnhmhjpkkaaDoor
namespace Go.Proofs.YtpjmmnhmhjpkkaaDoor
open Go.RowKit Go.Mem Go.Lin Go.Xpd Go.Den

/-- what is known of a zone that comes in -/
structure ZnR (v : ZnV) : Prop where
  z : ∀ x ∈ v.Z, x.l.length ≤ maxLen ∧ ∀ r ∈ x.l, RuR r
  e : ∀ e ∈ v.eras, EraR e
  ne : v.eras.length ≤ maxLen
  nz : v.Z.length ≤ maxLen
set_option maxHeartbeats 6400000 in
set_option maxRecDepth 100000 in
theorem zLight_any (v : ZnV) (w : World) (hv : ZnAt w v) (hR : ZnR v) : Calls Tryd.prog 5 #[.agg (zoneC v)] w fun e w' => e = .returned (.bool (decide (LightZ v))) ∧ Fr w w' (fun _ => False) := by
  have HF1 := Lib.hid (Fr.new w (.cells (zoneC v) 25) (fun _ => False))
  have HB1 := Lib.hid (Blk.made w 25 (zoneC v))
  have c0 : (w.alloc (.cells (zoneC v) 25)).cell? ⟨w.heap.size, 0, none⟩ = some (.slice v.Ae v.eras.length v.ce) := blkc HB1.out 0 _ rfl
  have c1 : (w.alloc (.cells (zoneC v) 25)).cell? ⟨w.heap.size, 1, none⟩ = some (.slice v.Ar v.Z.length v.cr) := blkc HB1.out 1 _ rfl
  have HV := Lib.hid (hv.kept HF1.out)
  have HRz := Lib.hid hR
  have hne := hR.ne
  have hnz := hR.nz
  clear hv hR
  have h3 : 10 < v.eras.length ∨ (v.eras.length ≤ 10 ∧ 10 < v.Z.length) ∨ (v.eras.length ≤ 10 ∧ v.Z.length ≤ 10) := by omega
  rcases h3 with q | ⟨q, q2⟩ | ⟨q, q2⟩
  · have HN := Lib.hid (show ¬ LightZ v from fun h => by have := h.1; omega)
    have q : (10 : Int) < (v.eras.length : Int) := by omega
    go_enter Tryd.func5, Tryd.ntmps5
    go_wp2_with fail
    go_ret
    exact ⟨by rw [decide_eq_false HN.out]; rfl, HF1.out⟩
  · have HN := Lib.hid (show ¬ LightZ v from fun h => by have := h.2.1; omega)
    have q : (v.eras.length : Int) ≤ 10 := by omega
    have q2 : (10 : Int) < (v.Z.length : Int) := by omega
    go_enter Tryd.func5, Tryd.ntmps5
    go_wp2_with fail
    go_ret
    exact ⟨by rw [decide_eq_false HN.out]; rfl, HF1.out⟩
  · have HQ := Lib.hid (And.intro q q2)
    have q : (v.eras.length : Int) ≤ 10 := by omega
    have q2 : (v.Z.length : Int) ≤ 10 := by omega
    have q3 : decide ((10 : Int) < (v.eras.length : Int)) = false := decide_eq_false (by omega)
    have q4 : decide ((10 : Int) < (v.Z.length : Int)) = false := decide_eq_false (by omega)
    go_enter Tryd.func5, Tryd.ntmps5
    go_wp2_with fail
    clear q q2 q3 q4
    generalize w.alloc (.cells (zoneC v) 25) = W1 at *
    have HC0 := Lib.hid c0
    have HC1 := Lib.hid c1
    clear c0 c1
    go_loopg [3] v.Z.length (fun g v3 wr => ∃ i : Nat, v3 = intV i ∧ i + g = v.Z.length ∧ (∀ j x, j < i → v.Z[j]? = some x → LightP x.l 6) ∧ Fr W1 wr (fun _ => False))
    case atStart => exact ⟨0, rfl, by simp, (fun j x hj => absurd hj (Nat.not_lt_zero j)), Fr.refl _ _⟩
    case round =>
      obtain ⟨i, rfl, hig, hok, hf⟩ := hrel
      have HF := Lib.hid hf
      have HOk := Lib.hid hok
      have g1 : wr.cell? ⟨w.heap.size, 1, none⟩ = some (.slice v.Ar v.Z.length v.cr) := cell_far hf HC1.out (fun h => h)
      by_cases hlt : i < v.Z.length
      · obtain ⟨x, hx⟩ : ∃ x, v.Z[i]? = some x := ⟨v.Z[i], List.getElem?_eq_getElem hlt⟩
        obtain ⟨b5, o5, hA5, hc5, hr5⟩ := (HV.out.kept hf).r.at_ hx
        rw [hA5] at g1
        clear hA5
        have z0 : (i : Int) < (v.Z.length : Int) := by omega
        obtain ⟨r1, r2⟩ := HRz.out.z x (List.mem_of_getElem? hx)
        have HL := Lib.hid (Light_any x.l x.A x.c 6 wr hr5 (by decide) r1 r2)
        have HX := Lib.hid hx
        clear hr5 hok hf hx r1 r2
        by_cases hP : LightP x.l 6
        · rw [decide_eq_true hP] at HL
          have HSt := Lib.hid (show ∀ j y, j < i + 1 → v.Z[j]? = some y → LightP y.l 6 from fun j y hj hy => by
            by_cases c : j = i
            · subst c; rw [HX.out] at hy; cases hy; exact hP
            · exact HOk.out j y (by omega) hy)
          clear hP
          go_wp2_with fail
          refine HL.out.mono ?_
          rintro e w2 ⟨rfl, hf2⟩
          have HF2 := Lib.hid (ff4 HF.out hf2)
          clear hf2
          go_wp2_with fail
          go_roundg (v.Z.length - (i + 1))
          case measure => omega
          case rel => exact ⟨i + 1, by go_num, by omega, HSt.out, HF2.out⟩
        · rw [decide_eq_false hP] at HL
          have HN := Lib.hid (show ¬ LightZ v from fun h => hP (h.2.2.1 x (List.mem_of_getElem? HX.out)))
          clear hP
          go_wp2_with fail
          refine HL.out.mono ?_
          rintro e w2 ⟨rfl, hf2⟩
          have HF2 := Lib.hid (ff4 HF1.out (ff4 HF.out hf2))
          clear hf2
          go_wp2_with fail
          go_ret
          exact ⟨by rw [decide_eq_false HN.out]; rfl, HF2.out⟩
      · obtain rfl : i = v.Z.length := by omega
        have HZa := Lib.hid (show ∀ x ∈ v.Z, LightP x.l 6 from fun x hx => by
          obtain ⟨k, hk⟩ := List.mem_iff_getElem?.1 hx
          exact hok k x (List.getElem?_eq_some_iff.1 hk).1 hk)
        clear hok hf
        go_wp2_with fail
        go_loopg [4, 5] v.eras.length (fun g v4 _ wr => ∃ i : Nat, v4 = intV i ∧ i + g = v.eras.length ∧ (∀ j e, j < i → v.eras[j]? = some e → OkE e) ∧ Fr W1 wr (fun _ => False))
        case atStart => exact ⟨0, rfl, by simp, (fun j e hj => absurd hj (Nat.not_lt_zero j)), HF.out⟩
        case round =>
          obtain ⟨i, rfl, hig, hok, hf⟩ := hrel
          have HFe := Lib.hid hf
          have HOk := Lib.hid hok
          have g0 : wr.cell? ⟨w.heap.size, 0, none⟩ = some (.slice v.Ae v.eras.length v.ce) := cell_far hf HC0.out (fun h => h)
          by_cases hlt : i < v.eras.length
          · obtain ⟨e, he⟩ : ∃ e, v.eras[i]? = some e := ⟨v.eras[i], List.getElem?_eq_getElem hlt⟩
            obtain ⟨b, off, hA, hc⟩ := (HV.out.kept hf).e.at_ he
            rw [hA] at g0
            clear hA
            have i0 : (i : Int) < (v.eras.length : Int) := by omega
            have HCx := Lib.hid hc
            have HE := Lib.hid he
            have her := HRz.out.e e (List.mem_of_getElem? he)
            have hr1 := her.rules
            have hr2 := her.format
            have n2 := Fr.new wr (.cells (eraC eraZ) 44) (fun _ => False)
            have HF2 := Lib.hid n2
            have HBz := Lib.hid (Blk.made wr 44 (eraC eraZ))
            have hz1 := S6.str_size e.rules
            have hz2 := S6.str_size e.format
            clear hc hok hf n2 he
            by_cases hP : OkE e
            · have HSt := Lib.hid (show ∀ j y, j < i + 1 → v.eras[j]? = some y → OkE y from fun j y hj hy => by
                by_cases c : j = i
                · subst c; rw [HE.out] at hy; cases hy; exact hP
                · exact HOk.out j y (by omega) hy)
              obtain ⟨k1, k2, k3, k4, k5, k6, k7, k8⟩ := hP
              have k7 : (e.rules.length : Int) ≤ 100 := by omega
              have k8 : (e.format.length : Int) ≤ 100 := by omega
              go_wp2_with (first
                | ((with_reducible refine at_load4 44 ?_); refine wpList_load_at 44 _ b (off + i * 13) (eraC e) _ (by rfl) rfl rfl HCx.out Tryd.underlying44 rfl (infoE _) ?_)
                | ((with_reducible refine at_store4 44 ?_); refine wpList_store_blk 44 _ _ wr.heap.size 0 44 (eraC eraZ) (eraC e) (eraC e) (by rfl) rfl rfl rfl rfl HBz.out (infoE _) (eraC_one _) (show 0 + 13 ≤ 13 by decide) (put_er _ _) ?_
                   intro W4 hf4 hb4
                   have HF4 := Lib.hid (ff4 HFe.out (HF2.out.fresh hf4 (fun i e => by have e : i = wr.heap.size := e; omega)))
                   have d0 : W4.cell? ⟨wr.heap.size, 0, none⟩ = some (.int .i64 e.off) := blkc hb4 0 _ rfl
                   have d2 : W4.cell? ⟨wr.heap.size, 2, none⟩ = some (.int .i64 e.save) := blkc hb4 2 _ rfl
                   have d3 : W4.cell? ⟨wr.heap.size, 3, none⟩ = some (strV e.rules) := blkc hb4 3 _ rfl
                   have d4 : W4.cell? ⟨wr.heap.size, 4, none⟩ = some (strV e.format) := blkc hb4 4 _ rfl
                   have d11 : W4.cell? ⟨wr.heap.size, 11, none⟩ = some (.int .i64 e.til.at_.s) := blkc hb4 11 _ rfl
                   clear hf4 hb4 HF2 HBz))
              go_roundg (v.eras.length - (i + 1))
              case measure => omega
              case rel => exact ⟨i + 1, by go_num, by omega, HSt.out, HF4.out⟩
            · have HN := Lib.hid (show ¬ LightZ v from fun h => hP (h.2.2.2 e (List.mem_of_getElem? HE.out)))
              have h9 : e.off < -100000 ∨ (-100000 ≤ e.off ∧ 100000 < e.off) ∨ (-100000 ≤ e.off ∧ e.off ≤ 100000 ∧ e.save < -100000) ∨ (-100000 ≤ e.off ∧ e.off ≤ 100000 ∧ -100000 ≤ e.save ∧ 100000 < e.save) ∨
                  (-100000 ≤ e.off ∧ e.off ≤ 100000 ∧ -100000 ≤ e.save ∧ e.save ≤ 100000 ∧ (e.til.at_.s < -700000 ∨ (-700000 ≤ e.til.at_.s ∧ (700000 < e.til.at_.s ∨ (e.til.at_.s ≤ 700000 ∧ (100 < (e.rules.length : Int) ∨ ((e.rules.length : Int) ≤ 100 ∧ 100 < (e.format.length : Int)))))))) := by
                unfold OkE at hP; omega
              clear hP
              rcases h9 with k1 | ⟨k1, k2⟩ | ⟨k1, k2, k3⟩ | ⟨k1, k2, k3, k4⟩ | ⟨k1, k2, k3, k4, k5 | ⟨k5, k6 | ⟨k6, k7 | ⟨k7, k8⟩⟩⟩⟩
              all_goals
                go_wp2_with (first
                  | ((with_reducible refine at_load4 44 ?_); refine wpList_load_at 44 _ b (off + i * 13) (eraC e) _ (by rfl) rfl rfl HCx.out Tryd.underlying44 rfl (infoE _) ?_)
                  | ((with_reducible refine at_store4 44 ?_); refine wpList_store_blk 44 _ _ wr.heap.size 0 44 (eraC eraZ) (eraC e) (eraC e) (by rfl) rfl rfl rfl rfl HBz.out (infoE _) (eraC_one _) (show 0 + 13 ≤ 13 by decide) (put_er _ _) ?_
                     intro W4 hf4 hb4
                     have HF4 := Lib.hid (ff4 HFe.out (HF2.out.fresh hf4 (fun i e => by have e : i = wr.heap.size := e; omega)))
                     have d0 : W4.cell? ⟨wr.heap.size, 0, none⟩ = some (.int .i64 e.off) := blkc hb4 0 _ rfl
                     have d2 : W4.cell? ⟨wr.heap.size, 2, none⟩ = some (.int .i64 e.save) := blkc hb4 2 _ rfl
                     have d3 : W4.cell? ⟨wr.heap.size, 3, none⟩ = some (strV e.rules) := blkc hb4 3 _ rfl
                     have d4 : W4.cell? ⟨wr.heap.size, 4, none⟩ = some (strV e.format) := blkc hb4 4 _ rfl
                     have d11 : W4.cell? ⟨wr.heap.size, 11, none⟩ = some (.int .i64 e.til.at_.s) := blkc hb4 11 _ rfl
                     clear hf4 hb4 HF2 HBz))
                go_ret
                exact ⟨by rw [decide_eq_false HN.out]; rfl, ff4 HF1.out HF4.out⟩
          · obtain rfl : i = v.eras.length := by omega
            have HY := Lib.hid (show LightZ v from ⟨HQ.out.1, HQ.out.2, HZa.out, fun e he => by
              obtain ⟨k, hk⟩ := List.mem_iff_getElem?.1 he
              exact hok k e (List.getElem?_eq_some_iff.1 hk).1 hk⟩)
            clear hok hf
            go_wp2_with fail
            go_ret
            exact ⟨by rw [decide_eq_true HY.out]; rfl, ff4 HF1.out HFe.out⟩
end Go.Proofs.YtpjmmnhmhjpkkaaDoor
namespace Go.Proofs.YtpjmmnhmhjpkkaaDoor
open Go.RowKit Go.Mem Go.Lin Go.WideShapes Go.Xpd Go.Den

theorem cells_eras : Tryd.prog.cellsOf 22 = 1 := by kernel_rfl
theorem cells_russ : Tryd.prog.cellsOf 23 = 1 := by kernel_rfl
theorem cells_zn : Tryd.prog.cellsOf 25 = 2 := by kernel_rfl
theorem array2 {α : Type} {cs : Array α} (h : cs.size = 2) : ∃ c0 c1, cs = #[c0, c1] := by
  obtain ⟨l⟩ := cs
  match l, h with
  | [c0, c1], _ => exact ⟨c0, c1, rfl⟩
section
variable {H : Type} {enc : TypeId × Value → H} {w : World} {base : Nat} {spare : Nat → Bool} {held : Bool}
set_option maxRecDepth 100000 in
/-- a zone that came in -/
theorem open_zn {r : Reach} {b0 : Nat} {v : Value} {d : DataW H} {p : List MemPlace} (hv : Value.okWide Tryd.prog w r b0 25 v) (h : DataW.Trod enc Tryd.prog w base spare held 25 v d p) :
    ∃ x : ZnV, v = .agg (zoneC x) ∧ ZnAt w x ∧ ZnR x := by
  obtain ⟨cs, rfl, hsz⟩ := okWide_struct Tryd.underlying25 hv
  obtain ⟨c0, c1, rfl⟩ := array2 (hsz.trans cells_zn)
  obtain ⟨fuel, hf⟩ := h
  have hf : DataW.trod enc Tryd.prog w base spare held fuel 25 [c0, c1] = some (d, p) := by simpa [Value.cells] using hf
  obtain ⟨xs, m, -, -, -, hlen, hf⟩ := DataW.trod_struct Tryd.underlying25 hf
  obtain ⟨y0, g0⟩ := fld hlen hf 0 _ rfl
  simp only [List.getElem_toArray, List.getElem_cons_zero, cells_eras, List.drop_zero, List.take_succ_cons, List.take_zero] at g0
  obtain ⟨y1, g1⟩ := fld hlen hf 1 _ rfl
  simp only [List.getElem_toArray, List.getElem_cons_zero, List.getElem_cons_succ, cells_russ, List.drop_succ_cons, List.drop_zero, List.take_succ_cons, List.take_zero] at g1
  have e0 : ∃ a n c, c0 = .slice a n c := by
    rcases Go.Deep.open_slice Tryd.underlying22 g0 with ⟨hcs, -⟩ | ⟨ad', l', c', m', n', D', Pl', hcs, -⟩
    · simp at hcs; exact ⟨_, _, _, hcs⟩
    · simp at hcs; exact ⟨_, _, _, hcs⟩
  have e1 : ∃ a n c, c1 = .slice a n c := by
    rcases Go.Deep.open_slice Tryd.underlying23 g1 with ⟨hcs, -⟩ | ⟨ad', l', c', m', n', D', Pl', hcs, -⟩
    · simp at hcs; exact ⟨_, _, _, hcs⟩
    · simp at hcs; exact ⟨_, _, _, hcs⟩
  obtain ⟨Ae, ne, ce, rfl⟩ := e0
  obtain ⟨Ar, nr, cr, rfl⟩ := e1
  obtain ⟨l, h1, rfl, h3, h4⟩ := eras_in g0
  obtain ⟨Z, k1, rfl, k3, k4⟩ := russ_in g1
  exact ⟨⟨Ae, ce, l, Ar, cr, Z⟩, rfl, ⟨h1, k1⟩, ⟨fun x hx => ⟨(k4 x hx).2.1, (k4 x hx).2.2⟩, h4, h3, k3⟩⟩
end
end Go.Proofs.YtpjmmnhmhjpkkaaDoor
namespace Go.Proofs.YtpjmmnhmhjpkkaaDoor
open Go.RowKit Go.Mem Go.Lin Go.Xpd Go.Den

theorem infoZn (v : ZnV) : (Tryd.prog.info? 25).map (·.size) = some (zoneC v).size := show _ = some 2 by kernel_rfl
theorem infoTl (u : UntilL) : (Tryd.prog.info? 42).map (·.size) = some (tilC u).size := show _ = some 8 by kernel_rfl
theorem part_til (e : EraL) : ∀ j, j < (tilC e.til).size → (eraC e)[5 + j]? = (tilC e.til)[j]? := by
  intro j hj
  have hj : j < 8 := hj
  match j, hj with
  | 0, _ => rfl
  | 1, _ => rfl
  | 2, _ => rfl
  | 3, _ => rfl
  | 4, _ => rfl
  | 5, _ => rfl
  | 6, _ => rfl
  | 7, _ => rfl
end Go.Proofs.YtpjmmnhmhjpkkaaDoor
namespace Go.Proofs.YtpjmmnhmhjpkkaaDoor
open Go.RowKit Go.Mem Go.Lin Go.Xpd Go.Den

/- why a zone isn't right, as a walk finds it -/
def LenOk (v : ZnV) : Prop := 1 ≤ v.eras.length ∧ v.eras.length ≤ 8 ∧ v.Z.length = v.eras.length
def ErasOk (v : ZnV) (i : Nat) : Prop := ∀ (j : Nat) (e : EraL) (x : RuV), j < i → v.eras[j]? = some e → v.Z[j]? = some x → eraOk e x.l
def OpensOk (v : ZnV) (i : Nat) : Prop := ∀ (j : Nat) (e : EraL), j < i → v.eras[j]? = some e → e.til.has = decide (j + 1 < v.eras.length)
theorem right_len {v : ZnV} (h : ¬ LenOk v) : rightD (znD v) = 1 := by
  unfold rightD
  refine if_pos ?_
  show v.eras.length < 1 ∨ 8 < v.eras.length ∨ (v.Z.map RuV.l).length ≠ v.eras.length
  rw [List.length_map]
  unfold LenOk at h
  omega
theorem right_len' {v : ZnV} (h : LenOk v) : ¬ ((znD v).eras.length < 1 ∨ 8 < (znD v).eras.length ∨ (znD v).rules.length ≠ (znD v).eras.length) := by
  show ¬ (v.eras.length < 1 ∨ 8 < v.eras.length ∨ (v.Z.map RuV.l).length ≠ v.eras.length)
  rw [List.length_map]
  unfold LenOk at h
  omega
theorem zip_at {v : ZnV} {p : EraL × List RuleL} (h : p ∈ (znD v).eras.zip (znD v).rules) : ∃ (i : Nat) (x : RuV), v.eras[i]? = some p.1 ∧ v.Z[i]? = some x ∧ p.2 = x.l := by
  obtain ⟨i, hi⟩ := List.mem_iff_getElem?.1 h
  rw [List.getElem?_zip_eq_some] at hi
  obtain ⟨h1, h2⟩ := hi
  have h2 : (v.Z.map RuV.l)[i]? = some p.2 := h2
  rw [List.getElem?_map] at h2
  cases hx : v.Z[i]? with
  | none => rw [hx] at h2; cases h2
  | some x => rw [hx] at h2; exact ⟨i, x, h1, hx, (Option.some.inj h2).symm⟩
theorem right_bad {v : ZnV} (hl : LenOk v) {i : Nat} {e : EraL} {x : RuV} (he : v.eras[i]? = some e) (hx : v.Z[i]? = some x) (hb : ¬ eraOk e x.l) : rightD (znD v) = 1 := by
  unfold rightD
  rw [if_neg (right_len' hl)]
  refine if_pos fun hc => hb (hc (e, x.l) ?_)
  refine List.mem_iff_getElem?.2 ⟨i, ?_⟩
  rw [List.getElem?_zip_eq_some]
  refine ⟨he, ?_⟩
  show (v.Z.map RuV.l)[i]? = some x.l
  rw [List.getElem?_map, hx]
  rfl
theorem eras_all {v : ZnV} (_hl : LenOk v) (h : ErasOk v v.eras.length) : ∀ p ∈ (znD v).eras.zip (znD v).rules, eraOk p.1 p.2 := by
  intro p hp
  obtain ⟨i, x, h1, h2, h3⟩ := zip_at hp
  rw [h3]
  exact h i p.1 x (List.getElem?_eq_some_iff.1 h1).1 h1 h2
theorem right_open {v : ZnV} (hl : LenOk v) (h : ErasOk v v.eras.length) {i : Nat} {e : EraL} (he : v.eras[i]? = some e) (hb : e.til.has ≠ decide (i + 1 < v.eras.length)) : rightD (znD v) = 21 := by
  unfold rightD
  rw [if_neg (right_len' hl), if_neg (fun hc => hc (eras_all hl h))]
  refine if_pos fun hc => hb ?_
  have := hc i (List.mem_range.2 (List.getElem?_eq_some_iff.1 he).1)
  have h2 : (v.eras[i]?).map (fun e => e.til.has) = some (decide (i + 1 < v.eras.length)) := this
  rw [he] at h2
  exact Option.some.inj h2
theorem opens_all {v : ZnV} (h : OpensOk v v.eras.length) : ∀ i ∈ List.range (znD v).eras.length, ((znD v).eras[i]?).map (fun e => e.til.has) = some (decide (i + 1 < (znD v).eras.length)) := by
  intro i hi
  have hi : i < v.eras.length := List.mem_range.1 hi
  show (v.eras[i]?).map (fun e => e.til.has) = some (decide (i + 1 < v.eras.length))
  rw [List.getElem?_eq_getElem hi]
  exact congrArg some (h i _ hi (List.getElem?_eq_getElem hi))
theorem right_fall {v : ZnV} (hl : LenOk v) (h : ErasOk v v.eras.length) (ho : OpensOk v v.eras.length) {i : Nat} (hi : i + 2 < v.eras.length) (hb : endD (znD v) (i + 1) ≤ endD (znD v) i) : rightD (znD v) = 14 := by
  unfold rightD
  rw [if_neg (right_len' hl), if_neg (fun hc => hc (eras_all hl h)), if_neg (fun hc => hc (opens_all ho))]
  refine if_pos ?_
  rw [List.all_eq_false]
  exact ⟨i, List.mem_range.2 (by show i < v.eras.length - 2; omega), by simp; omega⟩
theorem right_fine {v : ZnV} (hl : LenOk v) (h : ErasOk v v.eras.length) (ho : OpensOk v v.eras.length) (hr : ∀ j, j + 2 < v.eras.length → endD (znD v) j < endD (znD v) (j + 1)) : rightD (znD v) = 0 := by
  unfold rightD
  rw [if_neg (right_len' hl), if_neg (fun hc => hc (eras_all hl h)), if_neg (fun hc => hc (opens_all ho))]
  refine if_neg ?_
  rw [List.all_eq_false]
  rintro ⟨j, hj, hb⟩
  have hj : j < v.eras.length - 2 := List.mem_range.1 hj
  exact hb (decide_eq_true (hr j (by omega)))
theorem ErasOk.step {v : ZnV} {i : Nat} {e : EraL} {x : RuV} (h : ErasOk v i) (he : v.eras[i]? = some e) (hx : v.Z[i]? = some x) (ho : eraOk e x.l) : ErasOk v (i + 1) := by
  intro j e' x' hj h1 h2
  by_cases c : j = i
  · subst c
    rw [he] at h1
    rw [hx] at h2
    cases h1
    cases h2
    exact ho
  · exact h j e' x' (by omega) h1 h2
theorem OpensOk.step {v : ZnV} {i : Nat} {e : EraL} (h : OpensOk v i) (he : v.eras[i]? = some e) (ho : e.til.has = decide (i + 1 < v.eras.length)) : OpensOk v (i + 1) := by
  intro j e' hj h1
  by_cases c : j = i
  · subst c
    rw [he] at h1
    cases h1
    exact ho
  · exact h j e' (by omega) h1
end Go.Proofs.YtpjmmnhmhjpkkaaDoor
namespace Go.Proofs.YtpjmmnhmhjpkkaaDoor
open Go.RowKit Go.Mem Go.Lin Go.Xpd Go.Den

/- a state in its cells -/
def stateC (s : StateD) : Array Value := #[intV s.era, intV s.save, strV s.letter]
abbrev stateV (s : StateD) : Value := .agg (stateC s)
def st0 : StateD := ⟨0, 0, []⟩
theorem stateC_one (s : StateD) : (stateC s).all (·.oneCell') = true := by simp [stateC, Value.oneCell']
theorem put_st (s t : StateD) : setMany (stateC s) 0 (stateC t).toList = stateC t := put_all rfl
theorem right_zero {v : ZnV} (h : rightD (znD v) = 0) : LenOk v := by
  by_cases hl : LenOk v
  · exact hl
  · rw [right_len hl] at h; exact absurd h (by decide)
theorem atD_bad {v : ZnV} {t : Int} (h : rightD (znD v) ≠ 0) : atD (znD v) t = (st0, rightD (znD v)) := if_pos h
theorem atD_far {v : ZnV} {t : Int} (h : rightD (znD v) = 0) (hr : reachY t = none) : atD (znD v) t = (st0, 2) := by
  unfold atD
  rw [if_neg (by rw [h]; decide), hr]
  rfl
theorem atD_in {v : ZnV} {t y : Int} (h : rightD (znD v) = 0) (hr : reachY t = some y) {i : Nat} (hi : eraAt (znD v) t 0 (v.eras.length - 1) = i) : atD (znD v) t = (⟨i, (eraS (znD v) i t).1, (eraS (znD v) i t).2⟩, 0) := by
  unfold atD
  rw [if_neg (by rw [h]; decide), hr]
  show ((⟨(eraAt (znD v) t 0 (v.eras.length - 1) : Nat), (eraS (znD v) (eraAt (znD v) t 0 (v.eras.length - 1)) t).1, (eraS (znD v) (eraAt (znD v) t 0 (v.eras.length - 1)) t).2⟩ : StateD), (0 : Int)) = _
  rw [hi]
end Go.Proofs.YtpjmmnhmhjpkkaaDoor
