import Derived.Test.YtbkjafaijkmpfaaDoorYa10
import Derived.Test.YtbkjafaijkmpfaaDoorYa12
import Derived.BigQuiet
import Derived.Test.YtbkjafaijkmpfaaDoorYa07
import Derived.Lib.MinMax
import Derived.Test.YtbkjafaijkmpfaaDoorYa11
import Derived.Great.BuildSlice
import Derived.Deep.QuietTactic
import Derived.Deep.LoopGhost
import Derived.Sort.Grow
import Derived.Deep.RegionHeld3
namespace Go.Proofs.YtbkjafaijkmpfaaDoor
open Go.RowKit Go.Mem Go.Lin Go.Xpd

/-- what Light asks of a rule -/
def OkF (r : RuleL) : Prop := -700000 ≤ r.at_.s ∧ r.at_.s ≤ 700000 ∧ -100000 ≤ r.save ∧ r.save ≤ 100000 ∧ r.letter.length ≤ 50 ∧ -20000 ≤ r.fr ∧ r.fr ≤ 20000 ∧ -20000 ≤ r.to ∧ r.to ≤ 20000
instance (r : RuleL) : Decidable (OkF r) := by unfold OkF; infer_instance
def LightP (l : List RuleL) (n : Nat) : Prop := l.length ≤ n ∧ ∀ r ∈ l, OkF r
instance (l : List RuleL) (n : Nat) : Decidable (LightP l n) := by unfold LightP; infer_instance
theorem OkF.okR {r : RuleL} (h : OkF r) : OkR r := by
  obtain ⟨h1, h2, h3, h4, h5, h6, h7, h8, h9⟩ := h
  exact ⟨⟨h1, h2⟩, ⟨h6, h7⟩, ⟨h8, h9⟩⟩
set_option maxHeartbeats 1600000 in
set_option maxRecDepth 100000 in
theorem Light_any (l : List RuleL) (A : Option Addr) (cap n : Nat) (w : World) (hl : RusAt w A l) (hn : n ≤ 1000) (_hm : l.length ≤ maxLen) (hr : ∀ r ∈ l, RuR r) :
    Calls Tryd.prog 7 #[.slice A l.length cap, intV n] w fun e w' => e = .returned (.bool (decide (LightP l n))) ∧ Fr w w' (fun _ => False) := by
  have HL := Lib.hid hl
  have HR := Lib.hid hr
  clear hl hr
  by_cases hgt : n < l.length
  · have h1 : (n : Int) < (l.length : Int) := by omega
    have HN := Lib.hid (show ¬ LightP l n from fun h => by have := h.1; omega)
    clear hgt
    go_enter Tryd.func7, Tryd.ntmps7
    go_wp2_with fail
    go_ret
    exact ⟨by rw [decide_eq_false HN.out]; rfl, Fr.refl _ _⟩
  · have h1 : (l.length : Int) ≤ (n : Int) := by omega
    go_enter Tryd.func7, Tryd.ntmps7
    go_wp2_with fail
    go_loopg [5, 6, 7] l.length (fun k v5 _ _ wr => ∃ i : Nat, i + k = l.length ∧ v5 = intV i ∧ (∀ r ∈ l.take i, OkF r) ∧ Fr w wr (fun _ => False))
    case atStart => exact ⟨0, by simp, rfl, by simp, Fr.refl _ _⟩
    case round =>
      obtain ⟨i, hi, rfl, hp, hf⟩ := hrel
      have HF := Lib.hid hf
      have HP := Lib.hid hp
      by_cases hlt : i < l.length
      · obtain ⟨r, hri⟩ : ∃ r, l[i]? = some r := ⟨l[i], List.getElem?_eq_getElem hlt⟩
        obtain ⟨b, off, hA, hc⟩ := (HL.out.kept hf).at_ hri
        subst hA
        have hrr := HR.out r (List.mem_of_getElem? hri)
        have hll := hrr.letter
        have i0 : (i : Int) < (l.length : Int) := by omega
        have c1 : wr.cell? ⟨b, off + i * 11 + 1, none⟩ = some (.int .i64 r.fr) := hc 1 (show 1 < 11 by decide)
        have c2 : wr.cell? ⟨b, off + i * 11 + 2, none⟩ = some (.int .i64 r.to) := hc 2 (show 2 < 11 by decide)
        have c7 : wr.cell? ⟨b, off + i * 11 + 7, none⟩ = some (.int .i64 r.at_.s) := hc 7 (show 7 < 11 by decide)
        have c9 : wr.cell? ⟨b, off + i * 11 + 9, none⟩ = some (.int .i64 r.save) := hc 9 (show 9 < 11 by decide)
        have c10 : wr.cell? ⟨b, off + i * 11 + 10, none⟩ = some (strV r.letter) := hc 10 (show 10 < 11 by decide)
        have hsz := S6.str_size r.letter
        by_cases hok : OkF r
        · have HN := Lib.hid (show ∀ x ∈ l.take (i + 1), OkF x by
            rw [List.take_add_one, hri]
            intro x hx
            rcases List.mem_append.1 hx with hx | hx
            · exact HP.out x hx
            · have hx : x = r := by simpa using hx
              rw [hx]; exact hok)
          obtain ⟨k1, k2, k3, k4, k5, k6, k7, k8, k9⟩ := hok
          have k5 : (r.letter.length : Int) ≤ 50 := by omega
          clear hri hf hp hc hrr
          go_wp2_with fail
          go_quiet (fail)
          go_wp2_with fail
          go_roundg (l.length - (i + 1))
          case measure => omega
          case rel => exact ⟨i + 1, by omega, by go_num, HN.out, ff4 HF.out (Fr.drewN _ _ _)⟩
        · have HN := Lib.hid (show ¬ LightP l n from fun h => hok (h.2 r (List.mem_of_getElem? hri)))
          have h9 : r.at_.s < -700000 ∨ (-700000 ≤ r.at_.s ∧ 700000 < r.at_.s) ∨ (-700000 ≤ r.at_.s ∧ r.at_.s ≤ 700000 ∧ r.save < -100000) ∨ (-700000 ≤ r.at_.s ∧ r.at_.s ≤ 700000 ∧ -100000 ≤ r.save ∧ 100000 < r.save) ∨
              (-700000 ≤ r.at_.s ∧ r.at_.s ≤ 700000 ∧ -100000 ≤ r.save ∧ r.save ≤ 100000 ∧ (50 < (r.letter.length : Int) ∨ ((r.letter.length : Int) ≤ 50 ∧ (r.fr < -20000 ∨ (-20000 ≤ r.fr ∧ (20000 < r.fr ∨ (r.fr ≤ 20000 ∧ (r.to < -20000 ∨ (-20000 ≤ r.to ∧ 20000 < r.to))))))))) := by
            unfold OkF at hok; omega
          clear hok hri hf hp hc hrr
          rcases h9 with k1 | ⟨k1, k2⟩ | ⟨k1, k2, k3⟩ | ⟨k1, k2, k3, k4⟩ | ⟨k1, k2, k3, k4, k5 | ⟨k5, k6 | ⟨k6, k7 | ⟨k7, k8 | ⟨k8, k9⟩⟩⟩⟩⟩
          all_goals
            go_wp2_with fail
            go_quiet (fail)
            go_wp2_with fail
            go_ret
            exact ⟨by rw [decide_eq_false HN.out]; rfl, ff4 HF.out (Fr.drewN _ _ _)⟩
      · obtain rfl : i = l.length := by omega
        have HN := Lib.hid (show LightP l n from ⟨by omega, fun r hr => hp r (by rw [List.take_length]; exact hr)⟩)
        clear hf hp
        go_wp2_with fail
        go_ret
        exact ⟨by rw [decide_eq_true HN.out]; rfl, HF.out⟩
end Go.Proofs.YtbkjafaijkmpfaaDoor
namespace Go.Proofs.YtbkjafaijkmpfaaDoor
open Go.RowKit Go.Mem Go.Lin Go.Xpd

section
variable {P : Program} {ops : Array Oper} {rest : List Oper} {a : Act} {w : World} {Q : Exit → Act → World → Prop}
theorem at_load4 {d : Option Tmp} {x : Operand} {ty : TypeId} {pos : String} {af : Array Edge} {g : Option (Nat × Bool)} (t : TypeId) (h : wpList P ops Q (⟨d, .load t x, ty, pos, af, g⟩ :: rest) a w) : wpList P ops Q (⟨d, .load t x, ty, pos, af, g⟩ :: rest) a w := h
end
/- a seat in its cells -/
def seatC (r : RuleL) (p : Int) : Array Value := #[strV r.name, intV r.fr, intV r.to, intV r.month, intV r.on.k, intV r.on.d, intV r.on.w, intV r.at_.s, intV r.at_.k, intV r.save, strV r.letter, intV p]
theorem part_seat (r : RuleL) (p : Int) : ∀ j, j < (ruleC r).size → (seatC r p)[0 + j]? = (ruleC r)[j]? := by
  intro j hj
  have hj : j < 11 := hj
  match j, hj with
  | 0, _ => rfl
  | 1, _ => rfl
  | 2, _ => rfl
  | 3, _ => rfl
  | 4, _ => rfl
  | 5, _ => rfl
  | 6, _ => rfl
  | 7, _ => rfl
  | 8, _ => rfl
  | 9, _ => rfl
  | 10, _ => rfl
theorem fireC_one (f : FireL) : (fireC f).all (·.oneCell') = true := by simp [fireC, Value.oneCell']
theorem infoXF (f : FireL) : (Tryd.prog.info? 36).map (·.size) = some (fireC f).size := show _ = some 4 by kernel_rfl
theorem put_fi (f g : FireL) : setMany (fireC f) 0 (fireC g).toList = fireC g := put_all rfl
def f0 : FireL := ⟨0, 0, 0, 0⟩
def fireO : Option FireL → Value
  | some f => .tuple #[fireV f, .bool true]
  | none => .tuple #[fireV f0, .bool false]
theorem results_fire (tmps : Array Value) (w : World) (q : Nat) (f : FireL) (v : Value) (h4 : tmps.getD 4 undef = .pointer (some ⟨q, 0, none⟩)) (h5 : tmps.getD 5 undef = v)
    (hb : Blk w q 36 (fireC f)) : (results Tryd.f18 tmps).run Tryd.prog w = .ok (.tuple #[fireV f, v]) w := by
  have h4' : tmps[4]?.getD undef = .pointer (some ⟨q, 0, none⟩) := by simpa using h4
  have h5' : tmps[5]?.getD undef = v := by simpa using h5
  have hL := run_loadVar_blk (P := Tryd.prog) w q 0 36 36 (fireC f) (fireC f) _ hb Tryd.underlying36 rfl (infoXF f) (zero_part _)
  simp [results, Tryd.results18, h4', h5', asAddr, hL]
theorem within_any (y : Int) (w : World) (_hy : -1000000 ≤ y ∧ y ≤ 1000000) : Calls Tryd.prog 19 #[intV y] w fun e w' => e = .returned (intV (withD y)) ∧ w' = w := by
  go_enter Tryd.func19, Tryd.ntmps19
  go_wp2_with fail
  go_ret
  exact ⟨rfl, rfl⟩
set_option maxHeartbeats 1600000 in
set_option maxRecDepth 100000 in
theorem fire_no (r : RuleL) (p y : Int) (w : World) (hw : S6.WOk w) (h : y < max r.fr 1 ∨ (¬ y < max r.fr 1 ∧ min r.to 9999 < y)) : Calls Tryd.prog 18 #[.agg (seatC r p), intV y] w fun e w' => e = .returned (fireO (fireR r p y)) ∧ Fr w w' (fun _ => False) := by
  have HE := Lib.hid (show fireR r p y = none by
    unfold fireR; rw [atR_no (fun hl => by unfold lasts at hl; omega)]; rfl)
  have HW := Lib.hid hw
  have hs1 : (w.alloc (.cells (seatC r p) 51)).heap.size = w.heap.size + 1 := by simp
  have hs2 : ((w.alloc (.cells (seatC r p) 51)).alloc (.cells #[.int .i64 0, .int .i64 0, .int .i64 0, .int .i64 0] 36)).heap.size = w.heap.size + 2 := by simp
  have n1 := Fr.new w (.cells (seatC r p) 51) (fun _ => False)
  have n2 := Fr.new (w.alloc (.cells (seatC r p) 51)) (.cells #[.int .i64 0, .int .i64 0, .int .i64 0, .int .i64 0] 36) (fun _ => False)
  have n3 := Fr.new ((w.alloc (.cells (seatC r p) 51)).alloc (.cells #[.int .i64 0, .int .i64 0, .int .i64 0, .int .i64 0] 36)) (.cells #[.string ⟨#[]⟩, .int .i64 0, .int .i64 0, .int .i64 0, .int .i64 0, .int .i64 0, .int .i64 0, .int .i64 0, .int .i64 0, .int .i64 0, .string ⟨#[]⟩] 42) (fun _ => False)
  have HBS := Lib.hid (n2.blk (Blk.made w 51 (seatC r p)) (fun h => h))
  have hbr := Blk.made (w.alloc (.cells (seatC r p) 51)) 36 (fireC f0)
  have hbz := Blk.made ((w.alloc (.cells (seatC r p) 51)).alloc (.cells #[.int .i64 0, .int .i64 0, .int .i64 0, .int .i64 0] 36)) 42 (ruleC ruleZ)
  rw [hs1] at hbr
  rw [hs2] at hbz
  have HBS3 := Lib.hid (n3.blk HBS.out (fun h => h))
  have HBR := Lib.hid (n3.blk hbr (fun h => h))
  have HBZ := Lib.hid hbz
  have HF3 := Lib.hid (ff4 n1 (ff4 n2 n3))
  clear n1 n2 n3 hbr hbz hs1 hs2 hw
  rcases h with h1 | ⟨h1, h2⟩
  · go_enter Tryd.func18, Tryd.ntmps18
    go_wp2_with (first
      | ((with_reducible refine at_load4 42 ?_); refine wpList_load_blk 42 _ w.heap.size 0 51 (seatC r p) (ruleC r) _ (by rfl) rfl rfl HBS.out Tryd.underlying42 rfl (infoR _) (part_seat r p) ?_)
      | ((with_reducible refine at_store4 42 ?_); refine wpList_store_blk 42 _ _ (w.heap.size + 2) 0 42 (ruleC ruleZ) (ruleC r) (ruleC r) (by rfl) rfl rfl rfl rfl HBZ.out (infoR _) (ruleC_one _) (show 0 + 11 ≤ 11 by decide) (put_ra _ _) ?_
         intro W1 hf1 hb1
         have HF := Lib.hid (HF3.out.fresh hf1 (fun i e => by have e : i = w.heap.size + 2 := e; omega))
         have HS1 := Lib.hid (hf1.blk HBS3.out (fun e => by have e : w.heap.size = w.heap.size + 2 := e; omega))
         have HR1 := Lib.hid (hf1.blk HBR.out (fun e => by have e : w.heap.size + 1 = w.heap.size + 2 := e; omega))
         have HB1 := Lib.hid hb1
         have c1 : W1.cell? ⟨w.heap.size + 2, 1, none⟩ = some (.int .i64 r.fr) := blkc hb1 1 _ rfl
         have c2 : W1.cell? ⟨w.heap.size + 2, 2, none⟩ = some (.int .i64 r.to) := blkc hb1 2 _ rfl
         have c3 : W1.cell? ⟨w.heap.size + 2, 3, none⟩ = some (.int .i64 r.month) := blkc hb1 3 _ rfl
         have c4 : W1.cell? ⟨w.heap.size + 2, 4, none⟩ = some (.int .i64 r.on.k) := blkc hb1 4 _ rfl
         have c5 : W1.cell? ⟨w.heap.size + 2, 5, none⟩ = some (.int .i64 r.on.d) := blkc hb1 5 _ rfl
         have c6 : W1.cell? ⟨w.heap.size + 2, 6, none⟩ = some (.int .i64 r.on.w) := blkc hb1 6 _ rfl
         clear hf1 hb1 HBS HBZ HBS3 HBR HF3)
      | ((with_reducible refine at_store4 36 ?_); refine wpList_store_blk 36 _ _ (w.heap.size + 1) 0 36 (fireC f0) (fireC f0) (fireC f0) (by rfl) rfl rfl rfl rfl HR1.out (infoXF _) (fireC_one _) (show 0 + 4 ≤ 4 by decide) (put_fi _ _) ?_
         intro W2 hf2 hb2
         have HF2 := Lib.hid (HF.out.fresh hf2 (fun i e => by have e : i = w.heap.size + 1 := e; omega))
         have HB2 := Lib.hid hb2
         clear hf2 hb2))
    exact bodyPost_ret (results_fire _ _ (w.heap.size + 1) f0 (.bool false) rfl rfl HB2.out) rfl ⟨by rw [HE.out]; rfl, HF2.out⟩
  · go_enter Tryd.func18, Tryd.ntmps18
    go_wp2_with (first
      | ((with_reducible refine at_load4 42 ?_); refine wpList_load_blk 42 _ w.heap.size 0 51 (seatC r p) (ruleC r) _ (by rfl) rfl rfl HBS.out Tryd.underlying42 rfl (infoR _) (part_seat r p) ?_)
      | ((with_reducible refine at_store4 42 ?_); refine wpList_store_blk 42 _ _ (w.heap.size + 2) 0 42 (ruleC ruleZ) (ruleC r) (ruleC r) (by rfl) rfl rfl rfl rfl HBZ.out (infoR _) (ruleC_one _) (show 0 + 11 ≤ 11 by decide) (put_ra _ _) ?_
         intro W1 hf1 hb1
         have HF := Lib.hid (HF3.out.fresh hf1 (fun i e => by have e : i = w.heap.size + 2 := e; omega))
         have HS1 := Lib.hid (hf1.blk HBS3.out (fun e => by have e : w.heap.size = w.heap.size + 2 := e; omega))
         have HR1 := Lib.hid (hf1.blk HBR.out (fun e => by have e : w.heap.size + 1 = w.heap.size + 2 := e; omega))
         have HB1 := Lib.hid hb1
         have c1 : W1.cell? ⟨w.heap.size + 2, 1, none⟩ = some (.int .i64 r.fr) := blkc hb1 1 _ rfl
         have c2 : W1.cell? ⟨w.heap.size + 2, 2, none⟩ = some (.int .i64 r.to) := blkc hb1 2 _ rfl
         have c3 : W1.cell? ⟨w.heap.size + 2, 3, none⟩ = some (.int .i64 r.month) := blkc hb1 3 _ rfl
         have c4 : W1.cell? ⟨w.heap.size + 2, 4, none⟩ = some (.int .i64 r.on.k) := blkc hb1 4 _ rfl
         have c5 : W1.cell? ⟨w.heap.size + 2, 5, none⟩ = some (.int .i64 r.on.d) := blkc hb1 5 _ rfl
         have c6 : W1.cell? ⟨w.heap.size + 2, 6, none⟩ = some (.int .i64 r.on.w) := blkc hb1 6 _ rfl
         clear hf1 hb1 HBS HBZ HBS3 HBR HF3)
      | ((with_reducible refine at_store4 36 ?_); refine wpList_store_blk 36 _ _ (w.heap.size + 1) 0 36 (fireC f0) (fireC f0) (fireC f0) (by rfl) rfl rfl rfl rfl HR1.out (infoXF _) (fireC_one _) (show 0 + 4 ≤ 4 by decide) (put_fi _ _) ?_
         intro W2 hf2 hb2
         have HF2 := Lib.hid (HF.out.fresh hf2 (fun i e => by have e : i = w.heap.size + 1 := e; omega))
         have HB2 := Lib.hid hb2
         clear hf2 hb2))
    exact bodyPost_ret (results_fire _ _ (w.heap.size + 1) f0 (.bool false) rfl rfl HB2.out) rfl ⟨by rw [HE.out]; rfl, HF2.out⟩
set_option maxHeartbeats 1600000 in
set_option maxRecDepth 100000 in
theorem fire_of (r : RuleL) (p y n j : Int) (w : World) (hw : S6.WOk w) (h1 : ¬ y < max r.fr 1) (h2 : ¬ min r.to 9999 < y) (hof : S6.ofD r.on.k r.on.d r.on.w y r.month = (n, j)) (hn : j = 0 → -4371600 ≤ n ∧ n < 2932910) (hs : -700000 ≤ r.at_.s ∧ r.at_.s ≤ 700000) :
    Calls Tryd.prog 18 #[.agg (seatC r p), intV y] w fun e w' => e = .returned (fireO (if j = 0 then some ⟨p, y, n * 86400 + r.at_.s, 0⟩ else none)) ∧ Fr w w' (fun _ => False) := by
  have HQ := Lib.hid (fun (W : World) (f : Fr w W (fun _ => False)) => S6.Of_any r.on.k r.on.d r.on.w y r.month W (hw.fr f) n j hof)
  have HW := Lib.hid hw
  have hs1 : (w.alloc (.cells (seatC r p) 51)).heap.size = w.heap.size + 1 := by simp
  have hs2 : ((w.alloc (.cells (seatC r p) 51)).alloc (.cells #[.int .i64 0, .int .i64 0, .int .i64 0, .int .i64 0] 36)).heap.size = w.heap.size + 2 := by simp
  have n1 := Fr.new w (.cells (seatC r p) 51) (fun _ => False)
  have n2 := Fr.new (w.alloc (.cells (seatC r p) 51)) (.cells #[.int .i64 0, .int .i64 0, .int .i64 0, .int .i64 0] 36) (fun _ => False)
  have n3 := Fr.new ((w.alloc (.cells (seatC r p) 51)).alloc (.cells #[.int .i64 0, .int .i64 0, .int .i64 0, .int .i64 0] 36)) (.cells #[.string ⟨#[]⟩, .int .i64 0, .int .i64 0, .int .i64 0, .int .i64 0, .int .i64 0, .int .i64 0, .int .i64 0, .int .i64 0, .int .i64 0, .string ⟨#[]⟩] 42) (fun _ => False)
  have HBS := Lib.hid (n2.blk (Blk.made w 51 (seatC r p)) (fun h => h))
  have hbr := Blk.made (w.alloc (.cells (seatC r p) 51)) 36 (fireC f0)
  have hbz := Blk.made ((w.alloc (.cells (seatC r p) 51)).alloc (.cells #[.int .i64 0, .int .i64 0, .int .i64 0, .int .i64 0] 36)) 42 (ruleC ruleZ)
  rw [hs1] at hbr
  rw [hs2] at hbz
  have HBS3 := Lib.hid (n3.blk HBS.out (fun h => h))
  have HBR := Lib.hid (n3.blk hbr (fun h => h))
  have HBZ := Lib.hid hbz
  have HF3 := Lib.hid (ff4 n1 (ff4 n2 n3))
  clear n1 n2 n3 hbr hbz hs1 hs2 hw
  by_cases hj : j = 0
  · subst hj
    obtain ⟨hn1, hn2⟩ := hn rfl
    obtain ⟨hs1, hs2⟩ := hs
    clear hn hof
    go_enter Tryd.func18, Tryd.ntmps18
    go_wp2_with (first
      | ((with_reducible refine at_load4 42 ?_); refine wpList_load_blk 42 _ w.heap.size 0 51 (seatC r p) (ruleC r) _ (by rfl) rfl rfl HBS.out Tryd.underlying42 rfl (infoR _) (part_seat r p) ?_)
      | ((with_reducible refine at_store4 42 ?_); refine wpList_store_blk 42 _ _ (w.heap.size + 2) 0 42 (ruleC ruleZ) (ruleC r) (ruleC r) (by rfl) rfl rfl rfl rfl HBZ.out (infoR _) (ruleC_one _) (show 0 + 11 ≤ 11 by decide) (put_ra _ _) ?_
         intro W1 hf1 hb1
         have HF := Lib.hid (HF3.out.fresh hf1 (fun i e => by have e : i = w.heap.size + 2 := e; omega))
         have HS1 := Lib.hid (hf1.blk HBS3.out (fun e => by have e : w.heap.size = w.heap.size + 2 := e; omega))
         have HR1 := Lib.hid (hf1.blk HBR.out (fun e => by have e : w.heap.size + 1 = w.heap.size + 2 := e; omega))
         have HB1 := Lib.hid hb1
         have c1 : W1.cell? ⟨w.heap.size + 2, 1, none⟩ = some (.int .i64 r.fr) := blkc hb1 1 _ rfl
         have c2 : W1.cell? ⟨w.heap.size + 2, 2, none⟩ = some (.int .i64 r.to) := blkc hb1 2 _ rfl
         have c3 : W1.cell? ⟨w.heap.size + 2, 3, none⟩ = some (.int .i64 r.month) := blkc hb1 3 _ rfl
         have c4 : W1.cell? ⟨w.heap.size + 2, 4, none⟩ = some (.int .i64 r.on.k) := blkc hb1 4 _ rfl
         have c5 : W1.cell? ⟨w.heap.size + 2, 5, none⟩ = some (.int .i64 r.on.d) := blkc hb1 5 _ rfl
         have c6 : W1.cell? ⟨w.heap.size + 2, 6, none⟩ = some (.int .i64 r.on.w) := blkc hb1 6 _ rfl
         clear hf1 hb1 HBS HBZ HBS3 HBR HF3))
    refine (HQ.out _ HF.out).mono ?_
    rintro e w5 ⟨rfl, hf5⟩
    have HF5 := Lib.hid (ff4 HF.out hf5)
    have HR5 := Lib.hid (hf5.blk HR1.out (fun h => h))
    have hb5 := hf5.blk HB1.out (fun h => h)
    have hs5 := hf5.blk HS1.out (fun h => h)
    have c7 : w5.cell? ⟨w.heap.size + 2, 7, none⟩ = some (.int .i64 r.at_.s) := blkc hb5 7 _ rfl
    have c11 : w5.cell? ⟨w.heap.size, 11, none⟩ = some (.int .i64 p) := blkc hs5 11 _ rfl
    clear hf5 hb5 hs5 c1 c2 c3 c4 c5 c6
    go_wp2_with (
      ((with_reducible refine at_store4 36 ?_); refine wpList_store_blk 36 _ _ (w.heap.size + 1) 0 36 (fireC f0) (fireC ⟨p, y, n * 86400 + r.at_.s, 0⟩) (fireC ⟨p, y, n * 86400 + r.at_.s, 0⟩) (by rfl) rfl rfl rfl rfl HR5.out (infoXF _) (fireC_one _) (show 0 + 4 ≤ 4 by decide) (put_fi _ _) ?_
       intro W2 hf2 hb2
       have HF2 := Lib.hid (HF5.out.fresh hf2 (fun i e => by have e : i = w.heap.size + 1 := e; omega))
       have HB2 := Lib.hid hb2
       clear hf2 hb2))
    exact bodyPost_ret (results_fire _ _ (w.heap.size + 1) ⟨p, y, n * 86400 + r.at_.s, 0⟩ (.bool true) rfl rfl HB2.out) rfl ⟨rfl, HF2.out⟩
  · have HJ := Lib.hid hj
    have hj : (j == 0) = false := beq_eq_false_iff_ne.2 hj
    clear hn hof
    go_enter Tryd.func18, Tryd.ntmps18
    go_wp2_with (first
      | ((with_reducible refine at_load4 42 ?_); refine wpList_load_blk 42 _ w.heap.size 0 51 (seatC r p) (ruleC r) _ (by rfl) rfl rfl HBS.out Tryd.underlying42 rfl (infoR _) (part_seat r p) ?_)
      | ((with_reducible refine at_store4 42 ?_); refine wpList_store_blk 42 _ _ (w.heap.size + 2) 0 42 (ruleC ruleZ) (ruleC r) (ruleC r) (by rfl) rfl rfl rfl rfl HBZ.out (infoR _) (ruleC_one _) (show 0 + 11 ≤ 11 by decide) (put_ra _ _) ?_
         intro W1 hf1 hb1
         have HF := Lib.hid (HF3.out.fresh hf1 (fun i e => by have e : i = w.heap.size + 2 := e; omega))
         have HS1 := Lib.hid (hf1.blk HBS3.out (fun e => by have e : w.heap.size = w.heap.size + 2 := e; omega))
         have HR1 := Lib.hid (hf1.blk HBR.out (fun e => by have e : w.heap.size + 1 = w.heap.size + 2 := e; omega))
         have HB1 := Lib.hid hb1
         have c1 : W1.cell? ⟨w.heap.size + 2, 1, none⟩ = some (.int .i64 r.fr) := blkc hb1 1 _ rfl
         have c2 : W1.cell? ⟨w.heap.size + 2, 2, none⟩ = some (.int .i64 r.to) := blkc hb1 2 _ rfl
         have c3 : W1.cell? ⟨w.heap.size + 2, 3, none⟩ = some (.int .i64 r.month) := blkc hb1 3 _ rfl
         have c4 : W1.cell? ⟨w.heap.size + 2, 4, none⟩ = some (.int .i64 r.on.k) := blkc hb1 4 _ rfl
         have c5 : W1.cell? ⟨w.heap.size + 2, 5, none⟩ = some (.int .i64 r.on.d) := blkc hb1 5 _ rfl
         have c6 : W1.cell? ⟨w.heap.size + 2, 6, none⟩ = some (.int .i64 r.on.w) := blkc hb1 6 _ rfl
         clear hf1 hb1 HBS HBZ HBS3 HBR HF3))
    refine (HQ.out _ HF.out).mono ?_
    rintro e w5 ⟨rfl, hf5⟩
    have HF5 := Lib.hid (ff4 HF.out hf5)
    have HR5 := Lib.hid (hf5.blk HR1.out (fun h => h))
    have hb5 := hf5.blk HB1.out (fun h => h)
    have hs5 := hf5.blk HS1.out (fun h => h)
    have c7 : w5.cell? ⟨w.heap.size + 2, 7, none⟩ = some (.int .i64 r.at_.s) := blkc hb5 7 _ rfl
    have c11 : w5.cell? ⟨w.heap.size, 11, none⟩ = some (.int .i64 p) := blkc hs5 11 _ rfl
    clear hf5 hb5 hs5 c1 c2 c3 c4 c5 c6
    go_wp2_with (
      ((with_reducible refine at_store4 36 ?_); refine wpList_store_blk 36 _ _ (w.heap.size + 1) 0 36 (fireC f0) (fireC f0) (fireC f0) (by rfl) rfl rfl rfl rfl HR5.out (infoXF _) (fireC_one _) (show 0 + 4 ≤ 4 by decide) (put_fi _ _) ?_
       intro W2 hf2 hb2
       have HF2 := Lib.hid (HF5.out.fresh hf2 (fun i e => by have e : i = w.heap.size + 1 := e; omega))
       have HB2 := Lib.hid hb2
       clear hf2 hb2))
    exact bodyPost_ret (results_fire _ _ (w.heap.size + 1) f0 (.bool false) rfl rfl HB2.out) rfl ⟨rfl, HF2.out⟩
theorem fire_any (r : RuleL) (p y : Int) (w : World) (hw : S6.WOk w) (hs : -700000 ≤ r.at_.s ∧ r.at_.s ≤ 700000) : Calls Tryd.prog 18 #[.agg (seatC r p), intV y] w fun e w' => e = .returned (fireO (fireR r p y)) ∧ Fr w w' (fun _ => False) := by
  by_cases hl : lasts r y
  · obtain ⟨l1, l2, l3, l4⟩ := hl
    obtain ⟨n, j, hnj⟩ : ∃ n j, S6.ofD r.on.k r.on.d r.on.w y r.month = (n, j) := ⟨_, _, rfl⟩
    obtain ⟨N0, N1⟩ := num_of hnj
    have h := fire_of r p y n j w hw (by omega) (by omega) hnj (fun hj => numX_range (N0 hj)) hs
    have e : (if j = 0 then some ⟨p, y, n * 86400 + r.at_.s, 0⟩ else none) = fireR r p y := by
      unfold fireR
      by_cases hj : j = 0
      · rw [if_pos hj, atR_num ⟨l1, l2, l3, l4⟩ (N0 hj)]; rfl
      · rw [if_neg hj, atR_none (N1 hj)]; rfl
    rwa [e] at h
  · exact fire_no r p y w hw (by unfold lasts at hl; omega)
end Go.Proofs.YtbkjafaijkmpfaaDoor
namespace Go.Proofs.YtbkjafaijkmpfaaDoor
open Go.RowKit Go.Mem Go.Lin Go.Dcm

/-- rows of the type e -/
def TB (B : Nat) (e : TypeId) (w : World) (i : Nat) : Prop := B ≤ i ∧ ∃ cs, Blk w i e cs
theorem tb_own {X : Type} {w w' : World} {B : Nat} {e : TypeId} {k : Nat} {f : X → List Value} {v : Value} {l : List X} (h : Own w B e k f v l) (hf : Fr w w' (fun i => some i = v.ownBlock)) : Fr w w' (TB B e w) :=
  hf.mono fun i _ hi => by
    obtain ⟨h1, -, h2⟩ := own_block h hi.symm
    exact ⟨h1, h2⟩
end Go.Proofs.YtbkjafaijkmpfaaDoor
namespace Go.Proofs.YtbkjafaijkmpfaaDoor
open Go.RowKit Go.Mem Go.Lin Go.Dcm

/-- a slice of lines -/
def LinesAt (w : World) (A : Option Addr) (l : List LineL) : Prop := Rd w 29 A l.length (l.flatMap lineL)
theorem LinesAt.kept {w w' : World} {A : Option Addr} {l : List LineL} (h : LinesAt w A l) (hf : Fr w w' (fun _ => False)) : LinesAt w' A l := Rd.fr h hf (fun _ _ _ _ h => h)
theorem LinesAt.at_ {w : World} {A : Option Addr} {l : List LineL} (h : LinesAt w A l) {i : Nat} (hi : i < l.length) : ∃ b off, A = some ⟨b, off, none⟩ ∧ ∀ j, j < (lineC l[i]).size → w.cell? ⟨b, off + i * 29 + j, none⟩ = (lineC l[i])[j]? := by
  obtain ⟨b, off, e, hc⟩ := rows_at lineL_len h (List.getElem?_eq_getElem hi)
  refine ⟨b, off, e, fun j hj => ?_⟩
  rw [hc j hj]
  show (lineC l[i]).toList[j]? = _
  simp
end Go.Proofs.YtbkjafaijkmpfaaDoor
namespace Go.Mem
open Go.RowKit
section
variable {P : Program} {ops : Array Oper} {rest : List Oper} {o : Oper} {a : Act} {w : World} {Q : Exit → Act → World → Prop}
/-- a slice of one element is made: the world behind it is opaque -/
theorem wpList_made {t e : TypeId} {y : Operand} {v : Value} (cs : Array Value) (hgd : Region.wanted o (yielded ops a.tmps) = true) (ho : o.op = .buildSlice t 1 #[(0, y)]) (hy : a.eval y = v)
    (hm : ∀ w, (Instr.buildSlice t 1 #[(0, v)]).run P w = .ok (.slice (some ⟨w.heap.size, 0, none⟩) 1 1) (w.alloc (.cells cs e)))
    (h : ∀ W, Fr w W (fun _ => False) → W.heap.size = w.heap.size + 1 → Blk W w.heap.size e cs → Rd W cs.size (some ⟨w.heap.size, 0, none⟩) 1 cs.toList → wpList P ops Q rest (a.put o.dst (.slice (some ⟨w.heap.size, 0, none⟩) 1 1)) W) : wpList P ops Q (o :: rest) a w :=
  wpList_step fun _ hK => by
    rw [if_pos hgd]
    unfold Oper.wp execOp
    simp only [ho, Sem.run_bind, List.map_toArray, List.map_cons, List.map_nil, hy, hm, Result.andThen_ok]
    refine hK _ _ (h _ (Fr.new w _ _) (by simp) (Blk.made w e cs) ?_)
    refine ⟨by simp, fun _ => ⟨w.heap.size, 0, rfl, fun j u hu => ?_⟩⟩
    have := cell_at (Blk.made w e cs) j
    rw [Nat.zero_add, this]
    simpa using hu
end
end Go.Mem
namespace Go.Proofs.YtbkjafaijkmpfaaDoor
open Go.RowKit Go.Mem Go.Lin Go.Dcm
/-- one element more: the row behind it, the world opaque -/
theorem wpList_append1 {P : Program} {ops : Array Oper} {rest : List Oper} {o : Oper} {a : Act} {w : World} {Q : Exit → Act → World → Prop} {X : Type} {f : X → List Value} {l : List X} (s y : Operand) (t : TypeId)
    (hgd : o.guard = none) (ho : o.op = .call { callee := .builtin .append, args := #[s, y], argTypes := #[t, t] })
    (base : Nat) (e : TypeId) (z : Value) (size bytes : Nat) (ht : P.underlying t = some (.slice e)) (hi : (P.info? e).map (fun i => (i.zero, i.size, i.bytes)) = some (some z, size, bytes)) (hzs : z.cells.size = size) (hsz : 0 < size)
    (v : Value) (hs : a.eval s = v) (hown : Own w base e size f v l) (A : Option Addr) (c : Nat) (x : X) (cs : List Value) (hx : a.eval y = .slice A 1 c) (hr : Rd w size A 1 cs) (hcs : cs = f x) (h1 : ∀ u ∈ cs, u.oneCell' = true)
    (h63 : l.length ≤ 100000) (hby : bytes ≤ 1000) (hbase : base ≤ w.heap.size)
    (h : ∀ A9 c9 w9, Own w9 base e size f (.slice A9 (l.length + 1) c9) (l ++ [x]) → Fr w w9 (fun i => some i = v.ownBlock) → wpList P ops Q rest (a.put o.dst (.slice A9 (l.length + 1) c9)) w9) : wpList P ops Q (o :: rest) a w := by
  obtain ⟨i0, hi0, hz0, hz1, hz2⟩ := info_parts hi
  refine wpList_append_rd w hgd s y t ho base e i0 z size bytes ht hi0 hz0 hz1 hz2 hzs hsz v l.length _ hs hown A 1 c cs hx hr h1 (by simp only [maxLen]; omega) ?_ hbase ?_
  · have : (l.length + 1) * bytes ≤ 100001 * 1000 := Nat.mul_le_mul (by omega) hby
    omega
  · intro v9 w9 hown9 hg9 _
    obtain ⟨A9, c9, rfl⟩ := Go.Mem.own_slice hown9
    exact h A9 c9 w9 (own_more hown9 hcs) (Fr.ofGrown hg9)
namespace R
end R
end Go.Proofs.YtbkjafaijkmpfaaDoor
namespace Go.Proofs.YtbkjafaijkmpfaaDoor
open Go.RowKit Go.Mem Go.Lin Go.Xpd

section
variable {P : Program} {ops : Array Oper} {rest : List Oper} {a : Act} {w : World} {Q : Exit → Act → World → Prop}
theorem at_slice4 {d : Option Tmp} {y : Operand} {ty : TypeId} {pos : String} {af : Array Edge} {g : Option (Nat × Bool)} (t : TypeId) (h : wpList P ops Q (⟨d, .buildSlice t 1 #[(0, y)], ty, pos, af, g⟩ :: rest) a w) : wpList P ops Q (⟨d, .buildSlice t 1 #[(0, y)], ty, pos, af, g⟩ :: rest) a w := h
theorem at_append4 {d : Option Tmp} {t : TypeId} {ty : TypeId} {pos : String} {af : Array Edge} {g : Option (Nat × Bool)} (s x : Operand) (h : wpList P ops Q (⟨d, .call { callee := .builtin .append, args := #[s, x], argTypes := #[t, t] }, ty, pos, af, g⟩ :: rest) a w) : wpList P ops Q (⟨d, .call { callee := .builtin .append, args := #[s, x], argTypes := #[t, t] }, ty, pos, af, g⟩ :: rest) a w := h
end
theorem info_xfire : (Tryd.prog.info? 36).map (fun i => (i.zero, i.size, i.bytes)) = some (some (fireV f0), 4, 32) := by kernel_rfl
abbrev XFires (w : World) (base : Nat) (v : Value) (l : List FireL) : Prop := Own w base 36 4 fireL v l
abbrev seatM (r : RuleL) (p : Int) : Value := .func (.func 18) #[.agg (seatC r p)] #[]
theorem gath_none {r : RuleL} {p a : Int} {n : Nat} (h : fireR r p (a + n) = none) : gathD r p a (n + 1) = gathD r p a n := by
  show gathD r p a n ++ (fireR r p (a + n)).toList = _
  rw [h]; simp
theorem gath_some {r : RuleL} {p a : Int} {n : Nat} {f : FireL} (h : fireR r p (a + n) = some f) : gathD r p a (n + 1) = gathD r p a n ++ [f] := by
  show gathD r p a n ++ (fireR r p (a + n)).toList = _
  rw [h]; rfl
theorem fire_none {r : RuleL} {p y : Int} (h : fireR r p y = none) (w : World) (hw : S6.WOk w) (hs : -700000 ≤ r.at_.s ∧ r.at_.s ≤ 700000) : Calls Tryd.prog 18 #[.agg (seatC r p), intV y] w fun e w' => e = .returned (.tuple #[fireV f0, .bool false]) ∧ Fr w w' (fun _ => False) := by
  have := fire_any r p y w hw hs
  rw [h] at this
  exact this
theorem fire_some {r : RuleL} {p y : Int} {f : FireL} (h : fireR r p y = some f) (w : World) (hw : S6.WOk w) (hs : -700000 ≤ r.at_.s ∧ r.at_.s ≤ 700000) : Calls Tryd.prog 18 #[.agg (seatC r p), intV y] w fun e w' => e = .returned (.tuple #[fireV f, .bool true]) ∧ Fr w w' (fun _ => False) := by
  have := fire_any r p y w hw hs
  rw [h] at this
  exact this
/- only rows of fires of the call's own turn -/
abbrev TF (w0 w w' : World) : Prop := Fr w w' (TB w0.heap.size 36 w)
theorem tf_of {w0 w w' : World} (h : Fr w w' (fun _ => False)) : TF w0 w w' := h.mono fun _ _ h => h.elim
theorem tf_trans {w0 a b c : World} (h : TF w0 a b) (k : TF w0 b c) : TF w0 a c := by
  refine h.trans k (fun _ _ h => h) (fun i hi ⟨h1, cs, h2⟩ => ?_)
  by_cases e : TB w0.heap.size 36 a i
  · exact e
  · refine ⟨h1, cs, ?_⟩
    have := h.block i hi e
    unfold Blk at h2 ⊢
    rw [← this]; exact h2
theorem tf_far {w0 w w' : World} (hf : TF w0 w w') {g : Nat} {t : TypeId} {cs : Array Value} (hb : Blk w g t cs) (hne : t ≠ 36) : Blk w' g t cs := hf.blk hb fun h => hne (blk_same hb h.2.choose_spec)
theorem tf_low {w0 w w' : World} (h0 : Fr w0 w (fun _ => False)) (hf : TF w0 w w') : Fr w0 w' (fun _ => False) := h0.fresh hf fun _ h => h.1
set_option maxHeartbeats 3200000 in
set_option maxRecDepth 100000 in
theorem gather_any (r : RuleL) (p : Int) (F : List FireL) (v : Value) (a b : Int) (w0 w : World) (hw : S6.WOk w0) (hf : Fr w0 w (fun _ => False)) (ho : XFires w w0.heap.size v F) (hF : F.length ≤ 20000) (hs : -700000 ≤ r.at_.s ∧ r.at_.s ≤ 700000)
    (ha : -30000 ≤ a ∧ a ≤ 30000) (_hb : -30000 ≤ b ∧ b ≤ 30000) (hab : b - a ≤ 40) :
    Calls Tryd.prog 17 #[v, seatM r p, intV a, intV b] w fun e w' => ∃ v', e = .returned v' ∧ XFires w' w0.heap.size v' (F ++ gathD r p a (cntY a b)) ∧ TF w0 w w' := by
  have HW := Lib.hid hw
  have HSe := Lib.hid hs
  have HF0 := Lib.hid hf
  obtain ⟨A0, c0, rfl⟩ := ho.slice
  have HO0 := Lib.hid ho
  clear hf ho hw hs
  go_enter Tryd.func17, Tryd.ntmps17
  go_wp2_with fail
  go_loopg [0, 9, 10, 11] 100 (fun g v0 v9 _ _ wr => ∃ n : Nat, v9 = intV (a + n) ∧ (n = 0 ∨ a + n ≤ b + 1) ∧ b + 1 - (a + n) ≤ g ∧ XFires wr w0.heap.size v0 (F ++ gathD r p a n) ∧ TF w0 w wr)
  case atStart => exact ⟨0, by rw [show a + ((0 : Nat) : Int) = a by omega], .inl rfl, by omega, by rw [show gathD r p a 0 = [] from rfl, List.append_nil]; exact HO0.out, Fr.refl _ _⟩
  case round =>
    obtain ⟨n, rfl, hn0, hg, ho, hf⟩ := hrel
    obtain ⟨A1, c1, rfl⟩ := ho.slice
    obtain ⟨G, hGk⟩ : ∃ G, gk = G := ⟨_, rfl⟩
    rw [hGk] at hg
    have HT := Lib.hid hf
    have HF := Lib.hid (tf_low HF0.out hf)
    have HO := Lib.hid ho
    obtain ⟨y, hyv⟩ : ∃ y : Int, a + n = y := ⟨_, rfl⟩
    have HYv := Lib.hid hyv
    have hn1 : n ≤ 41 := by omega
    have hgl := gathD_len r p a n
    obtain ⟨L, hL⟩ : ∃ L, F ++ gathD r p a n = L := ⟨_, rfl⟩
    have hLl : L.length ≤ 30000 := by rw [← hL, List.length_append]; omega
    have HL := Lib.hid hL
    have hy1 : -30000 ≤ y ∧ y ≤ 30041 := by omega
    rw [hyv] at hn0 hg ⊢
    rw [hL] at HO ⊢
    clear hf ho hyv hL hgl
    by_cases hx : y ≤ b
    · cases ho : fireR r p y with
      | none =>
        have HQ := Lib.hid (fire_none ho wr (HW.out.fr HF.out) HSe.out)
        have HN := Lib.hid (show F ++ gathD r p a (n + 1) = L by rw [gath_none (by rw [HYv.out]; exact ho), HL.out])
        clear ho
        go_wp2_with fail
        refine HQ.out.mono ?_
        rintro e w2 ⟨rfl, hf2⟩
        have HF2 := Lib.hid hf2
        have HO2 := Lib.hid (HO.out.kept hf2)
        have n2 := Fr.new w2 (.cells #[.int .i64 0, .int .i64 0, .int .i64 0, .int .i64 0] 36) (fun _ => False)
        have HF3 := Lib.hid (ff4 HF2.out n2)
        have HO3 := Lib.hid (HO2.out.kept n2)
        have HB := Lib.hid (show Blk _ w2.heap.size 36 (fireC f0) from Blk.made w2 36 (fireC f0))
        clear hf2 n2
        go_wp2_with (
          ((with_reducible refine at_store4 36 ?_); refine wpList_store_blk 36 _ _ w2.heap.size 0 36 (fireC f0) (fireC f0) (fireC f0) (by rfl) rfl rfl rfl rfl HB.out (infoXF _) (fireC_one _) (show 0 + 4 ≤ 4 by decide) (put_fi _ _) ?_
           intro W3 hf3 hb3
           have HF4 := Lib.hid (HF3.out.fresh hf3 (fun i e => by have e : i = w2.heap.size := e; have := HF2.out.size; omega))
           have HO4 := Lib.hid (show XFires W3 w0.heap.size _ L from HO3.out.fr hf3 (fun g hg e => by have e : g = w2.heap.size := e; have := (own_block HO2.out hg).2.1; omega))
           clear hf3 hb3))
        go_roundg (G - 1)
        case measure => omega
        case rel =>
          have hyv := HYv.out
          have e1 : a + ((n + 1 : Nat) : Int) = y + 1 := by omega
          exact ⟨n + 1, by rw [e1], .inr (by omega), by omega, by rw [HN.out]; exact HO4.out, tf_trans HT.out (tf_of HF4.out)⟩
      | some f =>
        have HQ := Lib.hid (fire_some ho wr (HW.out.fr HF.out) HSe.out)
        have HN := Lib.hid (show F ++ gathD r p a (n + 1) = L ++ [f] by rw [gath_some (by rw [HYv.out]; exact ho), ← List.append_assoc, HL.out])
        clear ho
        go_wp2_with fail
        refine HQ.out.mono ?_
        rintro e w2 ⟨rfl, hf2⟩
        have HF2 := Lib.hid hf2
        have HO2 := Lib.hid (HO.out.kept hf2)
        have n2 := Fr.new w2 (.cells #[.int .i64 0, .int .i64 0, .int .i64 0, .int .i64 0] 36) (fun _ => False)
        have HF3 := Lib.hid (ff4 HF2.out n2)
        have HO3 := Lib.hid (HO2.out.kept n2)
        have HB := Lib.hid (show Blk _ w2.heap.size 36 (fireC f0) from Blk.made w2 36 (fireC f0))
        clear hf2 n2
        go_wp2_with (first
          | ((with_reducible refine at_store4 36 ?_); refine wpList_store_blk 36 _ _ w2.heap.size 0 36 (fireC f0) (fireC f) (fireC f) (by rfl) rfl rfl rfl rfl HB.out (infoXF _) (fireC_one _) (show 0 + 4 ≤ 4 by decide) (put_fi _ _) ?_
             intro W3 hf3 hb3
             have HF4 := Lib.hid (HF3.out.fresh hf3 (fun i e => by have e : i = w2.heap.size := e; have := HF2.out.size; omega))
             have HO4 := Lib.hid (show XFires W3 w0.heap.size _ L from HO3.out.fr hf3 (fun g hg e => by have e : g = w2.heap.size := e; have := (own_block HO2.out hg).2.1; omega))
             have HB4 := Lib.hid hb3
             clear hf3 hb3)
          | ((with_reducible refine at_load4 36 ?_); refine wpList_load_blk 36 _ w2.heap.size 0 36 (fireC f) (fireC f) _ (by rfl) rfl rfl HB4.out Tryd.underlying36 rfl (infoXF _) (zero_part _) ?_)
          | ((with_reducible refine at_slice4 (y := .tmp 26) 28 ?_); refine wpList_made (t := 28) (e := 36) (y := .tmp 26) (v := fireV f) (fireC f) (by rfl) rfl rfl (fun _ => by kernel_rfl) ?_
             intro Wm hfm hsm hbm hrm
             have HFm := Lib.hid (ff4 HF4.out hfm)
             have HOm := Lib.hid (HO4.out.kept hfm)
             have HRm := Lib.hid hrm
             clear hfm hsm hbm hrm)
          | ((with_reducible refine at_append4 (.tmp 25) (.tmp 27) ?_); refine wpList_append1 (f := fireL) (.tmp 25) (.tmp 27) 28 rfl rfl w0.heap.size 36 _ 4 32 Tryd.underlying28 info_xfire rfl (by decide) _ rfl HOm.out _ 1 f (fireC f).toList rfl HRm.out rfl (one_made (fireC_one f)) (by omega) (by decide) (Nat.le_trans HF.out.size HFm.out.size) ?_
             intro A2 c2 Wp hop hfp
             have HTp := Lib.hid (tf_trans (tf_trans HT.out (tf_of HFm.out)) (tb_own HOm.out hfp))
             have HOp := Lib.hid hop
             clear hop hfp))
        go_roundg (G - 1)
        case measure => omega
        case rel =>
          have hyv := HYv.out
          have e1 : a + ((n + 1 : Nat) : Int) = y + 1 := by omega
          exact ⟨n + 1, by rw [e1], .inr (by omega), by omega, by rw [HN.out]; exact HOp.out, HTp.out⟩
    · have hyv := HYv.out
      have HE := Lib.hid (show F ++ gathD r p a (cntY a b) = L by rw [← HL.out]; unfold cntY; rw [show (b + 1 - a).toNat = n by omega])
      clear hyv
      go_wp2_with fail
      go_ret
      exact ⟨_, rfl, by rw [HE.out]; exact HO.out, HT.out⟩
end Go.Proofs.YtbkjafaijkmpfaaDoor
namespace Go.Proofs.YtbkjafaijkmpfaaDoor
open Go.RowKit Go.Mem Go.Lin Go.Xpd

/- how fires follow one another -/
def Grw (w w' : World) : Prop := ∃ q os, w' = Go.Sort.grow (w.drewN q) os
theorem Grw.refl (w : World) : Grw w w := ⟨0, #[], by simp [Go.Sort.grow, World.drewN]⟩
theorem Grw.alloc {w w' : World} (h : Grw w w') (o : Obj) : Grw w (w'.alloc o) := by
  obtain ⟨q, os, rfl⟩ := h
  exact ⟨q, _, by rw [Go.Sort.alloc_eq_grow, Go.Sort.grow_grow]⟩
theorem Grw.drew {w w' : World} (h : Grw w w') : Grw w w'.drew := by
  obtain ⟨q, os, rfl⟩ := h
  exact ⟨q + 1, os, rfl⟩
theorem Grw.fr {w w' : World} (h : Grw w w') : Fr w w' (fun _ => False) := by
  obtain ⟨q, os, rfl⟩ := h
  exact ⟨rfl, rfl, rfl, by simp [Go.Sort.grow, World.drewN], fun i hi _ => by
    show (w.heap ++ os)[i]? = _
    rw [Array.getElem?_append_left hi]⟩
theorem kq6a {w a : World} {p1 p2 o1 o2 o3 o4 o5 o6 : Nat} {v1 v2 v3 v4 v5 v6 : Value} {o : Obj} (h : Grw w a ∧ a.cell? ⟨p1, o1, none⟩ = some v1 ∧ a.cell? ⟨p1, o2, none⟩ = some v2 ∧ a.cell? ⟨p1, o3, none⟩ = some v3 ∧ a.cell? ⟨p2, o4, none⟩ = some v4 ∧ a.cell? ⟨p2, o5, none⟩ = some v5 ∧ a.cell? ⟨p2, o6, none⟩ = some v6) :
    Grw w (a.alloc o) ∧ (a.alloc o).cell? ⟨p1, o1, none⟩ = some v1 ∧ (a.alloc o).cell? ⟨p1, o2, none⟩ = some v2 ∧ (a.alloc o).cell? ⟨p1, o3, none⟩ = some v3 ∧ (a.alloc o).cell? ⟨p2, o4, none⟩ = some v4 ∧ (a.alloc o).cell? ⟨p2, o5, none⟩ = some v5 ∧ (a.alloc o).cell? ⟨p2, o6, none⟩ = some v6 := by
  have hf := Fr.new a o (fun _ => False)
  obtain ⟨h0, h1, h2, h3, h4, h5, h6⟩ := h
  exact ⟨h0.alloc o, cell_far hf h1 (fun h => h), cell_far hf h2 (fun h => h), cell_far hf h3 (fun h => h), cell_far hf h4 (fun h => h), cell_far hf h5 (fun h => h), cell_far hf h6 (fun h => h)⟩
theorem kq6d {w a : World} {p1 p2 o1 o2 o3 o4 o5 o6 : Nat} {v1 v2 v3 v4 v5 v6 : Value} (h : Grw w a ∧ a.cell? ⟨p1, o1, none⟩ = some v1 ∧ a.cell? ⟨p1, o2, none⟩ = some v2 ∧ a.cell? ⟨p1, o3, none⟩ = some v3 ∧ a.cell? ⟨p2, o4, none⟩ = some v4 ∧ a.cell? ⟨p2, o5, none⟩ = some v5 ∧ a.cell? ⟨p2, o6, none⟩ = some v6) :
    Grw w a.drew ∧ a.drew.cell? ⟨p1, o1, none⟩ = some v1 ∧ a.drew.cell? ⟨p1, o2, none⟩ = some v2 ∧ a.drew.cell? ⟨p1, o3, none⟩ = some v3 ∧ a.drew.cell? ⟨p2, o4, none⟩ = some v4 ∧ a.drew.cell? ⟨p2, o5, none⟩ = some v5 ∧ a.drew.cell? ⟨p2, o6, none⟩ = some v6 :=
  ⟨h.1.drew, h.2⟩
theorem nan_any (x : Int) (w : World) : Calls Tryd.prog 56 #[intV x] w fun e w' => e = .returned (.bool false) ∧ w' = w := by
  go_enter Tryd.func56, Tryd.ntmps56
  go_wp2_with fail
  go_ret
  exact ⟨by simp, rfl⟩
theorem nan64_any (x : Int) (w : World) : Calls Tryd.prog 57 #[intV x] w fun e w' => e = .returned (.bool false) ∧ w' = w := by
  go_enter Tryd.func57, Tryd.ntmps57
  go_wp2_with fail
  go_ret
  exact ⟨by simp, rfl⟩
theorem cmp_any (x y : Int) (w : World) : Calls Tryd.prog 33 #[intV x, intV y] w fun e w' => e = .returned (intV (cmpI x y)) ∧ w' = w := by
  have HX := Lib.hid (nan_any x w)
  have HY := Lib.hid (nan_any y w)
  rcases cmpI_3 x y with ⟨h, e⟩ | ⟨h, e⟩ | ⟨rfl, e⟩
  all_goals
    rw [e]
    clear e
    go_enter Tryd.func33, Tryd.ntmps33
    go_wp2_with fail
    refine HX.out.mono ?_
    rintro e w2 ⟨rfl, rfl⟩
    go_wp2_with fail
    refine HY.out.mono ?_
    rintro e w2 ⟨rfl, rfl⟩
    go_wp2_with fail
    go_ret
    exact ⟨rfl, rfl⟩
theorem cmp64_any (x y : Int) (w : World) : Calls Tryd.prog 34 #[intV x, intV y] w fun e w' => e = .returned (intV (cmpI x y)) ∧ w' = w := by
  have HX := Lib.hid (nan64_any x w)
  have HY := Lib.hid (nan64_any y w)
  rcases cmpI_3 x y with ⟨h, e⟩ | ⟨h, e⟩ | ⟨rfl, e⟩
  all_goals
    rw [e]
    clear e
    go_enter Tryd.func34, Tryd.ntmps34
    go_wp2_with fail
    refine HX.out.mono ?_
    rintro e w2 ⟨rfl, rfl⟩
    go_wp2_with fail
    refine HY.out.mono ?_
    rintro e w2 ⟨rfl, rfl⟩
    go_wp2_with fail
    go_ret
    exact ⟨rfl, rfl⟩
def or3 (x y z : Int) : Int := if x ≠ 0 then x else if y ≠ 0 then y else z
theorem or_any (x y z : Int) (g : Nat) (w : World) (hb : Blk w g 3 #[intV x, intV y, intV z]) : Calls Tryd.prog 32 #[.slice (some ⟨g, 0, none⟩) 3 3] w fun e w' => e = .returned (intV (or3 x y z)) ∧ w' = w := by
  obtain ⟨c, hc, HE⟩ : ∃ c : Nat → Int, (∀ j, j < 3 → w.cell? ⟨g, j, none⟩ = some (intV (c j))) ∧ or3 x y z = or3 (c 0) (c 1) (c 2) := by
    refine ⟨fun j => if j = 0 then x else if j = 1 then y else z, fun j hj => ?_, rfl⟩
    match j, hj with
    | 0, _ => exact blkc hb 0 _ rfl
    | 1, _ => exact blkc hb 1 _ rfl
    | 2, _ => exact blkc hb 2 _ rfl
  have HC := Lib.hid hc
  rw [HE]
  clear hc hb HE
  go_enter Tryd.func32, Tryd.ntmps32
  go_wp2_with fail
  go_loopg [5, 8] 3 (fun g _ v8 wr => ∃ i : Nat, i + g = 3 ∧ v8 = intV i ∧ wr = w ∧ ∀ j, j < i → c j = 0)
  case atStart => exact ⟨0, rfl, rfl, rfl, fun j hj => absurd hj (Nat.not_lt_zero j)⟩
  case round =>
    obtain ⟨i, hi, rfl, rfl, hz⟩ := hrel
    have HZ := Lib.hid hz
    clear hz
    by_cases hlt : i < 3
    · have i1 : (i : Int) < 3 := by omega
      have c0 := HC.out i hlt
      obtain ⟨C, hCv⟩ : ∃ C, c i = C := ⟨_, rfl⟩
      rw [hCv] at c0
      have HCv := Lib.hid hCv
      clear hCv
      by_cases h0 : C = 0
      · subst h0
        go_wp2_with fail
        go_roundg (2 - i)
        case measure => omega
        case rel =>
          refine ⟨i + 1, by omega, by go_num, rfl, fun j hj => ?_⟩
          by_cases e : j = i
          · rw [e]; exact HCv.out
          · exact HZ.out j (by omega)
      · have HE := Lib.hid (show or3 (c 0) (c 1) (c 2) = C by
          have h0' := h0
          rw [← HCv.out] at h0' ⊢
          unfold or3
          match i, hlt, HZ with
          | 0, _, _ => rw [if_pos h0']
          | 1, _, HZ => rw [if_neg (by rw [HZ.out 0 (by omega)]; simp), if_pos h0']
          | 2, _, HZ => rw [if_neg (by rw [HZ.out 0 (by omega)]; simp), if_neg (by rw [HZ.out 1 (by omega)]; simp)])
        have h0 : (C == 0) = false := beq_eq_false_iff_ne.2 h0
        go_wp2_with fail
        go_ret
        exact ⟨by rw [HE.out]; rfl, rfl⟩
    · obtain rfl : i = 3 := by omega
      have HE := Lib.hid (show or3 (c 0) (c 1) (c 2) = 0 by
        unfold or3
        rw [if_neg (by rw [HZ.out 0 (by omega)]; simp), if_neg (by rw [HZ.out 1 (by omega)]; simp)]
        exact HZ.out 2 (by omega))
      go_wp2_with fail
      go_ret
      exact ⟨by rw [HE.out]; rfl, rfl⟩
end Go.Proofs.YtbkjafaijkmpfaaDoor
namespace Go.Proofs.YtbkjafaijkmpfaaDoor
open Go.RowKit Go.Mem Go.Lin Go.Xpd

theorem or3_cf (a b : FireL) : or3 (cmpI a.y b.y) (cmpI a.at_ b.at_) (cmpI a.i b.i) = cfF a b := rfl
set_option maxHeartbeats 3200000 in
set_option maxRecDepth 100000 in
theorem order_grw (a b : FireL) (w : World) : Calls Tryd.prog 21 #[fireV a, fireV b] w fun e w' => e = .returned (intV (cfF a b)) ∧ Grw w w' := by
  have s1 : (w.alloc (.cells (fireC a) 36)).heap.size = w.heap.size + 1 := by simp
  have n1 := Fr.new (w.alloc (.cells (fireC a) 36)) (.cells (fireC b) 36) (fun _ => False)
  have ba := n1.blk (Blk.made w 36 (fireC a)) (fun h => h)
  have bb := Blk.made (w.alloc (.cells (fireC a) 36)) 36 (fireC b)
  rw [s1] at bb
  have HG0 := Lib.hid (((Grw.refl w).alloc (.cells (fireC a) 36)).alloc (.cells (fireC b) 36))
  have HBa := Lib.hid ba
  have HBb := Lib.hid bb
  have HCf := Lib.hid (or3_cf a b)
  clear s1 n1 ba bb
  go_enter Tryd.func21, Tryd.ntmps21
  go_wp2_with fail
  obtain ⟨W, hW⟩ : ∃ W, (w.alloc (.cells (fireC a) 36)).alloc (.cells (fireC b) 36) = W := ⟨_, rfl⟩
  rw [hW] at HG0 HBa HBb ⊢
  clear hW
  have HS0 := Lib.hid (show Grw w W ∧ W.cell? ⟨w.heap.size, 0, none⟩ = some (.int .i64 a.i) ∧ W.cell? ⟨w.heap.size, 1, none⟩ = some (.int .i64 a.y) ∧ W.cell? ⟨w.heap.size, 2, none⟩ = some (.int .i64 a.at_) ∧ W.cell? ⟨w.heap.size + 1, 0, none⟩ = some (.int .i64 b.i) ∧ W.cell? ⟨w.heap.size + 1, 1, none⟩ = some (.int .i64 b.y) ∧ W.cell? ⟨w.heap.size + 1, 2, none⟩ = some (.int .i64 b.at_) from
    ⟨HG0.out, blkc HBa.out 0 _ rfl, blkc HBa.out 1 _ rfl, blkc HBa.out 2 _ rfl, blkc HBb.out 0 _ rfl, blkc HBb.out 1 _ rfl, blkc HBb.out 2 _ rfl⟩)
  clear HG0 HBa HBb
  go_region_held3 (fun w' => Grw w w' ∧ w'.cell? ⟨w.heap.size, 0, none⟩ = some (.int .i64 a.i) ∧ w'.cell? ⟨w.heap.size, 1, none⟩ = some (.int .i64 a.y) ∧ w'.cell? ⟨w.heap.size, 2, none⟩ = some (.int .i64 a.at_) ∧ w'.cell? ⟨w.heap.size + 1, 0, none⟩ = some (.int .i64 b.i) ∧ w'.cell? ⟨w.heap.size + 1, 1, none⟩ = some (.int .i64 b.y) ∧ w'.cell? ⟨w.heap.size + 1, 2, none⟩ = some (.int .i64 b.at_))
    (first | with_reducible exact kq6d HS0.out | with_reducible assumption | with_reducible exact kq6d (kq6a HS0.out) | (with_reducible refine kq6a ?_; with_reducible assumption))
    (first
      | ((go_at_call 33); refine (cmp_any _ _ _).mono ?_; rintro e w5 ⟨rfl, rfl⟩)
      | ((go_at_call 34); refine (cmp64_any _ _ _).mono ?_; rintro e w5 ⟨rfl, rfl⟩)
      | ((go_at_call 32); refine (or_any (cmpI a.y b.y) (cmpI a.at_ b.at_) (cmpI a.i b.i) W.heap.size _ ((Fr.drew _ (fun _ => False)).blk (Blk.made W 3 _) (fun h => h))).mono ?_; rintro e w5 ⟨rfl, rfl⟩))
  all_goals
    rename_i hS
    have HE := Lib.hid hS.1
    clear hS
    rw [HCf.out]
    go_wp2_with fail
    go_ret
    exact ⟨rfl, HE.out⟩
end Go.Proofs.YtbkjafaijkmpfaaDoor
