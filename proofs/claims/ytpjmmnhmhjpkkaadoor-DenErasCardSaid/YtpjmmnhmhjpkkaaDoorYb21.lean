import Derived.Test.YtpjmmnhmhjpkkaaDoorYb13
import Derived.Test.YtpjmmnhmhjpkkaaDoorYb20
import Derived.Test.YtpjmmnhmhjpkkaaDoorYb08
namespace Go.Proofs.YtpjmmnhmhjpkkaaDoor
open Go.RowKit Go.Mem Go.Lin Go.Xpd Go.Den

/- the package's contracts, as the laws want them -/
theorem nEnd_any (v : ZnV) (i : Nat) (w : World) (hw : S6.WOk w) (hv : ZnAt w v) (hR : ZnR v) (hL : LightZ v) (hi : i < v.eras.length) : Calls Tryd.prog 9 #[.agg (zoneC v), intV i] w fun e w' => e = .returned (intV (endD (znD v) i)) ∧ Fr w w' (fun _ => False) := nEnd_gen v i w hw hv hR hL.v hi
end Go.Proofs.YtpjmmnhmhjpkkaaDoor
namespace Go.Proofs.YtpjmmnhmhjpkkaaDoor
open Go.RowKit Go.Mem Go.Lin Go.Xpd Go.Den

theorem rd_made2 (w : World) (t : TypeId) (cs : Array Value) (n k : Nat) (h : cs.size = n * k) : Rd (w.alloc (.cells cs t)) k (some ⟨w.heap.size, 0, none⟩) n cs.toList := by
  refine ⟨by simpa using h, fun _ => ⟨w.heap.size, 0, rfl, fun j u hu => ?_⟩⟩
  have := cell_at (Blk.made w t cs) j
  rw [Nat.zero_add, this]
  simpa using hu
def euR (g : Nat) : RuV := ⟨some ⟨g, 0, none⟩, 2, [eu1, eu2]⟩
def euV (g : Nat) : ZnV := ⟨some ⟨g + 1, 0, none⟩, 1, [euE], some ⟨g + 2, 0, none⟩, 1, [euR g]⟩
theorem euV_d (g : Nat) : znD (euV g) = euZ := rfl
theorem rur1 : RuR eu1 := ⟨by unfold maxLen; decide, by unfold inR; decide, by unfold inR; decide, by unfold inR; decide, by unfold inR; decide, by unfold inR; decide, by unfold inR; decide, by unfold inR; decide, by unfold inR; decide, by unfold inR; decide, by unfold maxLen; decide⟩
theorem rur2 : RuR eu2 := ⟨by unfold maxLen; decide, by unfold inR; decide, by unfold inR; decide, by unfold inR; decide, by unfold inR; decide, by unfold inR; decide, by unfold inR; decide, by unfold inR; decide, by unfold inR; decide, by unfold inR; decide, by unfold maxLen; decide⟩
theorem eurE : EraR euE := ⟨by unfold inR; decide, by unfold inR; decide, by unfold inR; decide, by unfold maxLen; decide, by unfold maxLen; decide, by unfold inR; decide, by unfold inR; decide, by unfold inR; decide, by unfold inR; decide, by unfold inR; decide, by unfold inR; decide, by unfold inR; decide⟩
theorem euV_R (g : Nat) : ZnR (euV g) := ⟨fun x hx => by
    rw [List.mem_singleton.1 hx]
    refine ⟨by show 2 ≤ maxLen; unfold maxLen; decide, fun r hr => ?_⟩
    rcases List.mem_cons.1 hr with rfl | hr
    · exact rur1
    · rw [List.mem_singleton.1 hr]; exact rur2, fun e he => by rw [List.mem_singleton.1 he]; exact eurE, by show 1 ≤ maxLen; unfold maxLen; decide, by show 1 ≤ maxLen; unfold maxLen; decide⟩
theorem euV_L (g : Nat) : LightW (euV g) := ⟨by show 1 ≤ 10; decide, by show 1 ≤ 10; decide, fun x hx => by
    rw [List.mem_singleton.1 hx]
    show LightP [eu1, eu2] 6
    decide, fun e he => by rw [List.mem_singleton.1 he]; decide⟩
abbrev euW1 (w : World) : World := w.alloc (.cells (ruleC eu1 ++ ruleC eu2) 49)
abbrev euW2 (w : World) : World := (euW1 w).alloc (.cells (eraC euE) 44)
abbrev euW3 (w : World) : World := (euW2 w).alloc (.cells #[.slice (some ⟨w.heap.size, 0, none⟩) 2 2] 47)
abbrev euW4 (w : World) : World := (euW3 w).alloc (.cells (zoneC (euV w.heap.size)) 33)
theorem euV_at (w : World) : ZnAt (euW4 w) (euV w.heap.size) ∧ Fr w (euW4 w) (fun _ => False) := by
  have s1 : (euW1 w).heap.size = w.heap.size + 1 := by simp [euW1]
  have s2 : (euW2 w).heap.size = w.heap.size + 2 := by simp [euW2, euW1]
  have n1 := Fr.new w (.cells (ruleC eu1 ++ ruleC eu2) 49) (fun _ => False)
  have n2 := Fr.new (euW1 w) (.cells (eraC euE) 44) (fun _ => False)
  have n3 := Fr.new (euW2 w) (.cells #[.slice (some ⟨w.heap.size, 0, none⟩) 2 2] 47) (fun _ => False)
  have n4 := Fr.new (euW3 w) (.cells (zoneC (euV w.heap.size)) 33) (fun _ => False)
  have r1 : RusAt (euW1 w) (some ⟨w.heap.size, 0, none⟩) [eu1, eu2] := rd_made2 w 49 (ruleC eu1 ++ ruleC eu2) 2 11 rfl
  have r2 : ErasAt (euW2 w) (some ⟨w.heap.size + 1, 0, none⟩) [euE] := by
    have := rd_made2 (euW1 w) 44 (eraC euE) 1 13 rfl
    rw [s1] at this
    exact this
  have r3 : Rd (euW3 w) 1 (some ⟨w.heap.size + 2, 0, none⟩) 1 ([euR w.heap.size].flatMap ruvL) := by
    have := rd_made2 (euW2 w) 47 #[.slice (some ⟨w.heap.size, 0, none⟩) 2 2] 1 1 rfl
    rw [s2] at this
    exact this
  refine ⟨⟨(r2.kept n3).kept n4, ⟨Rd.fr r3 n4 (fun _ _ _ _ h => h), fun x hx => ?_⟩⟩, ff4 n1 (ff4 n2 (ff4 n3 n4))⟩
  rw [List.mem_singleton.1 hx]
  exact ((r1.kept n2).kept n3).kept n4
theorem infoDs0 (s : StateD) : (Tryd.prog.info? 29).map (·.size) = some (stateC s).size := show _ = some 3 by kernel_rfl
set_option maxHeartbeats 3200000 in
set_option maxRecDepth 100000 in
theorem zalive_any (w : World) (hw : S6.WOk w) : Calls Tryd.prog 6 #[] w fun e w' => e = .returned (.bool true) ∧ Fr w w' (fun _ => False) := by
  obtain ⟨hv, hf⟩ := euV_at w
  have HF4 := Lib.hid hf
  have HV := Lib.hid hv
  have hrt : ∀ t, -4000000000 ≤ t ∧ t ≤ 4000000000 → S6.inRange t := fun t ht => by unfold S6.inRange; omega
  have HA1 := Lib.hid (nAt_any (euV w.heap.size) 1720000000 (euW4 w) (hw.fr hf) hv (euV_R _) (euV_L _) (hrt _ (by omega)))
  have HA2 := Lib.hid (fun W (f : Fr (euW4 w) W (fun _ => False)) => nAt_any (euV w.heap.size) 1700000000 W (hw.fr (ff4 hf f)) (hv.kept f) (euV_R _) (euV_L _) (hrt _ (by omega)))
  have HRt := Lib.hid (fun W (f : Fr (euW4 w) W (fun _ => False)) => nRight_any (euV w.heap.size) W (hw.fr (ff4 hf f)) (hv.kept f) (euV_R _) (euV_L _))
  rw [euV_d, eu_at1] at HA1
  rw [euV_d, eu_at2] at HA2
  rw [euV_d, eu_right] at HRt
  have s3 : (euW3 w).heap.size = w.heap.size + 3 := by simp [euW3, euW2, euW1]
  have hz := Blk.made (euW3 w) 33 (zoneC (euV w.heap.size))
  rw [s3] at hz
  have HZ := Lib.hid hz
  clear hv hf hw hz s3 hrt
  go_enter Tryd.func6, Tryd.ntmps6
  go_wp2_with fail
  refine HA1.out.mono ?_
  rintro e w5 ⟨rfl, hf5⟩
  have HF5 := Lib.hid hf5
  have HZ5 := Lib.hid (hf5.blk HZ.out (fun h => h))
  have n6 := Fr.new w5 (.cells (stateC st0) 29) (fun _ => False)
  have HN6 := Lib.hid (ff4 hf5 n6)
  have HS6 := Lib.hid (Blk.made w5 29 (stateC st0))
  have HZ6 := Lib.hid (n6.blk HZ5.out (fun h => h))
  clear hf5 n6
  go_wp2_with (first
    | ((with_reducible refine at_store4 29 ?_); refine wpList_store_blk 29 _ _ w5.heap.size 0 29 (stateC st0) (stateC ⟨0, 3600, [83]⟩) (stateC ⟨0, 3600, [83]⟩) (by rfl) rfl rfl rfl rfl HS6.out (infoDs0 _) (stateC_one _) (show 0 + 3 ≤ 3 by decide) (put_st _ _) ?_
       intro W7 hf7 hb7
       have HF7 := Lib.hid (HN6.out.fresh hf7 (fun i e => by have e : i = w5.heap.size := e; have := HF5.out.size; omega))
       have HZ7 := Lib.hid (hf7.blk HZ6.out (fun e => by have e : w.heap.size + 3 = w5.heap.size := e; have := HZ5.out.lt; omega))
       have HS7 := Lib.hid hb7
       have c0 : W7.cell? ⟨w.heap.size + 3, 0, none⟩ = some (.slice (some ⟨w.heap.size + 1, 0, none⟩) 1 1) := blkc HZ7.out 0 _ rfl
       have c1 : W7.cell? ⟨w.heap.size + 3, 1, none⟩ = some (.slice (some ⟨w.heap.size + 2, 0, none⟩) 1 1) := blkc HZ7.out 1 _ rfl
       clear hf7 hb7))
  refine (HA2.out W7 HF7.out).mono ?_
  rintro e w8 ⟨rfl, hf8⟩
  have HF8 := Lib.hid (ff4 HF7.out hf8)
  have HZ8 := Lib.hid (hf8.blk HZ7.out (fun h => h))
  have HS8 := Lib.hid (hf8.blk HS7.out (fun h => h))
  have n9 := Fr.new w8 (.cells (stateC st0) 29) (fun _ => False)
  have HN9 := Lib.hid (ff4 HF8.out n9)
  have HT9 := Lib.hid (Blk.made w8 29 (stateC st0))
  have HZ9 := Lib.hid (n9.blk HZ8.out (fun h => h))
  have HS9 := Lib.hid (n9.blk HS8.out (fun h => h))
  clear hf8 n9 c0 c1
  go_wp2_with (first
    | ((with_reducible refine at_store4 29 ?_); refine wpList_store_blk 29 _ _ w8.heap.size 0 29 (stateC st0) (stateC ⟨0, 0, []⟩) (stateC ⟨0, 0, []⟩) (by rfl) rfl rfl rfl rfl HT9.out (infoDs0 _) (stateC_one _) (show 0 + 3 ≤ 3 by decide) (put_st _ _) ?_
       intro W10 hf10 hb10
       have HF10 := Lib.hid (HN9.out.fresh hf10 (fun i e => by have e : i = w8.heap.size := e; have := HF8.out.size; omega))
       have HZ10 := Lib.hid (hf10.blk HZ9.out (fun e => by have e : w.heap.size + 3 = w8.heap.size := e; have := HZ8.out.lt; omega))
       have HS10 := Lib.hid (hf10.blk HS9.out (fun e => by have e : w5.heap.size = w8.heap.size := e; have := HS8.out.lt; omega))
       have HT10 := Lib.hid hb10
       have c0 : W10.cell? ⟨w.heap.size + 3, 0, none⟩ = some (.slice (some ⟨w.heap.size + 1, 0, none⟩) 1 1) := blkc HZ10.out 0 _ rfl
       have c1 : W10.cell? ⟨w.heap.size + 3, 1, none⟩ = some (.slice (some ⟨w.heap.size + 2, 0, none⟩) 1 1) := blkc HZ10.out 1 _ rfl
       clear hf10 hb10))
  refine (HRt.out W10 HF10.out).mono ?_
  rintro e w11 ⟨rfl, hf11⟩
  have HF11 := Lib.hid (ff4 HF4.out (ff4 HF10.out hf11))
  have hs11 := hf11.blk HS10.out (fun h => h)
  have ht11 := hf11.blk HT10.out (fun h => h)
  have d1 : w11.cell? ⟨w5.heap.size, 1, none⟩ = some (.int .i64 3600) := blkc hs11 1 _ rfl
  have d2 : w11.cell? ⟨w5.heap.size, 2, none⟩ = some (.string ⟨#[83]⟩) := blkc hs11 2 _ rfl
  have k1 : w11.cell? ⟨w8.heap.size, 1, none⟩ = some (.int .i64 0) := blkc ht11 1 _ rfl
  have k2 : w11.cell? ⟨w8.heap.size, 2, none⟩ = some (.string ⟨#[]⟩) := blkc ht11 2 _ rfl
  clear hf11 hs11 ht11 c0 c1
  go_wp2_with fail
  go_ret
  exact ⟨by simp, HF11.out⟩
end Go.Proofs.YtpjmmnhmhjpkkaaDoor
namespace Go.Mem
section
variable {P : Program} {ops : Array Oper} {rest : List Oper} {o : Oper} {a : Act} {w : World} {Q : Exit → Act → World → Prop}
theorem at_eql {d : Option Tmp} {x y : Operand} {z ty : TypeId} {pos : String} {af : Array Edge} {g : Option (Nat × Bool)} (t : TypeId) (h : wpList P ops Q (⟨d, .binOp .eql t x y z, ty, pos, af, g⟩ :: rest) a w) : wpList P ops Q (⟨d, .binOp .eql t x y z, ty, pos, af, g⟩ :: rest) a w := h
theorem wpList_eql {t : TypeId} {x y : Operand} {z : TypeId} {cs ds : Array Value} {b : Bool} (hgd : Region.wanted o (yielded ops a.tmps) = true) (ho : o.op = .binOp .eql t x y z) (hx : a.eval x = .agg cs) (hy : a.eval y = .agg ds)
    (hg : ∀ w, (eqGuard .eql t x y (.agg cs) (.agg ds)).run P w = .ok () w) (h : ∀ w, (binOp .eql t (.agg cs) (.agg ds)).run P w = .ok (.bool b) w) (hK : wpList P ops Q rest (a.put o.dst (.bool b)) w) : wpList P ops Q (o :: rest) a w :=
  wpList_step fun _ hk => by
    rw [if_pos hgd]
    unfold Oper.wp execOp
    simp only [ho, hx, hy, Sem.run_bind, hg, h, Result.andThen_ok, Sem.run_pure]
    exact hk _ _ hK
end
end Go.Mem
namespace Go.Proofs.YtpjmmnhmhjpkkaaDoor
open Go.RowKit Go.Mem Go.Lin Go.Xpd Go.Den

theorem results_zOwn (tmps : Array Value) (w : World) (q : Nat) (v : ZnV) (hp : tmps.getD 2 undef = .pointer (some ⟨q, 0, none⟩)) (hb : Blk w q 33 (zoneC v)) : (results Tryd.f8 tmps).run Tryd.prog w = .ok (.agg (zoneC v)) w :=
  results_cell_row (P := Tryd.prog) (fn := Tryd.f8) (p := 2) (ty := 33) rfl tmps _ q 33 (zoneC v) (0, 0) _ hp hb Tryd.underlying33 rfl (show _ = some 2 by kernel_rfl)
theorem zOwn_any (v : ZnV) (w : World) : Calls Tryd.prog 8 #[.agg (zoneC v)] w fun e w' => e = .returned (.agg (zoneC v)) ∧ Fr w w' (fun _ => False) := by
  have n1 := Fr.new w (.cells (zoneC v) 25) (fun _ => False)
  have s1 : (w.alloc (.cells (zoneC v) 25)).heap.size = w.heap.size + 1 := by simp
  have n2 := Fr.new (w.alloc (.cells (zoneC v) 25)) (.cells #[.slice none 0 0, .slice none 0 0] 33) (fun _ => False)
  have hb1 := n2.blk (Blk.made w 25 (zoneC v)) (fun h => h)
  have HF1 := Lib.hid n1
  have HS1 := Lib.hid s1
  have c0 : ((w.alloc (.cells (zoneC v) 25)).alloc (.cells #[.slice none 0 0, .slice none 0 0] 33)).cell? ⟨w.heap.size, 0, none⟩ = some (.slice v.Ae v.eras.length v.ce) := blkc hb1 0 _ rfl
  have c1 : ((w.alloc (.cells (zoneC v) 25)).alloc (.cells #[.slice none 0 0, .slice none 0 0] 33)).cell? ⟨w.heap.size, 1, none⟩ = some (.slice v.Ar v.Z.length v.cr) := blkc hb1 1 _ rfl
  clear n1 s1 n2 hb1
  go_enter Tryd.func8, Tryd.ntmps8
  go_wp2_with fail
  have hb6 := Blk.made (w.alloc (.cells (zoneC v) 25)) 33 (zoneC v)
  rw [HS1.out] at hb6
  exact bodyPost_ret (results_zOwn _ _ (w.heap.size + 1) v rfl hb6) rfl ⟨rfl, ff4 HF1.out (Fr.new _ _ _)⟩
theorem eq_state (d : Nat) (a b : StateD) (w : World) : (Op.equalIn (d + 2) 29 (stateV a) (stateV b)).run Tryd.prog w = .ok (decide (a = b)) w := by
  have hS : Tryd.prog.underlying 29 = some (.struct (Tryd.prog.fieldsOf 29)) := by kernel_rfl
  have hp : Tryd.prog.stoodInHeld 29 = false := by kernel_rfl
  rw [run_equalIn_agg w (d + 1) 29 _ _ hS hp]
  simp only [Program.fieldsOf, Tryd.underlying29]
  refine Eq.trans (eqF_cons (x := intV a.era) (y := intV b.era) (by decide) (by kernel_rfl) (by kernel_rfl) (eqI d a.era b.era w) (eqF_cons (x := intV a.save) (y := intV b.save) (by decide) (by kernel_rfl) (by kernel_rfl) (eqI d a.save b.save w) (eqF_cons (x := strV a.letter) (y := strV b.letter) (by decide) (by kernel_rfl) (by kernel_rfl) (eqS d a.letter b.letter w) eqF_nil))) ?_
  rcases a with ⟨a0, a1, a2⟩
  rcases b with ⟨b0, b1, b2⟩
  simp [StateD.mk.injEq]
theorem eql_state (a : StateD) : ∀ w, (binOp .eql 29 (.agg (stateC a)) (.agg (stateC a))).run Tryd.prog w = .ok (.bool true) w := fun w => by
  have h := eq_state 9998 a a w
  simp only [binOp]
  simp [Op.equal, Op.maxDepth, h]
theorem guard_state (x y : Operand) (cs ds : Array Value) : ∀ w, (eqGuard .eql 29 x y (.agg cs) (.agg ds)).run Tryd.prog w = .ok () w := fun _ => by kernel_rfl
theorem infoDs (s : StateD) : (Tryd.prog.info? 29).map (·.size) = some (stateC s).size := show _ = some 3 by kernel_rfl
end Go.Proofs.YtpjmmnhmhjpkkaaDoor
