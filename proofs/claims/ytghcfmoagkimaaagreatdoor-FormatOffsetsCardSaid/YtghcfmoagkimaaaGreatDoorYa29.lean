import Derived.Test.YtghcfmoagkimaaaGreatDoorYa28
import Derived.Test.YtghcfmoagkimaaaGreatDoorYa22
namespace Go.Proofs.YtghcfmoagkimaaaGreatDoor
open Go.RowKit Go.Mem Go.Lin Go.Xpd Go.Den

set_option maxHeartbeats 3200000 in
set_option maxRecDepth 100000 in
theorem idxR_any (l : List RuleL) (A : Option Addr) (cap : Nat) (w : World) (hl : RusAt w A l) (hn : l.length ≤ 1000) :
    Calls Tryz.prog 109 #[.slice A l.length cap, .func (.func 84) #[] #[]] w fun e w' => ∃ k : Int, e = .returned (intV k) ∧ -1 ≤ k ∧ decide (0 ≤ k) = l.any badR ∧ Fr w w' (fun _ => False) := by
  have HL := Lib.hid hl
  have HPr := Lib.hid (fun (r : RuleL) (hr : r ∈ l) W (f : Fr w W (fun _ => False)) => badRule_any r W)
  clear hl
  go_enter Tryz.func109, Tryz.ntmps109
  go_wp2_with fail
  go_loopg [5, 8] l.length (fun g _ v8 wr => ∃ i : Nat, i + g = l.length ∧ v8 = intV i ∧ (l.take i).any badR = false ∧ Fr w wr (fun _ => False))
  case atStart => exact ⟨0, by simp, rfl, by simp, Fr.refl _ _⟩
  case round =>
    obtain ⟨i, hi, rfl, hp, hf⟩ := hrel
    have HF := Lib.hid hf
    have HP := Lib.hid hp
    clear hf hp
    by_cases hlt : i < l.length
    · obtain ⟨r, hri⟩ : ∃ r, l[i]? = some r := ⟨l[i], List.getElem?_eq_getElem hlt⟩
      obtain ⟨b5, off, hA, hc⟩ := (HL.out.kept HF.out).at_ hri
      subst hA
      have HQ := Lib.hid (HPr.out r (List.mem_of_getElem? hri) wr HF.out)
      have HT := Lib.hid (show l.take (i + 1) = l.take i ++ [r] by rw [List.take_add_one, hri]; rfl)
      have HM := Lib.hid (List.mem_of_getElem? hri)
      have HCx := Lib.hid hc
      have i0 : (i : Int) < (l.length : Int) := by omega
      clear hri hc
      cases hb : badR r with
      | true =>
        rw [hb] at HQ
        have HB := Lib.hid (show l.any badR = true by rw [List.any_eq_true]; exact ⟨r, HM.out, hb⟩)
        clear hb
        go_wp2_with ((with_reducible refine at_load4 72 ?_); refine wpList_load_at 72 _ b5 (off + i * 11) (ruleC r) _ (by rfl) rfl rfl HCx.out Tryz.underlying72 rfl (infoR _) ?_)
        refine HQ.out.mono ?_
        rintro e w2 ⟨rfl, hf2⟩
        go_wp2_with fail
        go_ret
        exact ⟨i, rfl, by omega, by rw [HB.out]; exact decide_eq_true (by omega), ff4 HF.out hf2⟩
      | false =>
        rw [hb] at HQ
        have HB := Lib.hid (show (l.take (i + 1)).any badR = false by rw [HT.out, List.any_append, HP.out]; simp [hb])
        clear hb
        go_wp2_with ((with_reducible refine at_load4 72 ?_); refine wpList_load_at 72 _ b5 (off + i * 11) (ruleC r) _ (by rfl) rfl rfl HCx.out Tryz.underlying72 rfl (infoR _) ?_)
        refine HQ.out.mono ?_
        rintro e w2 ⟨rfl, hf2⟩
        have HF2 := Lib.hid (ff4 HF.out hf2)
        clear hf2
        go_wp2_with fail
        go_roundg (l.length - (i + 1))
        case measure => omega
        case rel => exact ⟨i + 1, by omega, by go_num, HB.out, HF2.out⟩
    · obtain rfl : i = l.length := by omega
      have HB := Lib.hid (show l.any badR = false by have h := HP.out; rw [List.take_length] at h; exact h)
      go_wp2_with fail
      go_ret
      exact ⟨-1, rfl, by omega, by rw [HB.out]; rfl, HF.out⟩
theorem conR_any (l : List RuleL) (A : Option Addr) (cap : Nat) (w : World) (hl : RusAt w A l) (hn : l.length ≤ 1000) :
    Calls Tryz.prog 83 #[.slice A l.length cap, .func (.func 84) #[] #[]] w fun e w' => e = .returned (.bool (l.any badR)) ∧ Fr w w' (fun _ => False) := by
  have HI := Lib.hid (idxR_any l A cap w hl hn)
  clear hl
  generalize l.any badR = b at *
  go_enter Tryz.func83, Tryz.ntmps83
  go_wp2_with fail
  refine HI.out.mono ?_
  rintro e w2 ⟨k, rfl, -, hk, hf⟩
  have HK := Lib.hid hk
  clear hk
  go_wp2_with fail
  go_ret
  exact ⟨by rw [← HK.out]; rfl, hf⟩

/-- rules that no right zone has -/
def badZ (x : RuV) : Bool := decide (24 < x.l.length) || x.l.any badR
theorem badRules_any (x : RuV) (w : World) (hl : RusAt w x.A x.l) (hn : x.l.length ≤ 8) : Calls Tryz.prog 54 #[.slice x.A x.l.length x.c] w fun e w' => e = .returned (.bool (badZ x)) ∧ Fr w w' (fun _ => False) := by
  have HI := Lib.hid (conR_any x.l x.A x.c w hl (by omega))
  have HB := Lib.hid (show badZ x = x.l.any badR by unfold badZ; rw [decide_eq_false (by omega)]; rfl)
  clear hl
  have h0 : ¬ (24 : Int) < (x.l.length : Int) := by omega
  generalize x.l.any badR = b at *
  go_enter Tryz.func54, Tryz.ntmps54
  go_wp2_with fail
  refine HI.out.mono ?_
  rintro e w2 ⟨rfl, hf⟩
  go_wp2_with fail
  go_ret
  exact ⟨by rw [HB.out]; rfl, hf⟩

set_option maxHeartbeats 3200000 in
set_option maxRecDepth 100000 in
theorem idxZ_any (l : List RuV) (A : Option Addr) (cap : Nat) (w : World) (hl : RusIn w A l) (hn : l.length ≤ 1000) (hz : ∀ x ∈ l, x.l.length ≤ 8) :
    Calls Tryz.prog 82 #[.slice A l.length cap, .func (.func 54) #[] #[]] w fun e w' => ∃ k : Int, e = .returned (intV k) ∧ -1 ≤ k ∧ decide (0 ≤ k) = l.any badZ ∧ Fr w w' (fun _ => False) := by
  have HL := Lib.hid hl
  have HPr := Lib.hid (fun (r : RuV) (hr : r ∈ l) W (f : Fr w W (fun _ => False)) => badRules_any r W ((hl.kept f).e r hr) (hz r hr))
  clear hl
  go_enter Tryz.func82, Tryz.ntmps82
  go_wp2_with fail
  go_loopg [5, 8] l.length (fun g _ v8 wr => ∃ i : Nat, i + g = l.length ∧ v8 = intV i ∧ (l.take i).any badZ = false ∧ Fr w wr (fun _ => False))
  case atStart => exact ⟨0, by simp, rfl, by simp, Fr.refl _ _⟩
  case round =>
    obtain ⟨i, hi, rfl, hp, hf⟩ := hrel
    have HF := Lib.hid hf
    have HP := Lib.hid hp
    clear hf hp
    by_cases hlt : i < l.length
    · obtain ⟨r, hri⟩ : ∃ r, l[i]? = some r := ⟨l[i], List.getElem?_eq_getElem hlt⟩
      obtain ⟨b5, off, hA, hc, hr5⟩ := (HL.out.kept HF.out).at_ hri
      subst hA
      have HQ := Lib.hid (HPr.out r (List.mem_of_getElem? hri) wr HF.out)
      have HT := Lib.hid (show l.take (i + 1) = l.take i ++ [r] by rw [List.take_add_one, hri]; rfl)
      have HM := Lib.hid (List.mem_of_getElem? hri)
      have HCx := Lib.hid hc
      have i0 : (i : Int) < (l.length : Int) := by omega
      clear hri hr5
      cases hb : badZ r with
      | true =>
        rw [hb] at HQ
        have HB := Lib.hid (show l.any badZ = true by rw [List.any_eq_true]; exact ⟨r, HM.out, hb⟩)
        clear hb
        go_wp2_with fail
        refine HQ.out.mono ?_
        rintro e w2 ⟨rfl, hf2⟩
        go_wp2_with fail
        go_ret
        exact ⟨i, rfl, by omega, by rw [HB.out]; exact decide_eq_true (by omega), ff4 HF.out hf2⟩
      | false =>
        rw [hb] at HQ
        have HB := Lib.hid (show (l.take (i + 1)).any badZ = false by rw [HT.out, List.any_append, HP.out]; simp [hb])
        clear hb
        go_wp2_with fail
        refine HQ.out.mono ?_
        rintro e w2 ⟨rfl, hf2⟩
        have HF2 := Lib.hid (ff4 HF.out hf2)
        clear hf2 hc
        go_wp2_with fail
        go_roundg (l.length - (i + 1))
        case measure => omega
        case rel => exact ⟨i + 1, by omega, by go_num, HB.out, HF2.out⟩
    · obtain rfl : i = l.length := by omega
      have HB := Lib.hid (show l.any badZ = false by have h := HP.out; rw [List.take_length] at h; exact h)
      go_wp2_with fail
      go_ret
      exact ⟨-1, rfl, by omega, by rw [HB.out]; rfl, HF.out⟩
theorem conZ_any (l : List RuV) (A : Option Addr) (cap : Nat) (w : World) (hl : RusIn w A l) (hn : l.length ≤ 1000) (hz : ∀ x ∈ l, x.l.length ≤ 8) :
    Calls Tryz.prog 53 #[.slice A l.length cap, .func (.func 54) #[] #[]] w fun e w' => e = .returned (.bool (l.any badZ)) ∧ Fr w w' (fun _ => False) := by
  have HI := Lib.hid (idxZ_any l A cap w hl hn hz)
  clear hl
  generalize l.any badZ = b at *
  go_enter Tryz.func53, Tryz.ntmps53
  go_wp2_with fail
  refine HI.out.mono ?_
  rintro e w2 ⟨k, rfl, -, hk, hf⟩
  have HK := Lib.hid hk
  clear hk
  go_wp2_with fail
  go_ret
  exact ⟨by rw [← HK.out]; rfl, hf⟩

/-- an until that no right zone has -/
def badU (u : UntilL) : Bool := !(clockN u).2 || badT u.at_.s u.at_.k
theorem badUntil_any (u : UntilL) (w : World) (hw : S6.WOk w) (hs : -700000 ≤ u.at_.s ∧ u.at_.s ≤ 700000) : Calls Tryz.prog 81 #[.agg (tilC u)] w fun e w' => e = .returned (.bool (badU u)) ∧ Fr w w' (fun _ => False) := by
  have hf := Fr.new w (.cells (tilC u) 46) (fun _ => False)
  have HF := Lib.hid hf
  have HB := Lib.hid (Blk.made w 46 (tilC u))
  have HC := Lib.hid (nclock_any u _ (hw.fr hf) hs)
  have HT := Lib.hid (fun w => badTime_any u.at_.s u.at_.k w)
  obtain ⟨c, b, hcb⟩ : ∃ c b, clockN u = (c, b) := ⟨_, _, rfl⟩
  have HE := Lib.hid (show badU u = (!b || badT u.at_.s u.at_.k) by unfold badU; rw [hcb])
  rw [hcb] at HC
  clear hf hcb hw
  generalize badT u.at_.s u.at_.k = d at *
  cases b with
  | false =>
    go_enter Tryz.func81, Tryz.ntmps81
    go_wp2_with ((with_reducible refine at_load4 46 ?_); refine wpList_load_blk 46 _ w.heap.size 0 46 (tilC u) (tilC u) _ (by rfl) rfl rfl HB.out Tryz.underlying46 rfl (infoTl _) (zero_part _) ?_)
    refine HC.out.mono ?_
    rintro e w2 ⟨rfl, hf2⟩
    go_wp2_with fail
    go_ret
    exact ⟨by rw [HE.out]; rfl, ff4 HF.out hf2⟩
  | true =>
    go_enter Tryz.func81, Tryz.ntmps81
    go_wp2_with ((with_reducible refine at_load4 46 ?_); refine wpList_load_blk 46 _ w.heap.size 0 46 (tilC u) (tilC u) _ (by rfl) rfl rfl HB.out Tryz.underlying46 rfl (infoTl _) (zero_part _) ?_)
    refine HC.out.mono ?_
    rintro e w2 ⟨rfl, hf2⟩
    have HF2 := Lib.hid (ff4 HF.out hf2)
    have hb2 := hf2.blk HB.out (fun h => h)
    have c6 : w2.cell? ⟨w.heap.size, 6, none⟩ = some (.int .i64 u.at_.s) := blkc hb2 6 _ rfl
    have c7 : w2.cell? ⟨w.heap.size, 7, none⟩ = some (.int .i64 u.at_.k) := blkc hb2 7 _ rfl
    clear hf2 hb2
    go_wp2_with fail
    refine (HT.out _).mono ?_
    rintro e w3 ⟨rfl, hf3⟩
    go_wp2_with fail
    go_ret
    exact ⟨by rw [HE.out]; rfl, ff4 HF2.out hf3⟩
/-- an era that no right zone has -/
def badK (e : EraL) : Bool := !decide (within e.off 86400) || decide (e.kind < 0) || decide (2 < e.kind)
def badE (e : EraL) : Bool := badK e || (decide (e.kind = 1) && !decide (within e.save 86400)) || (e.til.has && badU e.til)
set_option maxHeartbeats 3200000 in
set_option maxRecDepth 100000 in
theorem badEra_any (e : EraL) (w : World) (hw : S6.WOk w) (hs : -700000 ≤ e.til.at_.s ∧ e.til.at_.s ≤ 700000) : Calls Tryz.prog 52 #[.agg (eraC e)] w fun q w' => q = .returned (.bool (badE e)) ∧ Fr w w' (fun _ => False) := by
  have hf := Fr.new w (.cells (eraC e) 48) (fun _ => False)
  have HF := Lib.hid hf
  have hb := Blk.made w 48 (eraC e)
  have HB := Lib.hid hb
  have c0 : (w.alloc (.cells (eraC e) 48)).cell? ⟨w.heap.size, 0, none⟩ = some (.int .i64 e.off) := blkc hb 0 _ rfl
  have c1 : (w.alloc (.cells (eraC e) 48)).cell? ⟨w.heap.size, 1, none⟩ = some (.int .i64 e.kind) := blkc hb 1 _ rfl
  have c2 : (w.alloc (.cells (eraC e) 48)).cell? ⟨w.heap.size, 2, none⟩ = some (.int .i64 e.save) := blkc hb 2 _ rfl
  have c5 : (w.alloc (.cells (eraC e) 48)).cell? ⟨w.heap.size, 5, none⟩ = some (.bool e.til.has) := blkc hb 5 _ rfl
  have HU := Lib.hid (badUntil_any e.til _ (hw.fr hf) hs)
  have HW := Lib.hid (fun w => nwithin_any e.off 86400 w (by omega))
  have HS := Lib.hid (fun w => nwithin_any e.save 86400 w (by omega))
  have HE := Lib.hid (show badE e = (badK e || (decide (e.kind = 1) && !decide (within e.save 86400)) || (e.til.has && badU e.til)) from rfl)
  have HKd := Lib.hid (show badK e = (!decide (within e.off 86400) || decide (e.kind < 0) || decide (2 < e.kind)) from rfl)
  clear hf hb hw
  generalize badU e.til = u at *
  generalize decide (within e.save 86400) = s at *
  generalize e.til.has = h at *
  cases hw0 : decide (within e.off 86400) with
  | false =>
    rw [hw0] at HW HKd
    have HR := Lib.hid (show badE e = true by rw [HE.out, HKd.out]; rfl)
    clear hw0
    go_enter Tryz.func52, Tryz.ntmps52
    go_wp2_with fail
    refine (HW.out _).mono ?_
    rintro q w2 ⟨rfl, rfl⟩
    go_wp2_with fail
    go_ret
    exact ⟨by rw [HR.out]; rfl, HF.out⟩
  | true =>
    rw [hw0] at HW HKd
    clear hw0
    by_cases k0 : e.kind < 0
    · have HR := Lib.hid (show badE e = true by rw [HE.out, HKd.out, decide_eq_true k0]; rfl)
      go_enter Tryz.func52, Tryz.ntmps52
      go_wp2_with fail
      refine (HW.out _).mono ?_
      rintro q w2 ⟨rfl, rfl⟩
      go_wp2_with fail
      go_ret
      exact ⟨by rw [HR.out]; rfl, HF.out⟩
    · by_cases k2 : 2 < e.kind
      · have HR := Lib.hid (show badE e = true by rw [HE.out, HKd.out, decide_eq_true k2]; simp)
        have k0 : 0 ≤ e.kind := by omega
        go_enter Tryz.func52, Tryz.ntmps52
        go_wp2_with fail
        refine (HW.out _).mono ?_
        rintro q w2 ⟨rfl, rfl⟩
        go_wp2_with fail
        go_ret
        exact ⟨by rw [HR.out]; rfl, HF.out⟩
      · have HR := Lib.hid (show badE e = ((decide (e.kind = 1) && !s) || (h && u)) by rw [HE.out, HKd.out, decide_eq_false k0, decide_eq_false k2]; rfl)
        have k0 : 0 ≤ e.kind := by omega
        have k2 : e.kind ≤ 2 := by omega
        clear HE HKd
        by_cases k1 : e.kind = 1
        · rw [decide_eq_true k1] at HR
          have c1' : (w.alloc (.cells (eraC e) 48)).cell? ⟨w.heap.size, 1, none⟩ = some (.int .i64 1) := by rw [← k1]; exact c1
          clear c1 k0 k2 k1
          cases s with
          | false =>
            go_enter Tryz.func52, Tryz.ntmps52
            go_wp2_with fail
            refine (HW.out _).mono ?_
            rintro q w2 ⟨rfl, rfl⟩
            go_wp2_with fail
            refine (HS.out _).mono ?_
            rintro q w2 ⟨rfl, rfl⟩
            go_wp2_with fail
            go_ret
            exact ⟨by rw [HR.out]; rfl, HF.out⟩
          | true =>
            cases h with
            | false =>
              go_enter Tryz.func52, Tryz.ntmps52
              go_wp2_with fail
              refine (HW.out _).mono ?_
              rintro q w2 ⟨rfl, rfl⟩
              go_wp2_with fail
              refine (HS.out _).mono ?_
              rintro q w2 ⟨rfl, rfl⟩
              go_wp2_with fail
              go_ret
              exact ⟨by rw [HR.out]; rfl, HF.out⟩
            | true =>
              go_enter Tryz.func52, Tryz.ntmps52
              go_wp2_with ((with_reducible refine at_load4 46 ?_); refine wpList_load_blk 46 _ w.heap.size 5 48 (eraC e) (tilC e.til) _ (by rfl) rfl rfl HB.out Tryz.underlying46 rfl (infoTl _) (part_til _) ?_)
              refine (HW.out _).mono ?_
              rintro q w2 ⟨rfl, rfl⟩
              go_wp2_with fail
              refine (HS.out _).mono ?_
              rintro q w2 ⟨rfl, rfl⟩
              go_wp2_with ((with_reducible refine at_load4 46 ?_); refine wpList_load_blk 46 _ w.heap.size 5 48 (eraC e) (tilC e.til) _ (by rfl) rfl rfl HB.out Tryz.underlying46 rfl (infoTl _) (part_til _) ?_)
              refine HU.out.mono ?_
              rintro q w3 ⟨rfl, hf3⟩
              go_wp2_with fail
              go_ret
              exact ⟨by rw [HR.out]; rfl, ff4 HF.out hf3⟩
        · rw [decide_eq_false k1] at HR
          have k1' : (e.kind == 1) = false := beq_eq_false_iff_ne.2 k1
          clear k1
          cases h with
          | false =>
            go_enter Tryz.func52, Tryz.ntmps52
            go_wp2_with fail
            refine (HW.out _).mono ?_
            rintro q w2 ⟨rfl, rfl⟩
            go_wp2_with fail
            go_ret
            exact ⟨by rw [HR.out]; rfl, HF.out⟩
          | true =>
            go_enter Tryz.func52, Tryz.ntmps52
            go_wp2_with ((with_reducible refine at_load4 46 ?_); refine wpList_load_blk 46 _ w.heap.size 5 48 (eraC e) (tilC e.til) _ (by rfl) rfl rfl HB.out Tryz.underlying46 rfl (infoTl _) (part_til _) ?_)
            refine (HW.out _).mono ?_
            rintro q w2 ⟨rfl, rfl⟩
            go_wp2_with ((with_reducible refine at_load4 46 ?_); refine wpList_load_blk 46 _ w.heap.size 5 48 (eraC e) (tilC e.til) _ (by rfl) rfl rfl HB.out Tryz.underlying46 rfl (infoTl _) (part_til _) ?_)
            refine HU.out.mono ?_
            rintro q w3 ⟨rfl, hf3⟩
            go_wp2_with fail
            go_ret
            exact ⟨by rw [HR.out]; rfl, ff4 HF.out hf3⟩

set_option maxHeartbeats 3200000 in
set_option maxRecDepth 100000 in
theorem idxE_any (l : List EraL) (A : Option Addr) (cap : Nat) (w : World) (hl : ErasAt w A l) (hn : l.length ≤ 1000) (hw : S6.WOk w) (hz : ∀ x ∈ l, -700000 ≤ x.til.at_.s ∧ x.til.at_.s ≤ 700000) :
    Calls Tryz.prog 79 #[.slice A l.length cap, .func (.func 52) #[] #[]] w fun e w' => ∃ k : Int, e = .returned (intV k) ∧ -1 ≤ k ∧ decide (0 ≤ k) = l.any badE ∧ Fr w w' (fun _ => False) := by
  have HL := Lib.hid hl
  have HPr := Lib.hid (fun (r : EraL) (hr : r ∈ l) W (f : Fr w W (fun _ => False)) => badEra_any r W (hw.fr f) (hz r hr))
  clear hl
  go_enter Tryz.func79, Tryz.ntmps79
  go_wp2_with fail
  go_loopg [5, 8] l.length (fun g _ v8 wr => ∃ i : Nat, i + g = l.length ∧ v8 = intV i ∧ (l.take i).any badE = false ∧ Fr w wr (fun _ => False))
  case atStart => exact ⟨0, by simp, rfl, by simp, Fr.refl _ _⟩
  case round =>
    obtain ⟨i, hi, rfl, hp, hf⟩ := hrel
    have HF := Lib.hid hf
    have HP := Lib.hid hp
    clear hf hp
    by_cases hlt : i < l.length
    · obtain ⟨r, hri⟩ : ∃ r, l[i]? = some r := ⟨l[i], List.getElem?_eq_getElem hlt⟩
      obtain ⟨b5, off, hA, hc⟩ := (HL.out.kept HF.out).at_ hri
      subst hA
      have HQ := Lib.hid (HPr.out r (List.mem_of_getElem? hri) wr HF.out)
      have HT := Lib.hid (show l.take (i + 1) = l.take i ++ [r] by rw [List.take_add_one, hri]; rfl)
      have HM := Lib.hid (List.mem_of_getElem? hri)
      have HCx := Lib.hid hc
      have i0 : (i : Int) < (l.length : Int) := by omega
      clear hri hc
      cases hb : badE r with
      | true =>
        rw [hb] at HQ
        have HB := Lib.hid (show l.any badE = true by rw [List.any_eq_true]; exact ⟨r, HM.out, hb⟩)
        clear hb
        go_wp2_with ((with_reducible refine at_load4 48 ?_); refine wpList_load_at 48 _ b5 (off + i * 13) (eraC r) _ (by rfl) rfl rfl HCx.out Tryz.underlying48 rfl (infoE _) ?_)
        refine HQ.out.mono ?_
        rintro e w2 ⟨rfl, hf2⟩
        go_wp2_with fail
        go_ret
        exact ⟨i, rfl, by omega, by rw [HB.out]; exact decide_eq_true (by omega), ff4 HF.out hf2⟩
      | false =>
        rw [hb] at HQ
        have HB := Lib.hid (show (l.take (i + 1)).any badE = false by rw [HT.out, List.any_append, HP.out]; simp [hb])
        clear hb
        go_wp2_with ((with_reducible refine at_load4 48 ?_); refine wpList_load_at 48 _ b5 (off + i * 13) (eraC r) _ (by rfl) rfl rfl HCx.out Tryz.underlying48 rfl (infoE _) ?_)
        refine HQ.out.mono ?_
        rintro e w2 ⟨rfl, hf2⟩
        have HF2 := Lib.hid (ff4 HF.out hf2)
        clear hf2
        go_wp2_with fail
        go_roundg (l.length - (i + 1))
        case measure => omega
        case rel => exact ⟨i + 1, by omega, by go_num, HB.out, HF2.out⟩
    · obtain rfl : i = l.length := by omega
      have HB := Lib.hid (show l.any badE = false by have h := HP.out; rw [List.take_length] at h; exact h)
      go_wp2_with fail
      go_ret
      exact ⟨-1, rfl, by omega, by rw [HB.out]; rfl, HF.out⟩
theorem conE_any (l : List EraL) (A : Option Addr) (cap : Nat) (w : World) (hl : ErasAt w A l) (hn : l.length ≤ 1000) (hw : S6.WOk w) (hz : ∀ x ∈ l, -700000 ≤ x.til.at_.s ∧ x.til.at_.s ≤ 700000) :
    Calls Tryz.prog 51 #[.slice A l.length cap, .func (.func 52) #[] #[]] w fun e w' => e = .returned (.bool (l.any badE)) ∧ Fr w w' (fun _ => False) := by
  have HI := Lib.hid (idxE_any l A cap w hl hn hw hz)
  clear hl
  generalize l.any badE = b at *
  go_enter Tryz.func51, Tryz.ntmps51
  go_wp2_with fail
  refine HI.out.mono ?_
  rintro e w2 ⟨k, rfl, -, hk, hf⟩
  have HK := Lib.hid hk
  clear hk
  go_wp2_with fail
  go_ret
  exact ⟨by rw [← HK.out]; rfl, hf⟩
end Go.Proofs.YtghcfmoagkimaaaGreatDoor
namespace Go.Proofs.YtghcfmoagkimaaaGreatDoor
open Go.RowKit Go.Mem Go.Lin Go.Xpd Go.Den

/-- what a zone has that isn't too great to be asked: offsets and savings may be any (the law DenPlain asks so) -/
def LightW (v : ZnV) : Prop := v.eras.length ≤ 10 ∧ v.Z.length ≤ 10 ∧ (∀ x ∈ v.Z, LightP x.l 6) ∧ ∀ e ∈ v.eras, -700000 ≤ e.til.at_.s ∧ e.til.at_.s ≤ 700000
theorem LightZ.weak {v : ZnV} (h : LightZ v) : LightW v := ⟨h.1, h.2.1, h.2.2.1, fun e he => ⟨(h.2.2.2 e he).2.2.2.2.1, (h.2.2.2 e he).2.2.2.2.2.1⟩⟩
theorem badR_iff {r : RuleL} : badR r = false ↔ Den.ruleOk r := by unfold badR; simp
theorem badT_iff {s k : Int} : badT s k = false ↔ within s 604799 ∧ 0 ≤ k ∧ k ≤ 2 := by unfold badT; simp
theorem badU_iff {u : UntilL} (h : u.has = true) : badU u = false ↔ (clockD u).2 = true ∧ within u.at_.s 604799 ∧ 0 ≤ u.at_.k ∧ u.at_.k ≤ 2 := by
  unfold badU
  rw [Bool.or_eq_false_iff, badT_iff]
  cases hc : (clockD u).2 with
  | true => rw [clockN_yes h hc]; simp
  | false => rw [clockN_no hc]; simp
theorem badE_iff {e : EraL} : badE e = false ↔ within e.off 86400 ∧ 0 ≤ e.kind ∧ e.kind ≤ 2 ∧ (e.kind = 1 → within e.save 86400) ∧ Den.tilOk e.til := by
  unfold badE badK Den.tilOk
  rw [Bool.or_eq_false_iff, Bool.or_eq_false_iff, Bool.or_eq_false_iff, Bool.or_eq_false_iff, Bool.not_eq_false', decide_eq_true_eq, decide_eq_false_iff_not, decide_eq_false_iff_not, Bool.and_eq_false_iff, Bool.and_eq_false_iff, decide_eq_false_iff_not, Bool.not_eq_false', decide_eq_true_eq]
  constructor
  · rintro ⟨⟨⟨⟨h1, h2⟩, h3⟩, h4⟩, h5⟩
    refine ⟨h1, by omega, by omega, fun hk => ?_, fun hh => ?_⟩
    · rcases h4 with h4 | h4
      · exact absurd hk h4
      · exact h4
    · rcases h5 with h5 | h5
      · rw [hh] at h5; cases h5
      · exact (badU_iff hh).1 h5
  · rintro ⟨h1, h2, h3, h4, h5⟩
    refine ⟨⟨⟨⟨h1, by omega⟩, by omega⟩, ?_⟩, ?_⟩
    · by_cases hk : e.kind = 1
      · exact .inr (h4 hk)
      · exact .inl hk
    · cases hh : e.til.has with
      | false => exact .inl rfl
      | true => exact .inr ((badU_iff hh).2 (h5 hh))
theorem badZ_iff {x : RuV} : badZ x = false ↔ x.l.length ≤ 24 ∧ ∀ r ∈ x.l, Den.ruleOk r := by
  unfold badZ
  rw [Bool.or_eq_false_iff, decide_eq_false_iff_not, List.any_eq_false]
  constructor
  · rintro ⟨h1, h2⟩
    exact ⟨by omega, fun r hr => badR_iff.1 (by have := h2 r hr; simpa using this)⟩
  · rintro ⟨h1, h2⟩
    exact ⟨by omega, fun r hr => by rw [badR_iff.2 (h2 r hr)]; decide⟩
theorem eraOk_iff {e : EraL} {x : RuV} : Den.eraOk e x.l ↔ badE e = false ∧ badZ x = false := by
  rw [badE_iff, badZ_iff]
  unfold Den.eraOk
  constructor
  · rintro ⟨h1, h2, h3, h4, h5, h6, h7⟩
    exact ⟨⟨h1, h2, h3, h4, h7⟩, h5, h6⟩
  · rintro ⟨⟨h1, h2, h3, h4, h7⟩, h5, h6⟩
    exact ⟨h1, h2, h3, h4, h5, h6, h7⟩
instance (v : ZnV) : Decidable (LenOk v) := by unfold LenOk; infer_instance
/-- can all of the zone's numbers be? -/
def fitB (v : ZnV) : Bool := decide (LenOk v) && (!v.eras.any badE && !v.Z.any badZ)
theorem fit_len {v : ZnV} (h : ¬ LenOk v) : fitB v = false := by unfold fitB; rw [decide_eq_false h]; rfl
theorem fit_eq {v : ZnV} (h : LenOk v) : fitB v = (!v.eras.any badE && !v.Z.any badZ) := by unfold fitB; rw [decide_eq_true h]; rfl
theorem fit_yes {v : ZnV} (h : fitB v = true) : LenOk v ∧ ErasOk v v.eras.length := by
  by_cases hl : LenOk v
  · rw [fit_eq hl, Bool.and_eq_true, Bool.not_eq_true', Bool.not_eq_true', List.any_eq_false, List.any_eq_false] at h
    refine ⟨hl, fun j e x _ he hx => eraOk_iff.2 ⟨?_, ?_⟩⟩
    · simpa using h.1 e (List.mem_of_getElem? he)
    · simpa using h.2 x (List.mem_of_getElem? hx)
  · rw [fit_len hl] at h; cases h
theorem fit_no {v : ZnV} (h : fitB v = false) : rightD (znD v) = 1 := by
  by_cases hl : LenOk v
  · rw [fit_eq hl, Bool.and_eq_false_iff, Bool.not_eq_false', Bool.not_eq_false', List.any_eq_true, List.any_eq_true] at h
    obtain ⟨l1, l2, l3⟩ := hl
    rcases h with ⟨e, he, hb⟩ | ⟨x, hx, hb⟩
    · obtain ⟨j, hj⟩ := List.mem_iff_getElem?.1 he
      have hj2 := (List.getElem?_eq_some_iff.1 hj).1
      refine right_bad ⟨l1, l2, l3⟩ hj (List.getElem?_eq_getElem (by omega)) fun hc => ?_
      rw [(eraOk_iff.1 hc).1] at hb
      cases hb
    · obtain ⟨j, hj⟩ := List.mem_iff_getElem?.1 hx
      have hj2 := (List.getElem?_eq_some_iff.1 hj).1
      refine right_bad ⟨l1, l2, l3⟩ (List.getElem?_eq_getElem (by omega)) hj fun hc => ?_
      rw [(eraOk_iff.1 hc).2] at hb
      cases hb
  · exact right_len hl
theorem fit_light {v : ZnV} (h : fitB v = true) (hW : LightW v) : LightV v := by
  obtain ⟨⟨l1, l2, l3⟩, he⟩ := fit_yes h
  refine ⟨hW.1, hW.2.1, hW.2.2.1, fun e hm => ?_⟩
  obtain ⟨j, hj⟩ := List.mem_iff_getElem?.1 hm
  have hj2 := (List.getElem?_eq_some_iff.1 hj).1
  have hok := he j e _ hj2 hj (List.getElem?_eq_getElem (by omega))
  obtain ⟨g1, -, -, g4, -⟩ := hok
  unfold within at g1
  refine ⟨by omega, by omega, fun hk => ?_, (hW.2.2.2 e hm).1, (hW.2.2.2 e hm).2⟩
  have := g4 hk
  unfold within at this
  omega
set_option maxHeartbeats 3200000 in
set_option maxRecDepth 100000 in
theorem fit_any (v : ZnV) (w : World) (hw : S6.WOk w) (hv : ZnAt w v) (hL : LightW v) : Calls Tryz.prog 31 #[.agg (zoneC v)] w fun q w' => q = .returned (.bool (fitB v)) ∧ Fr w w' (fun _ => False) := by
  have hf := Fr.new w (.cells (zoneC v) 33) (fun _ => False)
  have HF := Lib.hid hf
  have hb := Blk.made w 33 (zoneC v)
  have c0 : (w.alloc (.cells (zoneC v) 33)).cell? ⟨w.heap.size, 0, none⟩ = some (.slice v.Ae v.eras.length v.ce) := blkc hb 0 _ rfl
  have c1 : (w.alloc (.cells (zoneC v) 33)).cell? ⟨w.heap.size, 1, none⟩ = some (.slice v.Ar v.Z.length v.cr) := blkc hb 1 _ rfl
  have HC1 := Lib.hid c1
  have HE := Lib.hid (conE_any v.eras v.Ae v.ce _ (hv.e.kept hf) (by have := hL.1; omega) (hw.fr hf) hL.2.2.2)
  have HZ := Lib.hid (fun W (f : Fr w W (fun _ => False)) => conZ_any v.Z v.Ar v.cr W (hv.r.kept f) (by have := hL.2.1; omega) (fun x hx => by have := (hL.2.2.1 x hx).1; omega))
  have HNo := Lib.hid (fit_len (v := v))
  have HY := Lib.hid (fit_eq (v := v))
  have l1 := hL.1
  have l2 := hL.2.1
  clear hf hb hv hw hL
  generalize v.eras.any badE = b1 at *
  generalize v.Z.any badZ = b2 at *
  have h4 : v.eras.length = 0 ∨ (v.eras.length ≠ 0 ∧ 8 < v.eras.length) ∨ (v.eras.length ≠ 0 ∧ v.eras.length ≤ 8 ∧ v.Z.length ≠ v.eras.length) ∨ (v.eras.length ≠ 0 ∧ v.eras.length ≤ 8 ∧ v.Z.length = v.eras.length) := by omega
  rcases h4 with g1 | ⟨g1, g2⟩ | ⟨g1, g2, g3⟩ | ⟨g1, g2, g3⟩
  · have HR := Lib.hid (HNo.out (by unfold LenOk; omega))
    have k0 : ((v.eras.length : Int) == 0) = true := by rw [beq_iff_eq]; omega
    clear g1 HNo HY
    go_enter Tryz.func31, Tryz.ntmps31
    go_wp2_with fail
    go_ret
    exact ⟨by rw [HR.out]; rfl, HF.out⟩
  · have HR := Lib.hid (HNo.out (by unfold LenOk; omega))
    have k0 : ((v.eras.length : Int) == 0) = false := by rw [beq_eq_false_iff_ne]; omega
    have k8 : 8 < (v.eras.length : Int) := by omega
    clear g1 g2 HNo HY
    go_enter Tryz.func31, Tryz.ntmps31
    go_wp2_with fail
    go_ret
    exact ⟨by rw [HR.out]; rfl, HF.out⟩
  · have HR := Lib.hid (HNo.out (by unfold LenOk; omega))
    have k0 : ((v.eras.length : Int) == 0) = false := by rw [beq_eq_false_iff_ne]; omega
    have k8 : (v.eras.length : Int) ≤ 8 := by omega
    have k9 : ((v.Z.length : Int) != (v.eras.length : Int)) = true := by rw [bne_iff_ne]; omega
    clear g1 g2 g3 HNo HY
    go_enter Tryz.func31, Tryz.ntmps31
    go_wp2_with fail
    go_ret
    exact ⟨by rw [HR.out]; rfl, HF.out⟩
  · have HR := Lib.hid (HY.out (by unfold LenOk; omega))
    have k0 : ((v.eras.length : Int) == 0) = false := by rw [beq_eq_false_iff_ne]; omega
    have k8 : (v.eras.length : Int) ≤ 8 := by omega
    have k9 : ((v.Z.length : Int) != (v.eras.length : Int)) = false := by rw [bne_eq_false_iff_eq]; omega
    clear g1 g2 g3 HNo HY
    cases b1 with
    | true =>
      go_enter Tryz.func31, Tryz.ntmps31
      go_wp2_with fail
      refine HE.out.mono ?_
      rintro q w2 ⟨rfl, hf2⟩
      go_wp2_with fail
      go_ret
      exact ⟨by rw [HR.out]; rfl, ff4 HF.out hf2⟩
    | false =>
      go_enter Tryz.func31, Tryz.ntmps31
      go_wp2_with fail
      refine HE.out.mono ?_
      rintro q w2 ⟨rfl, hf2⟩
      have HF2 := Lib.hid (ff4 HF.out hf2)
      have d1 : w2.cell? ⟨w.heap.size, 1, none⟩ = some (.slice v.Ar v.Z.length v.cr) := cell_far hf2 HC1.out (fun h => h)
      clear hf2 c0 c1
      go_wp2_with fail
      refine (HZ.out _ HF2.out).mono ?_
      rintro q w3 ⟨rfl, hf3⟩
      go_wp2_with fail
      go_ret
      exact ⟨by rw [HR.out]; rfl, ff4 HF2.out hf3⟩
end Go.Proofs.YtghcfmoagkimaaaGreatDoor
namespace Go.Proofs.YtghcfmoagkimaaaGreatDoor
open Go.RowKit Go.Mem Go.Lin Go.Xpd Go.Den

/- the ends of all eras but the last one -/
def endsL (v : ZnV) (m : Nat) : List Int := (List.range m).map fun i => endD (znD v) i
theorem endsL_len (v : ZnV) (m : Nat) : (endsL v m).length = m := by unfold endsL; simp
theorem endsL_step (v : ZnV) (m : Nat) : endsL v (m + 1) = endsL v m ++ [endD (znD v) m] := by unfold endsL; rw [List.range_succ, List.map_append]; rfl
theorem endsL_at {v : ZnV} {m i : Nat} (h : i < m) : (endsL v m)[i]? = some (endD (znD v) i) := by unfold endsL; rw [List.getElem?_map, List.getElem?_range h]; rfl
abbrev IntsO (w : World) (base : Nat) (v : Value) (l : List Int) : Prop := Own w base 2 1 intL v l
theorem infoI64 : (Tryz.prog.info? 2).map (fun i => (i.zero, i.size, i.bytes)) = some (some (intV 0), 1, 8) := by kernel_rfl
theorem ints_at {w : World} {base : Nat} {A : Option Addr} {c : Nat} {l : List Int} (h : IntsO w base (.slice A l.length c) l) {i : Nat} {x : Int} (hx : l[i]? = some x) : ∃ b off, A = some ⟨b, off, none⟩ ∧ w.cell? ⟨b, off + i, none⟩ = some (intV x) := by
  obtain ⟨A', c', e, -, -, hr⟩ := h.rd
  obtain ⟨rfl, rfl⟩ : A = A' ∧ c = c' := by simpa using e
  obtain ⟨b, off, e, hc⟩ := rows_at (fun x => (rfl : (intL x).length = 1)) hr hx
  have := hc 0 (show 0 < 1 by omega)
  rw [Nat.mul_one, Nat.add_zero] at this
  exact ⟨b, off, e, this⟩
/-- what ends answers -/
def EndsR (v : ZnV) (w : World) (q : Ending) (w' : World) : Prop := ∃ r, q = .returned (.tuple #[r, intV (rightD (znD v))]) ∧ (rightD (znD v) = 0 → ∃ (m : Nat) (A : Option Addr) (c : Nat), v.eras.length = m + 1 ∧ r = .slice A m c ∧ IntsO w' w.heap.size (.slice A (endsL v m).length c) (endsL v m)) ∧ Fr w w' (fun _ => False)
set_option maxHeartbeats 6400000 in
set_option maxRecDepth 100000 in
theorem ends_any (v : ZnV) (w : World) (hw : S6.WOk w) (hv : ZnAt w v) (hR : ZnR v) (hL : LightW v) : Calls Tryz.prog 17 #[.agg (zoneC v)] w (EndsR v w) := by
  have hf := Fr.new w (.cells (zoneC v) 33) (fun _ => False)
  have HF1 := Lib.hid hf
  have HB1 := Lib.hid (Blk.made w 33 (zoneC v))
  have c0 : (w.alloc (.cells (zoneC v) 33)).cell? ⟨w.heap.size, 0, none⟩ = some (.slice v.Ae v.eras.length v.ce) := blkc HB1.out 0 _ rfl
  have HFi := Lib.hid (fit_any v _ (hw.fr hf) (hv.kept hf) hL)
  cases hfi : fitB v with
  | false =>
    have HN := Lib.hid (fit_no hfi)
    rw [hfi] at HFi
    clear hf hfi hw hv hR hL
    go_enter Tryz.func17, Tryz.ntmps17
    go_wp2_with ((with_reducible refine at_load4 33 ?_); refine wpList_load_blk 33 _ w.heap.size 0 33 (zoneC v) (zoneC v) _ (by rfl) rfl rfl HB1.out Tryz.underlying33 rfl (infoDn _) (zero_part _) ?_)
    refine HFi.out.mono ?_
    rintro q w2 ⟨rfl, hf2⟩
    go_wp2_with fail
    go_ret2
    exact ⟨_, by rw [HN.out]; rfl, fun h => (by rw [HN.out] at h; cases h), ff4 HF1.out hf2⟩
  | true =>
    obtain ⟨hlo, heo⟩ := fit_yes hfi
    have HLo := Lib.hid hlo
    have HEo := Lib.hid heo
    have HLv := Lib.hid (fit_light hfi hL)
    have HEn := Lib.hid (fun i (hi : i < v.eras.length) W (f : Fr w W (fun _ => False)) => nEnd_gen v i W (hw.fr f) (hv.kept f) hR HLv.out hi)
    rw [hfi] at HFi
    obtain ⟨m, hm⟩ : ∃ m, v.eras.length = m + 1 := ⟨v.eras.length - 1, by have := hlo.1; omega⟩
    have HM := Lib.hid hm
    have HV := Lib.hid hv
    have hm8 : m ≤ 7 := by have := hlo.2.1; omega
    have n1 : (v.eras.length : Int) - 1 = (m : Int) := by omega
    have HC0 := Lib.hid c0
    clear hf hfi hw hv hR hL hlo heo hm
    go_enter Tryz.func17, Tryz.ntmps17
    go_wp2_with ((with_reducible refine at_load4 33 ?_); refine wpList_load_blk 33 _ w.heap.size 0 33 (zoneC v) (zoneC v) _ (by rfl) rfl rfl HB1.out Tryz.underlying33 rfl (infoDn _) (zero_part _) ?_)
    refine HFi.out.mono ?_
    rintro q w2 ⟨rfl, hf2⟩
    have HF2 := Lib.hid (ff4 HF1.out hf2)
    have HB2 := Lib.hid (hf2.blk HB1.out (fun h => h))
    obtain ⟨ae, hae⟩ : ∃ ae, ae = v.Ae := ⟨_, rfl⟩
    have HAe := Lib.hid hae
    have d0 : w2.cell? ⟨w.heap.size, 0, none⟩ = some (.slice ae v.eras.length v.ce) := by rw [hae]; exact cell_far hf2 HC0.out (fun h => h)
    clear hf2 c0 hae
    go_wp2_with fail
    go_loopg [5, 6, 7, 19] v.eras.length (fun g v5 _ _ v19 wr => ∃ (i k : Nat) (A : Option Addr) (c : Nat), i + g = v.eras.length ∧ v19 = intV i ∧ k = min i m ∧ v5 = .slice A k c ∧ IntsO wr w.heap.size (.slice A k c) (endsL v k) ∧ OpensOk v i ∧ Blk wr w.heap.size 33 (zoneC v) ∧ Fr w wr (fun _ => False))
    case atStart => exact ⟨0, 0, none, 0, by simp, rfl, by omega, rfl, own_none _ _ _ _ _, fun j e hj => absurd hj (Nat.not_lt_zero j), HB2.out, HF2.out⟩
    case round =>
      obtain ⟨i, k, A5, c5, hi, rfl, hk, rfl, ho, hop, hb, hf⟩ := hrel
      have HF := Lib.hid hf
      have HO := Lib.hid ho
      have HB := Lib.hid hb
      have HOp := Lib.hid hop
      have HKm := Lib.hid hk
      clear hf ho hb hop hk
      by_cases hlt : i < v.eras.length
      · obtain ⟨e, he⟩ : ∃ e, v.eras[i]? = some e := ⟨v.eras[i], List.getElem?_eq_getElem hlt⟩
        obtain ⟨b5, off, hA, hc⟩ := (HV.out.e.kept HF.out).at_ he
        have hA := HAe.out.trans hA
        subst hA
        have HCx := Lib.hid hc
        have HEe := Lib.hid he
        have i0 : (i : Int) < (v.eras.length : Int) := by omega
        have HNe := Lib.hid (Fr.new wr (.cells (eraC eraZ) 48) (fun _ => False))
        have HBe := Lib.hid (show Blk _ wr.heap.size 48 (eraC eraZ) from Blk.made wr 48 (eraC eraZ))
        clear hc he
        by_cases him : i < m
        · have k1 : ((i : Int) == (m : Int)) = false := by rw [beq_eq_false_iff_ne]; omega
          have k2 : (i : Int) < (m : Int) := by omega
          cases hh : e.til.has with
          | false =>
            have HR := Lib.hid (right_open HLo.out HEo.out HEe.out (by rw [hh, decide_eq_true (by have := HM.out; omega)]; decide))
            have HH := Lib.hid hh
            clear hh
            go_wp2_with (first
              | ((with_reducible refine at_load4 48 ?_); refine wpList_load_at 48 _ b5 (off + i * 13) (eraC e) _ (by rfl) rfl rfl HCx.out Tryz.underlying48 rfl (infoE _) ?_)
              | ((with_reducible refine at_store4 48 ?_); refine wpList_store_blk 48 _ _ wr.heap.size 0 48 (eraC eraZ) (eraC e) (eraC e) (by rfl) rfl rfl rfl rfl HBe.out (infoE _) (eraC_one _) (show 0 + 13 ≤ 13 by decide) (put_er _ _) ?_
                 intro W3 hf3 hb3
                 have hf3' := HNe.out.fresh hf3 (fun i e => by have e : i = wr.heap.size := e; omega)
                 have HF3 := Lib.hid (ff4 HF.out hf3')
                 have HO3 := Lib.hid (HO.out.kept hf3')
                 have HB3 := Lib.hid (hf3'.blk HB.out (fun h => h))
                 have e5 : W3.cell? ⟨wr.heap.size, 5, none⟩ = some (.bool false) := by rw [← HH.out]; exact blkc hb3 5 _ rfl
                 clear hf3 hf3' hb3 HNe HBe))
            go_ret2
            exact ⟨_, by rw [HR.out]; rfl, fun h => (by rw [HR.out] at h; cases h), HF3.out⟩
          | true =>
            have HOn := Lib.hid (HOp.out.step HEe.out (by rw [hh, decide_eq_true (by have := HM.out; omega)]))
            have HH := Lib.hid hh
            have HQ := Lib.hid (HEn.out i hlt)
            have HSt := Lib.hid (endsL_step v i)
            have hki : i = k := by have := HKm.out; omega
            subst hki
            obtain ⟨E, hE⟩ : ∃ E, endD (znD v) i = E := ⟨_, rfl⟩
            rw [hE] at HQ HSt
            clear hh hE
            go_wp2_with (first
              | ((with_reducible refine at_load4 48 ?_); refine wpList_load_at 48 _ b5 (off + i * 13) (eraC e) _ (by rfl) rfl rfl HCx.out Tryz.underlying48 rfl (infoE _) ?_)
              | ((with_reducible refine at_store4 48 ?_); refine wpList_store_blk 48 _ _ wr.heap.size 0 48 (eraC eraZ) (eraC e) (eraC e) (by rfl) rfl rfl rfl rfl HBe.out (infoE _) (eraC_one _) (show 0 + 13 ≤ 13 by decide) (put_er _ _) ?_
                 intro W3 hf3 hb3
                 have hf3' := HNe.out.fresh hf3 (fun i e => by have e : i = wr.heap.size := e; omega)
                 have HF3 := Lib.hid (ff4 HF.out hf3')
                 have HO3 := Lib.hid (HO.out.kept hf3')
                 have HB3 := Lib.hid (hf3'.blk HB.out (fun h => h))
                 have e5 : W3.cell? ⟨wr.heap.size, 5, none⟩ = some (.bool true) := by rw [← HH.out]; exact blkc hb3 5 _ rfl
                 clear hf3 hf3' hb3 HNe HBe)
              | ((with_reducible refine at_load4 33 ?_); refine wpList_load_blk 33 _ w.heap.size 0 33 (zoneC v) (zoneC v) _ (by rfl) rfl rfl HB3.out Tryz.underlying33 rfl (infoDn _) (zero_part _) ?_))
            refine (HQ.out _ HF3.out).mono ?_
            rintro q w5 ⟨rfl, hf5⟩
            have HF5 := Lib.hid (ff4 HF3.out hf5)
            have HO5 := Lib.hid (HO3.out.kept hf5)
            have HB5 := Lib.hid (hf5.blk HB3.out (fun h => h))
            clear hf5
            go_wp2_with (first
              | ((with_reducible refine at_slice4 (y := .tmp 37) 59 ?_); refine wpList_made (t := 59) (e := 2) (y := .tmp 37) (v := intV E) #[intV E] (by rfl) rfl rfl (fun _ => by kernel_rfl) ?_
                 intro Wm hfm hsm hbm hrm
                 have HFm := Lib.hid (ff4 HF5.out hfm)
                 have HOm := Lib.hid (HO5.out.kept hfm)
                 have HBm := Lib.hid (hfm.blk HB5.out (fun h => h))
                 have HXm := Lib.hid hrm
                 clear hfm hsm hbm hrm)
              | ((with_reducible refine at_append4 (.tmp 34) (.tmp 38) ?_); refine wpList_append1 (f := intL) (.tmp 34) (.tmp 38) 59 rfl rfl w.heap.size 2 _ 1 8 Tryz.underlying59 infoI64 rfl (by decide) _ rfl HOm.out _ 1 E #[intV E].toList rfl HXm.out rfl (one_made (cs := #[intV E]) (by simp [Value.oneCell'])) (by rw [endsL_len]; omega) (by decide) HFm.out.size ?_
                 intro A9 c9 W9 ho9 hf9
                 have HO9 := Lib.hid ho9
                 have HF9 := Lib.hid (HFm.out.fresh hf9 (fun i e => (own_block HOm.out e.symm).1))
                 have HB9 := Lib.hid (hf9.blk HBm.out (fun e => own_apart HOm.out HBm.out (by decide) e.symm))
                 clear ho9 hf9))
            go_roundg (v.eras.length - (i + 1))
            case measure => omega
            case rel => exact ⟨i + 1, (endsL v i).length + 1, A9, c9, by omega, by go_num, by rw [endsL_len]; omega, rfl, by rw [← HSt.out] at HO9; rw [endsL_len]; have h := HO9.out; rw [endsL_len] at h; exact h, HOn.out, HB9.out, HF9.out⟩
        · have him : i = m := by have := HM.out; omega
          subst him
          have k1 : ((i : Int) == (i : Int)) = true := by rw [beq_iff_eq]
          have k2 : ¬ (i : Int) < (i : Int) := by omega
          have hki : i = k := by have := HKm.out; omega
          subst hki
          cases hh : e.til.has with
          | true =>
            have HR := Lib.hid (right_open HLo.out HEo.out HEe.out (by rw [hh, decide_eq_false (by have := HM.out; omega)]; decide))
            have HH := Lib.hid hh
            clear hh
            go_wp2_with (first
              | ((with_reducible refine at_load4 48 ?_); refine wpList_load_at 48 _ b5 (off + i * 13) (eraC e) _ (by rfl) rfl rfl HCx.out Tryz.underlying48 rfl (infoE _) ?_)
              | ((with_reducible refine at_store4 48 ?_); refine wpList_store_blk 48 _ _ wr.heap.size 0 48 (eraC eraZ) (eraC e) (eraC e) (by rfl) rfl rfl rfl rfl HBe.out (infoE _) (eraC_one _) (show 0 + 13 ≤ 13 by decide) (put_er _ _) ?_
                 intro W3 hf3 hb3
                 have hf3' := HNe.out.fresh hf3 (fun i e => by have e : i = wr.heap.size := e; omega)
                 have HF3 := Lib.hid (ff4 HF.out hf3')
                 have HO3 := Lib.hid (HO.out.kept hf3')
                 have HB3 := Lib.hid (hf3'.blk HB.out (fun h => h))
                 have e5 : W3.cell? ⟨wr.heap.size, 5, none⟩ = some (.bool true) := by rw [← HH.out]; exact blkc hb3 5 _ rfl
                 clear hf3 hf3' hb3 HNe HBe))
            go_ret2
            exact ⟨_, by rw [HR.out]; rfl, fun h => (by rw [HR.out] at h; cases h), HF3.out⟩
          | false =>
            have HOn := Lib.hid (HOp.out.step HEe.out (by rw [hh, decide_eq_false (by have := HM.out; omega)]))
            have HH := Lib.hid hh
            clear hh
            go_wp2_with (first
              | ((with_reducible refine at_load4 48 ?_); refine wpList_load_at 48 _ b5 (off + i * 13) (eraC e) _ (by rfl) rfl rfl HCx.out Tryz.underlying48 rfl (infoE _) ?_)
              | ((with_reducible refine at_store4 48 ?_); refine wpList_store_blk 48 _ _ wr.heap.size 0 48 (eraC eraZ) (eraC e) (eraC e) (by rfl) rfl rfl rfl rfl HBe.out (infoE _) (eraC_one _) (show 0 + 13 ≤ 13 by decide) (put_er _ _) ?_
                 intro W3 hf3 hb3
                 have hf3' := HNe.out.fresh hf3 (fun i e => by have e : i = wr.heap.size := e; omega)
                 have HF3 := Lib.hid (ff4 HF.out hf3')
                 have HO3 := Lib.hid (HO.out.kept hf3')
                 have HB3 := Lib.hid (hf3'.blk HB.out (fun h => h))
                 have e5 : W3.cell? ⟨wr.heap.size, 5, none⟩ = some (.bool false) := by rw [← HH.out]; exact blkc hb3 5 _ rfl
                 clear hf3 hf3' hb3 HNe HBe))
            go_roundg (v.eras.length - (i + 1))
            case measure => omega
            case rel => exact ⟨i + 1, i, A5, c5, by omega, by go_num, by omega, rfl, HO3.out, HOn.out, HB3.out, HF3.out⟩
      · obtain rfl : i = v.eras.length := by omega
        have hkm : m = k := by have := HKm.out; have := HM.out; omega
        subst hkm
        go_wp2_with fail
        obtain ⟨wo, rfl⟩ : ∃ x, x = wr := ⟨_, rfl⟩
        go_loopg [8] m (fun g v8 wq => ∃ j : Nat, v8 = intV j ∧ 1 ≤ j ∧ m + 1 - j = g ∧ (∀ q, q + 1 < j → endD (znD v) q < endD (znD v) (q + 1)) ∧ Fr wo wq (fun _ => False))
        case atStart => exact ⟨1, rfl, Nat.le_refl _, rfl, fun q hq => by omega, Fr.refl _ _⟩
        case round =>
          obtain ⟨j, rfl, hj1, hg, hri, hfq⟩ := hrel
          have HFq := Lib.hid (ff4 HF.out hfq)
          have HFo := Lib.hid hfq
          have HRi := Lib.hid hri
          have HOq := Lib.hid (HO.out.kept hfq)
          clear hri hfq
          by_cases hjm : j < m
          · obtain ⟨q, hq⟩ : ∃ q : Nat, (q : Int) = (j : Int) - 1 := ⟨j - 1, by omega⟩
            have HJ := Lib.hid (show j = q + 1 by omega)
            obtain ⟨E1, hE1⟩ : ∃ E1, endD (znD v) j = E1 := ⟨_, rfl⟩
            obtain ⟨E0, hE0⟩ : ∃ E0, endD (znD v) q = E0 := ⟨_, rfl⟩
            have hOl : IntsO wr w.heap.size (.slice A5 (endsL v m).length c5) (endsL v m) := by rw [endsL_len]; exact HOq.out
            obtain ⟨b5, off, hA, x1⟩ := ints_at hOl (endsL_at hjm)
            obtain ⟨b6, off6, hA6, x0⟩ := ints_at hOl (endsL_at (show q < m by omega))
            rw [hE1] at x1
            rw [hE0] at x0
            rw [hA] at hA6
            obtain ⟨rfl, rfl⟩ : b5 = b6 ∧ off = off6 := by simpa using hA6
            have j0 : (0 : Int) ≤ (j : Int) := by omega
            have j1 : (j : Int) < (m : Int) := by omega
            have q0 : (0 : Int) ≤ (q : Int) := by omega
            have q1 : (q : Int) < (m : Int) := by omega
            have hwq : IntKind.i64.wrap ((j : Int) - 1) = (q : Int) := by rw [IntKind.wrap_i64]; omega
            have HE1 := Lib.hid hE1
            have HE0 := Lib.hid hE0
            subst hA
            clear hOl hA6 hE1 hE0 hq
            by_cases hle : E1 ≤ E0
            · have hd : decide (E1 ≤ E0) = true := decide_eq_true hle
              have HR := Lib.hid (right_fall HLo.out HEo.out HOp.out (i := q) (by have := HJ.out; have := HM.out; omega) (by rw [HE0.out, ← HJ.out, HE1.out]; exact hle))
              clear hle
              go_wp2_with fail
              go_quiet (fail)
              go_wp2_with fail
              go_ret2
              exact ⟨_, by rw [HR.out]; rfl, fun h => (by rw [HR.out] at h; cases h), ff4 HFq.out (Fr.drewN _ _ _)⟩
            · have hd : decide (E1 ≤ E0) = false := decide_eq_false hle
              have HN := Lib.hid (show ∀ k, k + 1 < j + 1 → endD (znD v) k < endD (znD v) (k + 1) from fun k hk => by
                by_cases e : k + 1 < j
                · exact HRi.out k e
                · have e : k = q := by have := HJ.out; omega
                  subst e
                  rw [HE0.out, ← HJ.out, HE1.out]
                  omega)
              clear hle
              go_wp2_with fail
              go_quiet (fail)
              go_wp2_with fail
              go_roundg (m + 1 - (j + 1))
              case measure => omega
              case rel => exact ⟨j + 1, by go_num, by omega, rfl, HN.out, ff4 HFo.out (Fr.drewN _ _ _)⟩
          · have HR := Lib.hid (right_fine HLo.out HEo.out HOp.out (fun k hk => HRi.out k (by have := HM.out; omega)))
            have j1 : ¬ (j : Int) < (m : Int) := by omega
            go_wp2_with fail
            go_ret2
            exact ⟨_, by rw [HR.out]; rfl, fun _ => ⟨m, A5, c5, HM.out, rfl, by rw [endsL_len]; exact HOq.out⟩, HFq.out⟩
end Go.Proofs.YtghcfmoagkimaaaGreatDoor
