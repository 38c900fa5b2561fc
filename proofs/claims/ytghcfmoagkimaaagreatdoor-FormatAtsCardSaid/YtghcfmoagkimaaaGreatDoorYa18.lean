import Derived.Test.YtghcfmoagkimaaaGreatDoorYa17
namespace Go.Proofs.YtghcfmoagkimaaaGreatDoor
open Go.RowKit Go.Mem Go.Lin Go.Xpd

section
variable {P : Program} {ops : Array Oper} {rest : List Oper} {a : Act} {w : World} {Q : Exit → Act → World → Prop}
theorem at_slice4 {d : Option Tmp} {y : Operand} {ty : TypeId} {pos : String} {af : Array Edge} {g : Option (Nat × Bool)} (t : TypeId) (h : wpList P ops Q (⟨d, .buildSlice t 1 #[(0, y)], ty, pos, af, g⟩ :: rest) a w) : wpList P ops Q (⟨d, .buildSlice t 1 #[(0, y)], ty, pos, af, g⟩ :: rest) a w := h
theorem at_append4 {d : Option Tmp} {t : TypeId} {ty : TypeId} {pos : String} {af : Array Edge} {g : Option (Nat × Bool)} (s x : Operand) (h : wpList P ops Q (⟨d, .call { callee := .builtin .append, args := #[s, x], argTypes := #[t, t] }, ty, pos, af, g⟩ :: rest) a w) : wpList P ops Q (⟨d, .call { callee := .builtin .append, args := #[s, x], argTypes := #[t, t] }, ty, pos, af, g⟩ :: rest) a w := h
end
theorem info_xfire : (Tryz.prog.info? 166).map (fun i => (i.zero, i.size, i.bytes)) = some (some (fireV f0), 4, 32) := by kernel_rfl
abbrev XFires (w : World) (base : Nat) (v : Value) (l : List FireL) : Prop := Own w base 166 4 fireL v l
abbrev seatM (r : RuleL) (p : Int) : Value := .func (.func 120) #[.agg (seatC r p)] #[]
theorem gath_none {r : RuleL} {p a : Int} {n : Nat} (h : fireR r p (a + n) = none) : gathD r p a (n + 1) = gathD r p a n := by
  show gathD r p a n ++ (fireR r p (a + n)).toList = _
  rw [h]; simp
theorem gath_some {r : RuleL} {p a : Int} {n : Nat} {f : FireL} (h : fireR r p (a + n) = some f) : gathD r p a (n + 1) = gathD r p a n ++ [f] := by
  show gathD r p a n ++ (fireR r p (a + n)).toList = _
  rw [h]; rfl
theorem fire_none {r : RuleL} {p y : Int} (h : fireR r p y = none) (w : World) (hw : S6.WOk w) (hs : -700000 ≤ r.at_.s ∧ r.at_.s ≤ 700000) : Calls Tryz.prog 120 #[.agg (seatC r p), intV y] w fun e w' => e = .returned (.tuple #[fireV f0, .bool false]) ∧ Fr w w' (fun _ => False) := by
  have := fire_any r p y w hw hs
  rw [h] at this
  exact this
theorem fire_some {r : RuleL} {p y : Int} {f : FireL} (h : fireR r p y = some f) (w : World) (hw : S6.WOk w) (hs : -700000 ≤ r.at_.s ∧ r.at_.s ≤ 700000) : Calls Tryz.prog 120 #[.agg (seatC r p), intV y] w fun e w' => e = .returned (.tuple #[fireV f, .bool true]) ∧ Fr w w' (fun _ => False) := by
  have := fire_any r p y w hw hs
  rw [h] at this
  exact this
/- only rows of fires of the call's own turn -/
abbrev TF (w0 w w' : World) : Prop := Fr w w' (TB w0.heap.size 166 w)
theorem tf_of {w0 w w' : World} (h : Fr w w' (fun _ => False)) : TF w0 w w' := h.mono fun _ _ h => h.elim
theorem tf_trans {w0 a b c : World} (h : TF w0 a b) (k : TF w0 b c) : TF w0 a c := by
  refine h.trans k (fun _ _ h => h) (fun i hi ⟨h1, cs, h2⟩ => ?_)
  by_cases e : TB w0.heap.size 166 a i
  · exact e
  · refine ⟨h1, cs, ?_⟩
    have := h.block i hi e
    unfold Blk at h2 ⊢
    rw [← this]; exact h2
theorem tf_far {w0 w w' : World} (hf : TF w0 w w') {g : Nat} {t : TypeId} {cs : Array Value} (hb : Blk w g t cs) (hne : t ≠ 166) : Blk w' g t cs := hf.blk hb fun h => hne (blk_same hb h.2.choose_spec)
theorem tf_low {w0 w w' : World} (h0 : Fr w0 w (fun _ => False)) (hf : TF w0 w w') : Fr w0 w' (fun _ => False) := h0.fresh hf fun _ h => h.1
set_option maxHeartbeats 3200000 in
set_option maxRecDepth 100000 in
theorem gather_any (r : RuleL) (p : Int) (F : List FireL) (v : Value) (a b : Int) (w0 w : World) (hw : S6.WOk w0) (hf : Fr w0 w (fun _ => False)) (ho : XFires w w0.heap.size v F) (hF : F.length ≤ 20000) (hs : -700000 ≤ r.at_.s ∧ r.at_.s ≤ 700000)
    (ha : -30000 ≤ a ∧ a ≤ 30000) (_hb : -30000 ≤ b ∧ b ≤ 30000) (hab : b - a ≤ 40) :
    Calls Tryz.prog 140 #[v, seatM r p, intV a, intV b] w fun e w' => ∃ v', e = .returned v' ∧ XFires w' w0.heap.size v' (F ++ gathD r p a (cntY a b)) ∧ TF w0 w w' := by
  have HW := Lib.hid hw
  have HSe := Lib.hid hs
  have HF0 := Lib.hid hf
  obtain ⟨A0, c0, rfl⟩ := ho.slice
  have HO0 := Lib.hid ho
  clear hf ho hw hs
  go_enter Tryz.func140, Tryz.ntmps140
  go_wp2_with fail
  go_loopg [0, 9, 10, 11] 100 (fun g v0 v9 _ _ wr => ∃ n : Nat, v9 = intV (a + n) ∧ (n = 0 ∨ a + n ≤ b + 1) ∧ b + 1 - (a + n) ≤ g ∧ XFires wr w0.heap.size v0 (F ++ gathD r p a n) ∧ TF w0 w wr)
  case atStart => exact ⟨0, by rw [show a + ((0 : Nat) : Int) = a by omega], .inl rfl, by omega, by rw [show gathD r p a 0 = [] from rfl, List.append_nil]; exact HO0.out, Fr.refl _ _⟩
  case round =>
    obtain ⟨n, rfl, hn0, hg, ho, hf⟩ := hrel
    obtain ⟨A1, c1, rfl⟩ := ho.slice
    obtain ⟨G, hGk⟩ : ∃ G, gk = G := ⟨_, rfl⟩
    rw [hGk] at hg
    have HT := Lib.hid hf
    have HF := Lib.hid (tf_low HF0.out hf)
    have HO := Lib.hid ho
    obtain ⟨y, hyv⟩ : ∃ y : Int, a + n = y := ⟨_, rfl⟩
    have HYv := Lib.hid hyv
    have hn1 : n ≤ 41 := by omega
    have hgl := gathD_len r p a n
    obtain ⟨L, hL⟩ : ∃ L, F ++ gathD r p a n = L := ⟨_, rfl⟩
    have hLl : L.length ≤ 30000 := by rw [← hL, List.length_append]; omega
    have HL := Lib.hid hL
    have hy1 : -30000 ≤ y ∧ y ≤ 30041 := by omega
    rw [hyv] at hn0 hg ⊢
    rw [hL] at HO ⊢
    clear hf ho hyv hL hgl
    by_cases hx : y ≤ b
    · cases ho : fireR r p y with
      | none =>
        have HQ := Lib.hid (fire_none ho wr (HW.out.fr HF.out) HSe.out)
        have HN := Lib.hid (show F ++ gathD r p a (n + 1) = L by rw [gath_none (by rw [HYv.out]; exact ho), HL.out])
        clear ho
        go_wp2_with fail
        refine HQ.out.mono ?_
        rintro e w2 ⟨rfl, hf2⟩
        have HF2 := Lib.hid hf2
        have HO2 := Lib.hid (HO.out.kept hf2)
        have n2 := Fr.new w2 (.cells #[.int .i64 0, .int .i64 0, .int .i64 0, .int .i64 0] 166) (fun _ => False)
        have HF3 := Lib.hid (ff4 HF2.out n2)
        have HO3 := Lib.hid (HO2.out.kept n2)
        have HB := Lib.hid (show Blk _ w2.heap.size 166 (fireC f0) from Blk.made w2 166 (fireC f0))
        clear hf2 n2
        go_wp2_with (
          ((with_reducible refine at_store4 166 ?_); refine wpList_store_blk 166 _ _ w2.heap.size 0 166 (fireC f0) (fireC f0) (fireC f0) (by rfl) rfl rfl rfl rfl HB.out (infoXF _) (fireC_one _) (show 0 + 4 ≤ 4 by decide) (put_fi _ _) ?_
           intro W3 hf3 hb3
           have HF4 := Lib.hid (HF3.out.fresh hf3 (fun i e => by have e : i = w2.heap.size := e; have := HF2.out.size; omega))
           have HO4 := Lib.hid (show XFires W3 w0.heap.size _ L from HO3.out.fr hf3 (fun g hg e => by have e : g = w2.heap.size := e; have := (own_block HO2.out hg).2.1; omega))
           clear hf3 hb3))
        go_roundg (G - 1)
        case measure => omega
        case rel =>
          have hyv := HYv.out
          have e1 : a + ((n + 1 : Nat) : Int) = y + 1 := by omega
          exact ⟨n + 1, by rw [e1], .inr (by omega), by omega, by rw [HN.out]; exact HO4.out, tf_trans HT.out (tf_of HF4.out)⟩
      | some f =>
        have HQ := Lib.hid (fire_some ho wr (HW.out.fr HF.out) HSe.out)
        have HN := Lib.hid (show F ++ gathD r p a (n + 1) = L ++ [f] by rw [gath_some (by rw [HYv.out]; exact ho), ← List.append_assoc, HL.out])
        clear ho
        go_wp2_with fail
        refine HQ.out.mono ?_
        rintro e w2 ⟨rfl, hf2⟩
        have HF2 := Lib.hid hf2
        have HO2 := Lib.hid (HO.out.kept hf2)
        have n2 := Fr.new w2 (.cells #[.int .i64 0, .int .i64 0, .int .i64 0, .int .i64 0] 166) (fun _ => False)
        have HF3 := Lib.hid (ff4 HF2.out n2)
        have HO3 := Lib.hid (HO2.out.kept n2)
        have HB := Lib.hid (show Blk _ w2.heap.size 166 (fireC f0) from Blk.made w2 166 (fireC f0))
        clear hf2 n2
        go_wp2_with (first
          | ((with_reducible refine at_store4 166 ?_); refine wpList_store_blk 166 _ _ w2.heap.size 0 166 (fireC f0) (fireC f) (fireC f) (by rfl) rfl rfl rfl rfl HB.out (infoXF _) (fireC_one _) (show 0 + 4 ≤ 4 by decide) (put_fi _ _) ?_
             intro W3 hf3 hb3
             have HF4 := Lib.hid (HF3.out.fresh hf3 (fun i e => by have e : i = w2.heap.size := e; have := HF2.out.size; omega))
             have HO4 := Lib.hid (show XFires W3 w0.heap.size _ L from HO3.out.fr hf3 (fun g hg e => by have e : g = w2.heap.size := e; have := (own_block HO2.out hg).2.1; omega))
             have HB4 := Lib.hid hb3
             clear hf3 hb3)
          | ((with_reducible refine at_load4 166 ?_); refine wpList_load_blk 166 _ w2.heap.size 0 166 (fireC f) (fireC f) _ (by rfl) rfl rfl HB4.out Tryz.underlying166 rfl (infoXF _) (zero_part _) ?_)
          | ((with_reducible refine at_slice4 (y := .tmp 26) 165 ?_); refine wpList_made (t := 165) (e := 166) (y := .tmp 26) (v := fireV f) (fireC f) (by rfl) rfl rfl (fun _ => by kernel_rfl) ?_
             intro Wm hfm hsm hbm hrm
             have HFm := Lib.hid (ff4 HF4.out hfm)
             have HOm := Lib.hid (HO4.out.kept hfm)
             have HRm := Lib.hid hrm
             clear hfm hsm hbm hrm)
          | ((with_reducible refine at_append4 (.tmp 25) (.tmp 27) ?_); refine wpList_append1 (f := fireL) (.tmp 25) (.tmp 27) 165 rfl rfl w0.heap.size 166 _ 4 32 Tryz.underlying165 info_xfire rfl (by decide) _ rfl HOm.out _ 1 f (fireC f).toList rfl HRm.out rfl (one_made (fireC_one f)) (by omega) (by decide) (Nat.le_trans HF.out.size HFm.out.size) ?_
             intro A2 c2 Wp hop hfp
             have HTp := Lib.hid (tf_trans (tf_trans HT.out (tf_of HFm.out)) (tb_own HOm.out hfp))
             have HOp := Lib.hid hop
             clear hop hfp))
        go_roundg (G - 1)
        case measure => omega
        case rel =>
          have hyv := HYv.out
          have e1 : a + ((n + 1 : Nat) : Int) = y + 1 := by omega
          exact ⟨n + 1, by rw [e1], .inr (by omega), by omega, by rw [HN.out]; exact HOp.out, HTp.out⟩
    · have hyv := HYv.out
      have HE := Lib.hid (show F ++ gathD r p a (cntY a b) = L by rw [← HL.out]; unfold cntY; rw [show (b + 1 - a).toNat = n by omega])
      clear hyv
      go_wp2_with fail
      go_ret
      exact ⟨_, rfl, by rw [HE.out]; exact HO.out, HT.out⟩
end Go.Proofs.YtghcfmoagkimaaaGreatDoor
namespace Go.Proofs.YtghcfmoagkimaaaGreatDoor
open Go.RowKit Go.Mem Go.Lin Go.Xpd

theorem put_rf (f g : FireL) : setMany (fireC f) 0 (fireC g).toList = fireC g := put_all rfl
theorem year_one4 (r : RuleL) (y : Int) : yearD [r] y = match atR r y with | none => [] | some a => [⟨0, y, a, 0⟩] := by
  show yearN [r] y 1 = _
  cases h : atR r y with
  | none => rw [yearN_none (l := [r]) (n := 0) rfl h]; rfl
  | some a => rw [yearN_some (l := [r]) (n := 0) rfl h]; rfl
def outB : Option (Int × Int × Bs) → Bs
  | none => []
  | some q => q.2.2
def BestOf (i : Nat) (B : FireL) : Option (Int × Int × Bs) → Prop
  | none => True
  | some q => B.y = q.1 ∧ B.at_ = q.2.1 ∧ B.i < i
theorem BestOf.up {i : Nat} {B : FireL} {b : Option (Int × Int × Bs)} (h : BestOf i B b) : BestOf (i + 1) B b := by
  cases b with
  | none => trivial
  | some q => obtain ⟨h1, h2, h3⟩ := h; exact ⟨h1, h2, by omega⟩
def LtR (l : List RuleL) (w : World) (g : Nat) (v3 v4 v6 : Value) (wr : World) : Prop :=
  ∃ (i : Nat) (B : FireL) (b : Option (Int × Int × Bs)), b = (l.take i).foldl letF none ∧ i + g = l.length ∧ v6 = intV i ∧ v3 = strV (outB b) ∧ v4 = .bool b.isSome ∧ BestOf i B b ∧ Blk wr w.heap.size 134 (fireC B) ∧ Fr w wr (fun _ => False)
def LtI (r : RuleL) (w : World) (B : FireL) (Wm : World) (out : Bs) (is : Bool) (g : Nat) (v3 v4 v8 : Value) (wr : World) : Prop :=
  ∃ n : Nat, v3 = strV out ∧ v4 = .bool is ∧ v8 = intV (max r.fr 1 + n) ∧ n + g = firstN r ∧ firstR r = firstF r (max r.fr 1 + n) g ∧ Blk wr w.heap.size 134 (fireC B) ∧ Fr Wm wr (fun _ => False)
set_option maxHeartbeats 6400000 in
set_option maxRecDepth 100000 in
theorem yLetter_any (l : List RuleL) (A : Option Addr) (cap : Nat) (w : World) (hl : RusAt w A l) (hn : l.length ≤ 1000) (hr : ∀ r ∈ l, OkR r) :
    Calls Tryz.prog 77 #[.slice A l.length cap] w fun e w' => e = .returned (strV (letD l)) ∧ Fr w w' (fun _ => False) := by
  have HL := Lib.hid hl
  have HRr := Lib.hid hr
  have HN0 := Lib.hid (Fr.new w (.cells (fireC f0) 134) (fun _ => False))
  have HB0 := Lib.hid (Blk.made w 134 (fireC f0))
  clear hl hr
  go_enter Tryz.func77, Tryz.ntmps77
  go_wp2_with (
    ((with_reducible refine at_store4 134 ?_); refine wpList_store_blk 134 _ _ w.heap.size 0 134 (fireC f0) (fireC f0) (fireC f0) (by rfl) rfl rfl rfl rfl HB0.out (infoRF _) (fireC_one _) (show 0 + 4 ≤ 4 by decide) (put_rf _ _) ?_
     intro W0 hf0 hb0
     have HF0 := Lib.hid (HN0.out.fresh hf0 (fun i e => by have e : i = w.heap.size := e; omega))
     have HBz := Lib.hid hb0
     clear hf0 hb0 HN0 HB0))
  go_loopg [3, 4, 6, 7, 8, 9] l.length (fun g v3 v4 v6 _ _ _ wr => LtR l w g v3 v4 v6 wr)
  case atStart => exact ⟨0, f0, none, rfl, by simp, rfl, rfl, rfl, trivial, HBz.out, HF0.out⟩
  case round =>
    obtain ⟨i, B, b, hb, hi, rfl, rfl, rfl, hbest, hblk, hf⟩ := hrel
    obtain ⟨out, hout⟩ : ∃ out, outB b = out := ⟨_, rfl⟩
    obtain ⟨is, his⟩ : ∃ is, b.isSome = is := ⟨_, rfl⟩
    have HF := Lib.hid hf
    have HBk := Lib.hid hblk
    have HBe := Lib.hid hbest
    have HOu := Lib.hid hout
    have HIs := Lib.hid his
    have Hb := Lib.hid hb
    by_cases hlt : i < l.length
    · obtain ⟨r, hri⟩ : ∃ r, l[i]? = some r := ⟨l[i], List.getElem?_eq_getElem hlt⟩
      have HNx := Lib.hid (show (l.take (i + 1)).foldl letF none = letF b r by rw [foldl_take letF none hri, hb])
      obtain ⟨bb, off, hA, hc⟩ := (HL.out.kept HF.out).at_ hri
      subst hA
      have hok := HRr.out r (List.mem_of_getElem? hri)
      obtain ⟨t1, t2⟩ := hok.fr
      obtain ⟨t3, t4⟩ := hok.tt
      have HSr := Lib.hid hok.s
      have HRi := Lib.hid hri
      have HCx := Lib.hid hc
      have HBB := Lib.hid (show bb < w.heap.size by
        obtain ⟨bq, oq, hAq, hcq⟩ := HL.out.at_ hri
        cases hAq
        exact World.block_lt_of_cell? w _ (hcq 0 (show 0 < 11 by decide)))
      have i0 : (i : Int) < (l.length : Int) := by omega
      have c1 : wr.cell? ⟨bb, off + i * 11 + 1, none⟩ = some (.int .i64 r.fr) := hc 1 (show 1 < 11 by decide)
      have c9 : wr.cell? ⟨bb, off + i * 11 + 9, none⟩ = some (.int .i64 r.save) := hc 9 (show 9 < 11 by decide)
      rw [hout, his]
      clear hb hbest hblk hf hri hok hc hout his
      by_cases h0 : r.save = 0
      · rw [h0] at c9
        have H0 := Lib.hid h0
        clear h0
        go_wp2_with (first
          | ((with_reducible refine at_load4 72 ?_); refine wpList_load_at 72 _ bb (off + i * 11) (ruleC r) _ (by rfl) rfl rfl HCx.out Tryz.underlying72 rfl (infoR _) ?_)
          | ((with_reducible refine at_slice4 (y := .tmp 26) 51 ?_); refine wpList_made (t := 51) (e := 72) (y := .tmp 26) (v := ruleV r) (ruleC r) (by rfl) rfl rfl (fun _ => by kernel_rfl) ?_
             intro Wm hfm hsm hbm hrm
             have HFm := Lib.hid (ff4 HF.out hfm)
             have HBm := Lib.hid (hfm.blk HBk.out (fun h => h))
             have HOne := Lib.hid (show RusAt Wm (some ⟨wr.heap.size, 0, none⟩) [r] from hrm)
             have m1 : Wm.cell? ⟨bb, off + i * 11 + 1, none⟩ = some (.int .i64 r.fr) := cell_far hfm (HCx.out 1 (show 1 < 11 by decide)) (fun h => h)
             clear hfm hsm hbm hrm c1 c9 HF HBk HCx))
        generalize wr.heap.size = g7 at *
        clear m1
        go_loopg [3, 4, 8, 9] (firstN r) (fun g v3 v4 v8 _ wr2 => LtI r w B Wm out is g v3 v4 v8 wr2)
        case atStart => exact ⟨0, rfl, rfl, by rw [show max r.fr 1 + ((0 : Nat) : Int) = max r.fr 1 by omega], by simp, by rw [show max r.fr 1 + ((0 : Nat) : Int) = max r.fr 1 by omega]; rfl, HBm.out, Fr.refl _ _⟩
        case round =>
          obtain ⟨n, rfl, rfl, rfl, hnN, hfi, hblk, hf2⟩ := hrel
          obtain ⟨G, hGk⟩ : ∃ G, gk = G := ⟨_, rfl⟩
          rw [hGk] at hnN hfi
          obtain ⟨y, hy⟩ : ∃ y : Int, max r.fr 1 + n = y := ⟨_, rfl⟩
          have HY := Lib.hid hy
          have hNle : firstN r ≤ 9 := by unfold firstN; omega
          have HFw := Lib.hid (ff4 HFm.out hf2)
          have HF2 := Lib.hid hf2
          have HBw := Lib.hid hblk
          rw [hy] at hfi ⊢
          have HFi := Lib.hid hfi
          obtain ⟨b2, off2, hA2, hc2⟩ := (HL.out.kept HFw.out).at_ HRi.out
          cases hA2
          have HC2 := Lib.hid hc2
          have i0 : (i : Int) < (l.length : Int) := by omega
          have e1 : wr.cell? ⟨bb, off + i * 11 + 1, none⟩ = some (.int .i64 r.fr) := hc2 1 (show 1 < 11 by decide)
          have e2 : wr.cell? ⟨bb, off + i * 11 + 2, none⟩ = some (.int .i64 r.to) := hc2 2 (show 2 < 11 by decide)
          have hyb : -30000 ≤ y ∧ y ≤ 30000 := by omega
          have hwr : IntKind.i64.wrap (y - max r.fr 1) = y - max r.fr 1 := by rw [IntKind.wrap_i64]; omega
          cases G with
          | zero =>
            have HE := Lib.hid (show letF b r = b from letF_none (by rw [HFi.out]; rfl))
            have hq : min r.to 9999 < y ∨ (y ≤ min r.to 9999 ∧ 8 < y - max r.fr 1) := by unfold firstN at hnN; omega
            clear hy hfi hblk hf2 hnN hc2
            rcases hq with q1 | ⟨q1, q2⟩
            all_goals
              go_wp2_with fail
              go_roundg (l.length - (i + 1))
              case measure => omega
              case rel => exact ⟨i + 1, B, b, by rw [HNx.out, HE.out], by omega, by go_num, by rw [HOu.out], by rw [HIs.out], HBe.out.up, HBw.out, HFw.out⟩
          | succ G =>
            have q1 : y ≤ min r.to 9999 := by unfold firstN at hnN; omega
            have q2 : y - max r.fr 1 ≤ 8 := by unfold firstN at hnN; omega
            have HYr := Lib.hid (year_any [r] (some ⟨g7, 0, none⟩) 1 y wr (HOne.out.kept HF2.out) (by simp) (fun x hx => by rw [List.mem_singleton.1 hx]; exact HSr.out))
            cases ha : atR r y with
            | none =>
              have HY0 := Lib.hid (show yearD [r] y = [] by rw [year_one4, ha])
              rw [HY0.out] at HYr
              have HFn := Lib.hid (show firstR r = firstF r (y + 1) G by rw [HFi.out, firstF_miss ha])
              have hnG := hnN
              clear hy hfi hblk hf2 hc2 ha
              go_wp2_with fail
              refine HYr.out.mono ?_
              rintro e w4 ⟨v, rfl, ho4, hf4⟩
              obtain ⟨A4, c4, hv4, -, -, -⟩ := ho4.rd
              have hv4 : v = .slice A4 0 c4 := hv4
              subst hv4
              have HF4 := Lib.hid (ff4 HF2.out hf4)
              have HB4 := Lib.hid (hf4.blk HBw.out (fun h => h))
              clear ho4 hf4 e1 e2
              go_wp2_with fail
              go_roundg G
              case measure => omega
              case rel =>
                have hy := HY.out
                have e9 : max r.fr 1 + ((n + 1 : Nat) : Int) = y + 1 := by omega
                exact ⟨n + 1, rfl, rfl, by rw [e9], by omega, by rw [e9]; exact HFn.out, HB4.out, HF4.out⟩
            | some a =>
              have HY0 := Lib.hid (show yearD [r] y = [⟨0, y, a, 0⟩] by rw [year_one4, ha])
              rw [HY0.out] at HYr
              have HFR := Lib.hid (show firstR r = some (y, a) by rw [HFi.out, firstF_hit ha])
              clear hy hfi hblk hf2 hc2 ha hnN
              go_wp2_with fail
              refine HYr.out.mono ?_
              rintro e w4 ⟨v, rfl, ho4, hf4⟩
              obtain ⟨A4, c4, hv4, -, -, -⟩ := ho4.rd
              have hv4 : v = .slice A4 1 c4 := hv4
              subst hv4
              obtain ⟨gf, c, cur, hv, hgb, hbk, hsz3, hput⟩ := own_put fireL_len (p := []) (q := []) ho4 (show 0 < 4 by decide)
              obtain ⟨rfl, rfl⟩ : A4 = some ⟨gf, 0, none⟩ ∧ c4 = c := by
                injection hv with h1 h2 h3
                exact ⟨h1, h3⟩
              have hsz0 : 0 < cur.size := by simpa using hsz3
              have hfz : w4.frozen? ⟨gf, 0, none⟩ = false := free_at hbk _
              have hce : w4.cell? ⟨gf, 0, none⟩ = some cur[0] := (cell_at hbk _).trans (Array.getElem?_eq_getElem hsz0)
              have hfW := Fr.set (w := w4) (a := ⟨gf, 0, none⟩) (v := intV i) (S := fun i => i = gf) rfl
              have hbW := hbk.put' 0 (intV i) rfl
              have hOW := hput _ (intV i) ⟨i, y, a, 0⟩ rfl (by simpa using hbW)
              generalize cur[0] = old at *
              obtain ⟨W, hW9⟩ : ∃ W, w4.setCell ⟨gf, 0, none⟩ (intV i) = W := ⟨_, rfl⟩
              rw [hW9] at hfW hbW hOW
              obtain ⟨A9, c9, e9, -, -, hrd⟩ := hOW.rd
              have e9 : A9 = some ⟨gf, 0, none⟩ := by
                injection e9 with e9 _ _
                exact e9.symm
              rw [e9] at hrd
              obtain ⟨b9, o9, e8, hc9⟩ := FiresAt.at_ hrd (i := 0) (f := ⟨i, y, a, 0⟩) rfl
              injection e8 with e8
              injection e8 with e7 e6 _
              subst e7 e6
              have hc9 : ∀ j, j < (fireC ⟨i, y, a, 0⟩).size → W.cell? ⟨gf, 0 + j, none⟩ = (fireC ⟨i, y, a, 0⟩)[j]? := fun j hj => by simpa using hc9 j hj
              have HFW := Lib.hid ((ff4 HFw.out hf4).fresh (show Fr _ W (fun i => i = gf) from hfW) fun i h => by have h : i = gf := h; have := HFw.out.size; omega)
              have HBW := Lib.hid (show Blk W w.heap.size 134 (fireC B) from hfW.blk (hf4.blk HBw.out (fun h => h)) (fun e => by have e : w.heap.size = gf := e; have := HBw.out.lt; omega))
              have HCF := Lib.hid hc9
              obtain ⟨b2, off2, hA2, hc2⟩ := (HL.out.kept HFW.out).at_ HRi.out
              cases hA2
              have HC3 := Lib.hid hc2
              clear hv hbk hsz3 hput hsz0 hbW hOW hrd hc9 hc2 ho4 hf4 e1 e2 hfW e9
              subst hW9
              go_wp2_with fail
              generalize w4.setCell ⟨gf, 0, none⟩ (intV i) = W at *
              have f1 : W.cell? ⟨gf, 1, none⟩ = some (.int .i64 y) := HCF.out 1 (show 1 < 4 by decide)
              have g1 : W.cell? ⟨w.heap.size, 1, none⟩ = some (.int .i64 B.y) := blkc HBW.out 1 _ rfl
              cases b with
              | none =>
                obtain rfl : is = false := HIs.out.symm
                have HLF := Lib.hid (show letF none r = some (y, a, r.letter) from letF_first H0.out HFR.out)
                go_quiet (fail)
                have hd := Fr.drewN W nq (fun _ => False)
                clear f1 g1
                generalize W.drewN nq = W2 at *
                have HFW2 := Lib.hid (ff4 HFW.out hd)
                have HBW2 := Lib.hid (hd.blk HBW.out (fun h => h))
                have HCF2 := Lib.hid (cells_far hd HCF.out (Nat.le_refl _) (fun h => h))
                have HC4 := Lib.hid (cells_far hd HC3.out (Nat.le_refl _) (fun h => h))
                clear hd
                go_wp2_with (first
                  | ((with_reducible refine at_load4 134 ?_); refine wpList_load_at 134 _ gf 0 (fireC ⟨i, y, a, 0⟩) _ (by rfl) rfl rfl HCF2.out Tryz.underlying134 rfl (infoRF _) ?_)
                  | ((with_reducible refine at_store4 134 ?_); refine wpList_store_blk 134 _ _ w.heap.size 0 134 (fireC B) (fireC ⟨i, y, a, 0⟩) (fireC ⟨i, y, a, 0⟩) (by rfl) rfl rfl rfl rfl HBW2.out (infoRF _) (fireC_one _) (show 0 + 4 ≤ 4 by decide) (put_rf _ _) ?_
                     intro W5 hf5 hb5
                     have HF5 := Lib.hid (HFW2.out.fresh hf5 (fun i e => by have e : i = w.heap.size := e; omega))
                     have HB5 := Lib.hid hb5
                     have c10 : W5.cell? ⟨bb, off + i * 11 + 10, none⟩ = some (strV r.letter) := cell_far hf5 (HC4.out 10 (show 10 < 11 by decide)) (fun e => by have e : bb = w.heap.size := e; have := HBB.out; omega)
                     clear hf5 hb5))
                go_roundg (l.length - (i + 1))
                case measure => omega
                case rel => exact ⟨i + 1, ⟨i, y, a, 0⟩, some (y, a, r.letter), by rw [HNx.out, HLF.out], by omega, by go_num, rfl, rfl, ⟨rfl, rfl, by show (i : Int) < ((i + 1 : Nat) : Int); omega⟩, HB5.out, HF5.out⟩
              | some q =>
                obtain rfl : is = true := HIs.out.symm
                obtain ⟨k1, k2, k3⟩ := HBe.out
                have h3 : y < B.y ∨ B.y < y ∨ (y = B.y ∧ a < B.at_) ∨ (y = B.y ∧ ¬ a < B.at_) := by omega
                rcases h3 with h3 | h3 | ⟨h3, h4⟩ | ⟨h3, h4⟩
                · have HLF := Lib.hid (show letF (some q) r = some (y, a, r.letter) from letF_less H0.out HFR.out (by show y < q.1 ∨ (y = q.1 ∧ a < q.2.1); omega))
                  have d1 : decide (y < B.y) = true := decide_eq_true h3
                  clear k1 k2 k3 h3
                  go_quiet (fail)
                  have hd := Fr.drewN W nq (fun _ => False)
                  clear f1 g1
                  generalize W.drewN nq = W2 at *
                  clear d1
                  have HFW2 := Lib.hid (ff4 HFW.out hd)
                  have HBW2 := Lib.hid (hd.blk HBW.out (fun h => h))
                  have HCF2 := Lib.hid (cells_far hd HCF.out (Nat.le_refl _) (fun h => h))
                  have HC4 := Lib.hid (cells_far hd HC3.out (Nat.le_refl _) (fun h => h))
                  clear hd
                  go_wp2_with (first
                    | ((with_reducible refine at_load4 134 ?_); refine wpList_load_at 134 _ gf 0 (fireC ⟨i, y, a, 0⟩) _ (by rfl) rfl rfl HCF2.out Tryz.underlying134 rfl (infoRF _) ?_)
                    | ((with_reducible refine at_store4 134 ?_); refine wpList_store_blk 134 _ _ w.heap.size 0 134 (fireC B) (fireC ⟨i, y, a, 0⟩) (fireC ⟨i, y, a, 0⟩) (by rfl) rfl rfl rfl rfl HBW2.out (infoRF _) (fireC_one _) (show 0 + 4 ≤ 4 by decide) (put_rf _ _) ?_
                       intro W5 hf5 hb5
                       have HF5 := Lib.hid (HFW2.out.fresh hf5 (fun i e => by have e : i = w.heap.size := e; omega))
                       have HB5 := Lib.hid hb5
                       have c10 : W5.cell? ⟨bb, off + i * 11 + 10, none⟩ = some (strV r.letter) := cell_far hf5 (HC4.out 10 (show 10 < 11 by decide)) (fun e => by have e : bb = w.heap.size := e; have := HBB.out; omega)
                       clear hf5 hb5))
                  go_roundg (l.length - (i + 1))
                  case measure => omega
                  case rel => exact ⟨i + 1, ⟨i, y, a, 0⟩, some (y, a, r.letter), by rw [HNx.out, HLF.out], by omega, by go_num, rfl, rfl, ⟨rfl, rfl, by show (i : Int) < ((i + 1 : Nat) : Int); omega⟩, HB5.out, HF5.out⟩
                · have HLF := Lib.hid (show letF (some q) r = some q from letF_more H0.out HFR.out (by show ¬ (y < q.1 ∨ (y = q.1 ∧ a < q.2.1)); omega))
                  have d1 : decide (y < B.y) = false := decide_eq_false (by omega)
                  have d2 : (y == B.y) = false := by rw [beq_eq_false_iff_ne]; omega
                  clear k1 k2 k3 h3
                  go_quiet (fail)
                  have hd := Fr.drewN W nq (fun _ => False)
                  clear f1 g1
                  generalize W.drewN nq = W2 at *
                  clear d1 d2
                  have HFW2 := Lib.hid (ff4 HFW.out hd)
                  have HBW2 := Lib.hid (hd.blk HBW.out (fun h => h))
                  have HCF2 := Lib.hid (cells_far hd HCF.out (Nat.le_refl _) (fun h => h))
                  have HC4 := Lib.hid (cells_far hd HC3.out (Nat.le_refl _) (fun h => h))
                  clear hd
                  go_wp2_with fail
                  go_roundg (l.length - (i + 1))
                  case measure => omega
                  case rel => exact ⟨i + 1, B, some q, by rw [HNx.out, HLF.out], by omega, by go_num, by rw [HOu.out], rfl, HBe.out.up, HBW2.out, HFW2.out⟩
                · have HLF := Lib.hid (show letF (some q) r = some (y, a, r.letter) from letF_less H0.out HFR.out (by show y < q.1 ∨ (y = q.1 ∧ a < q.2.1); omega))
                  have HBE := Lib.hid (fun W => before_yes (f := ⟨i, y, a, 0⟩) (g := B) (.inl h4) W)
                  have d1 : decide (y < B.y) = false := decide_eq_false (by omega)
                  have d2 : (y == B.y) = true := by rw [beq_iff_eq]; exact h3
                  clear k1 k2 k3 h3 h4
                  refine wp_region_held_drew (S := fun w' => Fr W w' (fun _ => False)) (by kernel_rfl) (Fr.drew W _) (fun hHeld => ?_)
                  refine wpAnyH_take (i := 0) (v := ?_) rfl (by kernel_rfl) (by kernel_rfl) (by kernel_rfl) (fun _ _ _ h => h) (Or.inl ⟨by rfl, ?_⟩) (by assumption) ?_
                  rotate_left
                  · intro w' hSw
                    go_simp
                    try with_reducible rfl
                  try simp only [Act.put, List.setIfInBounds_toArray, List.set_cons_zero, List.set_cons_succ, List.getElem_toArray, List.getElem_cons_zero]
                  refine wpAnyH_take (i := 1) (v := .bool false) rfl (by kernel_rfl) (by kernel_rfl) (by kernel_rfl) (fun _ _ _ h => h) (Or.inl ⟨by rfl, ?_⟩) (by assumption) ?_
                  · intro w' hSw
                    go_simp
                  try simp only [Act.put, List.setIfInBounds_toArray, List.set_cons_zero, List.set_cons_succ, List.getElem_toArray, List.getElem_cons_succ, List.getElem_cons_zero]
                  refine wpAnyH_take (i := 2) (v := .bool false) rfl (by kernel_rfl) (by kernel_rfl) (by kernel_rfl) (fun _ _ _ h => h) (Or.inl ⟨by rfl, ?_⟩) (by assumption) ?_
                  · intro w' hSw
                    go_simp
                  try simp only [Act.put, List.setIfInBounds_toArray, List.set_cons_zero, List.set_cons_succ, List.getElem_toArray, List.getElem_cons_succ, List.getElem_cons_zero]
                  refine wpAnyH_take (i := 3) (v := ?_) rfl (by kernel_rfl) (by kernel_rfl) (by kernel_rfl) (fun _ _ _ h => h) (Or.inl ⟨by rfl, ?_⟩) (by assumption) ?_
                  rotate_left
                  · intro w' hSw
                    go_simp
                    try with_reducible rfl
                  try simp only [Act.put, List.setIfInBounds_toArray, List.set_cons_zero, List.set_cons_succ, List.getElem_toArray, List.getElem_cons_succ, List.getElem_cons_zero]
                  refine wpAnyH_take (i := 4) (v := ?_) rfl (by kernel_rfl) (by kernel_rfl) (by kernel_rfl) (fun _ _ _ h => h) (Or.inl ⟨by rfl, ?_⟩) (by assumption) ?_
                  rotate_left
                  · intro w' hSw
                    go_simp
                    try with_reducible rfl
                  try simp only [Act.put, List.setIfInBounds_toArray, List.set_cons_zero, List.set_cons_succ, List.getElem_toArray, List.getElem_cons_succ, List.getElem_cons_zero]
                  refine wpAnyH_take (i := 5) (v := ?_) rfl (by kernel_rfl) (by kernel_rfl) (by kernel_rfl) (fun _ _ _ h => h) (Or.inl ⟨by rfl, ?_⟩) (by assumption) ?_
                  rotate_left
                  · intro w' hSw
                    go_simp
                    try with_reducible rfl
                  try simp only [Act.put, List.setIfInBounds_toArray, List.set_cons_zero, List.set_cons_succ, List.getElem_toArray, List.getElem_cons_succ, List.getElem_cons_zero]
                  refine wpAnyH_take (i := 6) (v := ?_) rfl (by kernel_rfl) (by kernel_rfl) (by kernel_rfl) (fun _ _ _ h => h) (Or.inl ⟨by rfl, ?_⟩) (by assumption) ?_
                  rotate_left
                  · intro w' hSw
                    have f1 : w'.cell? ⟨gf, 1, none⟩ = some (.int .i64 y) := cell_far hSw f1 (fun h => h)
                    go_simp
                    try with_reducible rfl
                  try simp only [Act.put, List.setIfInBounds_toArray, List.set_cons_zero, List.set_cons_succ, List.getElem_toArray, List.getElem_cons_succ, List.getElem_cons_zero]
                  refine wpAnyH_take (i := 7) (v := ?_) rfl (by kernel_rfl) (by kernel_rfl) (by kernel_rfl) (fun _ _ _ h => h) (Or.inl ⟨by rfl, ?_⟩) (by assumption) ?_
                  rotate_left
                  · intro w' hSw
                    go_simp
                    try with_reducible rfl
                  try simp only [Act.put, List.setIfInBounds_toArray, List.set_cons_zero, List.set_cons_succ, List.getElem_toArray, List.getElem_cons_succ, List.getElem_cons_zero]
                  refine wpAnyH_take (i := 8) (v := ?_) rfl (by kernel_rfl) (by kernel_rfl) (by kernel_rfl) (fun _ _ _ h => h) (Or.inl ⟨by rfl, ?_⟩) (by assumption) ?_
                  rotate_left
                  · intro w' hSw
                    have g1 : w'.cell? ⟨w.heap.size, 1, none⟩ = some (.int .i64 B.y) := cell_far hSw g1 (fun h => h)
                    go_simp
                    try with_reducible rfl
                  try simp only [Act.put, List.setIfInBounds_toArray, List.set_cons_zero, List.set_cons_succ, List.getElem_toArray, List.getElem_cons_succ, List.getElem_cons_zero]
                  refine wpAnyH_take (i := 9) (v := .bool false) rfl (by kernel_rfl) (by kernel_rfl) (by kernel_rfl) (fun _ _ _ h => h) (Or.inl ⟨by rfl, ?_⟩) (by assumption) ?_
                  · intro w' hSw
                    go_simp
                  try simp only [Act.put, List.setIfInBounds_toArray, List.set_cons_zero, List.set_cons_succ, List.getElem_toArray, List.getElem_cons_succ, List.getElem_cons_zero]
                  refine wpAnyH_take (i := 10) (v := .bool false) rfl (by kernel_rfl) (by kernel_rfl) (by kernel_rfl) (fun _ _ _ h => h) (Or.inl ⟨by rfl, ?_⟩) (by assumption) ?_
                  · intro w' hSw
                    go_simp
                  try simp only [Act.put, List.setIfInBounds_toArray, List.set_cons_zero, List.set_cons_succ, List.getElem_toArray, List.getElem_cons_succ, List.getElem_cons_zero]
                  refine wpAnyH_take (i := 11) (v := .bool false) rfl (by kernel_rfl) (by kernel_rfl) (by kernel_rfl) (fun _ _ _ h => h) (Or.inl ⟨by rfl, ?_⟩) (by assumption) ?_
                  · intro w' hSw
                    go_simp
                  try simp only [Act.put, List.setIfInBounds_toArray, List.set_cons_zero, List.set_cons_succ, List.getElem_toArray, List.getElem_cons_succ, List.getElem_cons_zero]
                  refine wpAnyH_take (i := 12) (v := ?_) rfl (by kernel_rfl) (by kernel_rfl) (by kernel_rfl) (fun _ _ _ h => h) (Or.inl ⟨by rfl, ?_⟩) (by assumption) ?_
                  rotate_left
                  · intro w' hSw
                    go_simp
                    try with_reducible rfl
                  try simp only [Act.put, List.setIfInBounds_toArray, List.set_cons_zero, List.set_cons_succ, List.getElem_toArray, List.getElem_cons_succ, List.getElem_cons_zero]
                  refine wpAnyH_take (i := 13) (v := ?_) rfl (by kernel_rfl) (by kernel_rfl) (by kernel_rfl) (fun _ _ _ h => h) (Or.inl ⟨by rfl, ?_⟩) (by assumption) ?_
                  rotate_left
                  · intro w' hSw
                    go_simp
                    try with_reducible rfl
                  try simp only [Act.put, List.setIfInBounds_toArray, List.set_cons_zero, List.set_cons_succ, List.getElem_toArray, List.getElem_cons_succ, List.getElem_cons_zero]
                  refine wpAnyH_take (i := 14) (v := ?_) rfl (by kernel_rfl) (by kernel_rfl) (by kernel_rfl) (fun _ _ _ h => h) (Or.inl ⟨by rfl, ?_⟩) (by assumption) ?_
                  rotate_left
                  · intro w' hSw
                    go_simp
                    try with_reducible rfl
                  try simp only [Act.put, List.setIfInBounds_toArray, List.set_cons_zero, List.set_cons_succ, List.getElem_toArray, List.getElem_cons_succ, List.getElem_cons_zero]
                  refine wpAnyH_take (i := 15) (v := ?_) rfl (by kernel_rfl) (by kernel_rfl) (by kernel_rfl) (fun _ _ _ h => h) (Or.inl ⟨by rfl, ?_⟩) (by assumption) ?_
                  rotate_left
                  · intro w' hSw
                    have f1 : w'.cell? ⟨gf, 1, none⟩ = some (.int .i64 y) := cell_far hSw f1 (fun h => h)
                    go_simp
                    try with_reducible rfl
                  try simp only [Act.put, List.setIfInBounds_toArray, List.set_cons_zero, List.set_cons_succ, List.getElem_toArray, List.getElem_cons_succ, List.getElem_cons_zero]
                  refine wpAnyH_take (i := 16) (v := ?_) rfl (by kernel_rfl) (by kernel_rfl) (by kernel_rfl) (fun _ _ _ h => h) (Or.inl ⟨by rfl, ?_⟩) (by assumption) ?_
                  rotate_left
                  · intro w' hSw
                    go_simp
                    try with_reducible rfl
                  try simp only [Act.put, List.setIfInBounds_toArray, List.set_cons_zero, List.set_cons_succ, List.getElem_toArray, List.getElem_cons_succ, List.getElem_cons_zero]
                  refine wpAnyH_take (i := 17) (v := ?_) rfl (by kernel_rfl) (by kernel_rfl) (by kernel_rfl) (fun _ _ _ h => h) (Or.inl ⟨by rfl, ?_⟩) (by assumption) ?_
                  rotate_left
                  · intro w' hSw
                    have g1 : w'.cell? ⟨w.heap.size, 1, none⟩ = some (.int .i64 B.y) := cell_far hSw g1 (fun h => h)
                    go_simp
                    try with_reducible rfl
                  try simp only [Act.put, List.setIfInBounds_toArray, List.set_cons_zero, List.set_cons_succ, List.getElem_toArray, List.getElem_cons_succ, List.getElem_cons_zero]
                  refine wpAnyH_take (i := 18) (v := .bool true) rfl (by kernel_rfl) (by kernel_rfl) (by kernel_rfl) (fun _ _ _ h => h) (Or.inl ⟨by rfl, ?_⟩) (by assumption) ?_
                  · intro w' hSw
                    go_simp
                  try simp only [Act.put, List.setIfInBounds_toArray, List.set_cons_zero, List.set_cons_succ, List.getElem_toArray, List.getElem_cons_succ, List.getElem_cons_zero]
                  refine wpAnyH_take (i := 19) (v := .bool true) rfl (by kernel_rfl) (by kernel_rfl) (by kernel_rfl) (fun _ _ _ h => h) (Or.inl ⟨by rfl, ?_⟩) (by assumption) ?_
                  · intro w' hSw
                    go_simp
                  try simp only [Act.put, List.setIfInBounds_toArray, List.set_cons_zero, List.set_cons_succ, List.getElem_toArray, List.getElem_cons_succ, List.getElem_cons_zero]
                  refine wpAnyH_take (i := 20) (v := ?_) rfl (by kernel_rfl) (by kernel_rfl) (by kernel_rfl) (fun _ _ _ h => h) (Or.inl ⟨by rfl, ?_⟩) (by assumption) ?_
                  rotate_left
                  · intro w' hSw
                    go_simp
                    try with_reducible rfl
                  try simp only [Act.put, List.setIfInBounds_toArray, List.set_cons_zero, List.set_cons_succ, List.getElem_toArray, List.getElem_cons_succ, List.getElem_cons_zero]
                  refine wpAnyH_take (i := 21) (v := ?_) rfl (by kernel_rfl) (by kernel_rfl) (by kernel_rfl) (fun _ _ _ h => h) (Or.inl ⟨by rfl, ?_⟩) (by assumption) ?_
                  rotate_left
                  · intro w' hSw
                    go_simp
                    try with_reducible rfl
                  try simp only [Act.put, List.setIfInBounds_toArray, List.set_cons_zero, List.set_cons_succ, List.getElem_toArray, List.getElem_cons_succ, List.getElem_cons_zero]
                  refine wpAnyH_take (i := 22) (v := _) rfl (by kernel_rfl) (by kernel_rfl) (by kernel_rfl) (fun _ _ _ h => h) ((yields_at 134 _ gf 0 (fireC ⟨i, y, a, 0⟩) _ (by rfl) rfl (by rfl) (fun w' h => cells_far h HCF.out (Nat.le_refl _) (fun h => h)) Tryz.underlying134 rfl (infoRF _))) (by assumption) ?_
                  try simp only [Act.put, List.setIfInBounds_toArray, List.set_cons_zero, List.set_cons_succ, List.getElem_toArray, List.getElem_cons_succ, List.getElem_cons_zero]
                  refine wpAnyH_take (i := 23) (v := _) rfl (by kernel_rfl) (by kernel_rfl) (by kernel_rfl) (fun _ _ _ h => h) ((yields_blk 134 _ w.heap.size 0 134 (fireC B) (fireC B) _ (by rfl) rfl (by rfl) (fun w' h => h.blk HBW.out (fun h => h)) Tryz.underlying134 rfl (infoRF _) (zero_part _))) (by assumption) ?_
                  try simp only [Act.put, List.setIfInBounds_toArray, List.set_cons_zero, List.set_cons_succ, List.getElem_toArray, List.getElem_cons_succ, List.getElem_cons_zero]
                  refine wpAnyH_ready (rs := [24]) (by kernel_rfl) (by simp) ?_
                  refine AllReadyH.cons rfl (fun K hK => ?_) AllReadyH.nil
                  go_simp
                  refine (HBE.out _).mono ?_
                  rintro e w24 ⟨rfl, hf24⟩
                  refine hK.out _ _ (ff4 hHeld hf24) (fun hHeld2 => ?_)
                  clear hK K hHeld hf24
                  rename_i hHeld2
                  have hHeld := hHeld2
                  clear hHeld2
                  try simp only [Act.put, List.setIfInBounds_toArray, List.set_cons_zero, List.set_cons_succ, List.getElem_toArray, List.getElem_cons_succ, List.getElem_cons_zero]
                  refine wpAnyH_take (i := 25) (v := ?_) rfl (by kernel_rfl) (by kernel_rfl) (by kernel_rfl) (fun _ _ _ h => h) (Or.inl ⟨by rfl, ?_⟩) (by assumption) ?_
                  rotate_left
                  · intro w' hSw
                    go_simp
                    try with_reducible rfl
                  try simp only [Act.put, List.setIfInBounds_toArray, List.set_cons_zero, List.set_cons_succ, List.getElem_toArray, List.getElem_cons_succ, List.getElem_cons_zero]
                  refine wpAnyH_take (i := 26) (v := ?_) rfl (by kernel_rfl) (by kernel_rfl) (by kernel_rfl) (fun _ _ _ h => h) (Or.inl ⟨by rfl, ?_⟩) (by assumption) ?_
                  rotate_left
                  · intro w' hSw
                    go_simp
                    try with_reducible rfl
                  try simp only [Act.put, List.setIfInBounds_toArray, List.set_cons_zero, List.set_cons_succ, List.getElem_toArray, List.getElem_cons_succ, List.getElem_cons_zero]
                  refine wpAnyH_done (by kernel_rfl) ?_ _
                  have hd := hHeld
                  clear hHeld f1 g1
                  clear d1 d2
                  have HFW2 := Lib.hid (ff4 HFW.out hd)
                  have HBW2 := Lib.hid (hd.blk HBW.out (fun h => h))
                  have HCF2 := Lib.hid (cells_far hd HCF.out (Nat.le_refl _) (fun h => h))
                  have HC4 := Lib.hid (cells_far hd HC3.out (Nat.le_refl _) (fun h => h))
                  clear hd
                  go_wp2_with (first
                    | ((with_reducible refine at_load4 134 ?_); refine wpList_load_at 134 _ gf 0 (fireC ⟨i, y, a, 0⟩) _ (by rfl) rfl rfl HCF2.out Tryz.underlying134 rfl (infoRF _) ?_)
                    | ((with_reducible refine at_store4 134 ?_); refine wpList_store_blk 134 _ _ w.heap.size 0 134 (fireC B) (fireC ⟨i, y, a, 0⟩) (fireC ⟨i, y, a, 0⟩) (by rfl) rfl rfl rfl rfl HBW2.out (infoRF _) (fireC_one _) (show 0 + 4 ≤ 4 by decide) (put_rf _ _) ?_
                       intro W5 hf5 hb5
                       have HF5 := Lib.hid (HFW2.out.fresh hf5 (fun i e => by have e : i = w.heap.size := e; omega))
                       have HB5 := Lib.hid hb5
                       have c10 : W5.cell? ⟨bb, off + i * 11 + 10, none⟩ = some (strV r.letter) := cell_far hf5 (HC4.out 10 (show 10 < 11 by decide)) (fun e => by have e : bb = w.heap.size := e; have := HBB.out; omega)
                       clear hf5 hb5))
                  go_roundg (l.length - (i + 1))
                  case measure => omega
                  case rel => exact ⟨i + 1, ⟨i, y, a, 0⟩, some (y, a, r.letter), by rw [HNx.out, HLF.out], by omega, by go_num, rfl, rfl, ⟨rfl, rfl, by show (i : Int) < ((i + 1 : Nat) : Int); omega⟩, HB5.out, HF5.out⟩
                · have HLF := Lib.hid (show letF (some q) r = some q from letF_more H0.out HFR.out (by show ¬ (y < q.1 ∨ (y = q.1 ∧ a < q.2.1)); omega))
                  have HBE := Lib.hid (fun W => before_no (f := ⟨i, y, a, 0⟩) (g := B) (fun h => by unfold befo at h; dsimp only at h; omega) W)
                  have d1 : decide (y < B.y) = false := decide_eq_false (by omega)
                  have d2 : (y == B.y) = true := by rw [beq_iff_eq]; exact h3
                  clear k1 k2 k3 h3 h4
                  refine wp_region_held_drew (S := fun w' => Fr W w' (fun _ => False)) (by kernel_rfl) (Fr.drew W _) (fun hHeld => ?_)
                  refine wpAnyH_take (i := 0) (v := ?_) rfl (by kernel_rfl) (by kernel_rfl) (by kernel_rfl) (fun _ _ _ h => h) (Or.inl ⟨by rfl, ?_⟩) (by assumption) ?_
                  rotate_left
                  · intro w' hSw
                    go_simp
                    try with_reducible rfl
                  try simp only [Act.put, List.setIfInBounds_toArray, List.set_cons_zero, List.set_cons_succ, List.getElem_toArray, List.getElem_cons_zero]
                  refine wpAnyH_take (i := 1) (v := .bool false) rfl (by kernel_rfl) (by kernel_rfl) (by kernel_rfl) (fun _ _ _ h => h) (Or.inl ⟨by rfl, ?_⟩) (by assumption) ?_
                  · intro w' hSw
                    go_simp
                  try simp only [Act.put, List.setIfInBounds_toArray, List.set_cons_zero, List.set_cons_succ, List.getElem_toArray, List.getElem_cons_succ, List.getElem_cons_zero]
                  refine wpAnyH_take (i := 2) (v := .bool false) rfl (by kernel_rfl) (by kernel_rfl) (by kernel_rfl) (fun _ _ _ h => h) (Or.inl ⟨by rfl, ?_⟩) (by assumption) ?_
                  · intro w' hSw
                    go_simp
                  try simp only [Act.put, List.setIfInBounds_toArray, List.set_cons_zero, List.set_cons_succ, List.getElem_toArray, List.getElem_cons_succ, List.getElem_cons_zero]
                  refine wpAnyH_take (i := 3) (v := ?_) rfl (by kernel_rfl) (by kernel_rfl) (by kernel_rfl) (fun _ _ _ h => h) (Or.inl ⟨by rfl, ?_⟩) (by assumption) ?_
                  rotate_left
                  · intro w' hSw
                    go_simp
                    try with_reducible rfl
                  try simp only [Act.put, List.setIfInBounds_toArray, List.set_cons_zero, List.set_cons_succ, List.getElem_toArray, List.getElem_cons_succ, List.getElem_cons_zero]
                  refine wpAnyH_take (i := 4) (v := ?_) rfl (by kernel_rfl) (by kernel_rfl) (by kernel_rfl) (fun _ _ _ h => h) (Or.inl ⟨by rfl, ?_⟩) (by assumption) ?_
                  rotate_left
                  · intro w' hSw
                    go_simp
                    try with_reducible rfl
                  try simp only [Act.put, List.setIfInBounds_toArray, List.set_cons_zero, List.set_cons_succ, List.getElem_toArray, List.getElem_cons_succ, List.getElem_cons_zero]
                  refine wpAnyH_take (i := 5) (v := ?_) rfl (by kernel_rfl) (by kernel_rfl) (by kernel_rfl) (fun _ _ _ h => h) (Or.inl ⟨by rfl, ?_⟩) (by assumption) ?_
                  rotate_left
                  · intro w' hSw
                    go_simp
                    try with_reducible rfl
                  try simp only [Act.put, List.setIfInBounds_toArray, List.set_cons_zero, List.set_cons_succ, List.getElem_toArray, List.getElem_cons_succ, List.getElem_cons_zero]
                  refine wpAnyH_take (i := 6) (v := ?_) rfl (by kernel_rfl) (by kernel_rfl) (by kernel_rfl) (fun _ _ _ h => h) (Or.inl ⟨by rfl, ?_⟩) (by assumption) ?_
                  rotate_left
                  · intro w' hSw
                    have f1 : w'.cell? ⟨gf, 1, none⟩ = some (.int .i64 y) := cell_far hSw f1 (fun h => h)
                    go_simp
                    try with_reducible rfl
                  try simp only [Act.put, List.setIfInBounds_toArray, List.set_cons_zero, List.set_cons_succ, List.getElem_toArray, List.getElem_cons_succ, List.getElem_cons_zero]
                  refine wpAnyH_take (i := 7) (v := ?_) rfl (by kernel_rfl) (by kernel_rfl) (by kernel_rfl) (fun _ _ _ h => h) (Or.inl ⟨by rfl, ?_⟩) (by assumption) ?_
                  rotate_left
                  · intro w' hSw
                    go_simp
                    try with_reducible rfl
                  try simp only [Act.put, List.setIfInBounds_toArray, List.set_cons_zero, List.set_cons_succ, List.getElem_toArray, List.getElem_cons_succ, List.getElem_cons_zero]
                  refine wpAnyH_take (i := 8) (v := ?_) rfl (by kernel_rfl) (by kernel_rfl) (by kernel_rfl) (fun _ _ _ h => h) (Or.inl ⟨by rfl, ?_⟩) (by assumption) ?_
                  rotate_left
                  · intro w' hSw
                    have g1 : w'.cell? ⟨w.heap.size, 1, none⟩ = some (.int .i64 B.y) := cell_far hSw g1 (fun h => h)
                    go_simp
                    try with_reducible rfl
                  try simp only [Act.put, List.setIfInBounds_toArray, List.set_cons_zero, List.set_cons_succ, List.getElem_toArray, List.getElem_cons_succ, List.getElem_cons_zero]
                  refine wpAnyH_take (i := 9) (v := .bool false) rfl (by kernel_rfl) (by kernel_rfl) (by kernel_rfl) (fun _ _ _ h => h) (Or.inl ⟨by rfl, ?_⟩) (by assumption) ?_
                  · intro w' hSw
                    go_simp
                  try simp only [Act.put, List.setIfInBounds_toArray, List.set_cons_zero, List.set_cons_succ, List.getElem_toArray, List.getElem_cons_succ, List.getElem_cons_zero]
                  refine wpAnyH_take (i := 10) (v := .bool false) rfl (by kernel_rfl) (by kernel_rfl) (by kernel_rfl) (fun _ _ _ h => h) (Or.inl ⟨by rfl, ?_⟩) (by assumption) ?_
                  · intro w' hSw
                    go_simp
                  try simp only [Act.put, List.setIfInBounds_toArray, List.set_cons_zero, List.set_cons_succ, List.getElem_toArray, List.getElem_cons_succ, List.getElem_cons_zero]
                  refine wpAnyH_take (i := 11) (v := .bool false) rfl (by kernel_rfl) (by kernel_rfl) (by kernel_rfl) (fun _ _ _ h => h) (Or.inl ⟨by rfl, ?_⟩) (by assumption) ?_
                  · intro w' hSw
                    go_simp
                  try simp only [Act.put, List.setIfInBounds_toArray, List.set_cons_zero, List.set_cons_succ, List.getElem_toArray, List.getElem_cons_succ, List.getElem_cons_zero]
                  refine wpAnyH_take (i := 12) (v := ?_) rfl (by kernel_rfl) (by kernel_rfl) (by kernel_rfl) (fun _ _ _ h => h) (Or.inl ⟨by rfl, ?_⟩) (by assumption) ?_
                  rotate_left
                  · intro w' hSw
                    go_simp
                    try with_reducible rfl
                  try simp only [Act.put, List.setIfInBounds_toArray, List.set_cons_zero, List.set_cons_succ, List.getElem_toArray, List.getElem_cons_succ, List.getElem_cons_zero]
                  refine wpAnyH_take (i := 13) (v := ?_) rfl (by kernel_rfl) (by kernel_rfl) (by kernel_rfl) (fun _ _ _ h => h) (Or.inl ⟨by rfl, ?_⟩) (by assumption) ?_
                  rotate_left
                  · intro w' hSw
                    go_simp
                    try with_reducible rfl
                  try simp only [Act.put, List.setIfInBounds_toArray, List.set_cons_zero, List.set_cons_succ, List.getElem_toArray, List.getElem_cons_succ, List.getElem_cons_zero]
                  refine wpAnyH_take (i := 14) (v := ?_) rfl (by kernel_rfl) (by kernel_rfl) (by kernel_rfl) (fun _ _ _ h => h) (Or.inl ⟨by rfl, ?_⟩) (by assumption) ?_
                  rotate_left
                  · intro w' hSw
                    go_simp
                    try with_reducible rfl
                  try simp only [Act.put, List.setIfInBounds_toArray, List.set_cons_zero, List.set_cons_succ, List.getElem_toArray, List.getElem_cons_succ, List.getElem_cons_zero]
                  refine wpAnyH_take (i := 15) (v := ?_) rfl (by kernel_rfl) (by kernel_rfl) (by kernel_rfl) (fun _ _ _ h => h) (Or.inl ⟨by rfl, ?_⟩) (by assumption) ?_
                  rotate_left
                  · intro w' hSw
                    have f1 : w'.cell? ⟨gf, 1, none⟩ = some (.int .i64 y) := cell_far hSw f1 (fun h => h)
                    go_simp
                    try with_reducible rfl
                  try simp only [Act.put, List.setIfInBounds_toArray, List.set_cons_zero, List.set_cons_succ, List.getElem_toArray, List.getElem_cons_succ, List.getElem_cons_zero]
                  refine wpAnyH_take (i := 16) (v := ?_) rfl (by kernel_rfl) (by kernel_rfl) (by kernel_rfl) (fun _ _ _ h => h) (Or.inl ⟨by rfl, ?_⟩) (by assumption) ?_
                  rotate_left
                  · intro w' hSw
                    go_simp
                    try with_reducible rfl
                  try simp only [Act.put, List.setIfInBounds_toArray, List.set_cons_zero, List.set_cons_succ, List.getElem_toArray, List.getElem_cons_succ, List.getElem_cons_zero]
                  refine wpAnyH_take (i := 17) (v := ?_) rfl (by kernel_rfl) (by kernel_rfl) (by kernel_rfl) (fun _ _ _ h => h) (Or.inl ⟨by rfl, ?_⟩) (by assumption) ?_
                  rotate_left
                  · intro w' hSw
                    have g1 : w'.cell? ⟨w.heap.size, 1, none⟩ = some (.int .i64 B.y) := cell_far hSw g1 (fun h => h)
                    go_simp
                    try with_reducible rfl
                  try simp only [Act.put, List.setIfInBounds_toArray, List.set_cons_zero, List.set_cons_succ, List.getElem_toArray, List.getElem_cons_succ, List.getElem_cons_zero]
                  refine wpAnyH_take (i := 18) (v := .bool true) rfl (by kernel_rfl) (by kernel_rfl) (by kernel_rfl) (fun _ _ _ h => h) (Or.inl ⟨by rfl, ?_⟩) (by assumption) ?_
                  · intro w' hSw
                    go_simp
                  try simp only [Act.put, List.setIfInBounds_toArray, List.set_cons_zero, List.set_cons_succ, List.getElem_toArray, List.getElem_cons_succ, List.getElem_cons_zero]
                  refine wpAnyH_take (i := 19) (v := .bool true) rfl (by kernel_rfl) (by kernel_rfl) (by kernel_rfl) (fun _ _ _ h => h) (Or.inl ⟨by rfl, ?_⟩) (by assumption) ?_
                  · intro w' hSw
                    go_simp
                  try simp only [Act.put, List.setIfInBounds_toArray, List.set_cons_zero, List.set_cons_succ, List.getElem_toArray, List.getElem_cons_succ, List.getElem_cons_zero]
                  refine wpAnyH_take (i := 20) (v := ?_) rfl (by kernel_rfl) (by kernel_rfl) (by kernel_rfl) (fun _ _ _ h => h) (Or.inl ⟨by rfl, ?_⟩) (by assumption) ?_
                  rotate_left
                  · intro w' hSw
                    go_simp
                    try with_reducible rfl
                  try simp only [Act.put, List.setIfInBounds_toArray, List.set_cons_zero, List.set_cons_succ, List.getElem_toArray, List.getElem_cons_succ, List.getElem_cons_zero]
                  refine wpAnyH_take (i := 21) (v := ?_) rfl (by kernel_rfl) (by kernel_rfl) (by kernel_rfl) (fun _ _ _ h => h) (Or.inl ⟨by rfl, ?_⟩) (by assumption) ?_
                  rotate_left
                  · intro w' hSw
                    go_simp
                    try with_reducible rfl
                  try simp only [Act.put, List.setIfInBounds_toArray, List.set_cons_zero, List.set_cons_succ, List.getElem_toArray, List.getElem_cons_succ, List.getElem_cons_zero]
                  refine wpAnyH_take (i := 22) (v := _) rfl (by kernel_rfl) (by kernel_rfl) (by kernel_rfl) (fun _ _ _ h => h) ((yields_at 134 _ gf 0 (fireC ⟨i, y, a, 0⟩) _ (by rfl) rfl (by rfl) (fun w' h => cells_far h HCF.out (Nat.le_refl _) (fun h => h)) Tryz.underlying134 rfl (infoRF _))) (by assumption) ?_
                  try simp only [Act.put, List.setIfInBounds_toArray, List.set_cons_zero, List.set_cons_succ, List.getElem_toArray, List.getElem_cons_succ, List.getElem_cons_zero]
                  refine wpAnyH_take (i := 23) (v := _) rfl (by kernel_rfl) (by kernel_rfl) (by kernel_rfl) (fun _ _ _ h => h) ((yields_blk 134 _ w.heap.size 0 134 (fireC B) (fireC B) _ (by rfl) rfl (by rfl) (fun w' h => h.blk HBW.out (fun h => h)) Tryz.underlying134 rfl (infoRF _) (zero_part _))) (by assumption) ?_
                  try simp only [Act.put, List.setIfInBounds_toArray, List.set_cons_zero, List.set_cons_succ, List.getElem_toArray, List.getElem_cons_succ, List.getElem_cons_zero]
                  refine wpAnyH_ready (rs := [24]) (by kernel_rfl) (by simp) ?_
                  refine AllReadyH.cons rfl (fun K hK => ?_) AllReadyH.nil
                  go_simp
                  refine (HBE.out _).mono ?_
                  rintro e w24 ⟨rfl, hf24⟩
                  refine hK.out _ _ (ff4 hHeld hf24) (fun hHeld2 => ?_)
                  clear hK K hHeld hf24
                  rename_i hHeld2
                  have hHeld := hHeld2
                  clear hHeld2
                  try simp only [Act.put, List.setIfInBounds_toArray, List.set_cons_zero, List.set_cons_succ, List.getElem_toArray, List.getElem_cons_succ, List.getElem_cons_zero]
                  refine wpAnyH_take (i := 25) (v := ?_) rfl (by kernel_rfl) (by kernel_rfl) (by kernel_rfl) (fun _ _ _ h => h) (Or.inl ⟨by rfl, ?_⟩) (by assumption) ?_
                  rotate_left
                  · intro w' hSw
                    go_simp
                    try with_reducible rfl
                  try simp only [Act.put, List.setIfInBounds_toArray, List.set_cons_zero, List.set_cons_succ, List.getElem_toArray, List.getElem_cons_succ, List.getElem_cons_zero]
                  refine wpAnyH_take (i := 26) (v := ?_) rfl (by kernel_rfl) (by kernel_rfl) (by kernel_rfl) (fun _ _ _ h => h) (Or.inl ⟨by rfl, ?_⟩) (by assumption) ?_
                  rotate_left
                  · intro w' hSw
                    go_simp
                    try with_reducible rfl
                  try simp only [Act.put, List.setIfInBounds_toArray, List.set_cons_zero, List.set_cons_succ, List.getElem_toArray, List.getElem_cons_succ, List.getElem_cons_zero]
                  refine wpAnyH_done (by kernel_rfl) ?_ _
                  have hd := hHeld
                  clear hHeld f1 g1
                  clear d1 d2
                  have HFW2 := Lib.hid (ff4 HFW.out hd)
                  have HBW2 := Lib.hid (hd.blk HBW.out (fun h => h))
                  have HCF2 := Lib.hid (cells_far hd HCF.out (Nat.le_refl _) (fun h => h))
                  have HC4 := Lib.hid (cells_far hd HC3.out (Nat.le_refl _) (fun h => h))
                  clear hd
                  go_wp2_with fail
                  go_roundg (l.length - (i + 1))
                  case measure => omega
                  case rel => exact ⟨i + 1, B, some q, by rw [HNx.out, HLF.out], by omega, by go_num, by rw [HOu.out], rfl, HBe.out.up, HBW2.out, HFW2.out⟩
      · have HE := Lib.hid (show letF b r = b from letF_save h0)
        have h1 : (r.save == 0) = false := beq_eq_false_iff_ne.2 h0
        clear h0
        go_wp2_with fail
        go_roundg (l.length - (i + 1))
        case measure => omega
        case rel => exact ⟨i + 1, B, b, by rw [HNx.out, HE.out], by omega, by go_num, by rw [HOu.out], by rw [HIs.out], HBe.out.up, HBk.out, HF.out⟩
    · obtain rfl : i = l.length := by omega
      have HE := Lib.hid (show letD l = out by
        rw [← hout, hb, List.take_length]
        unfold letD Go.Xpd.letB
        cases (l.foldl letF none) <;> rfl)
      rw [hout, his]
      clear hb hbest hblk hf hout his
      go_wp2_with fail
      go_ret
      exact ⟨by rw [HE.out]; rfl, HF.out⟩
end Go.Proofs.YtghcfmoagkimaaaGreatDoor
