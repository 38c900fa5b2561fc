import Derived.Test.YtghcfmoagkimaaaGreatDoorYa14
import Derived.Test.YtghcfmoagkimaaaGreatDoorYa17
import Derived.Laws.StructEq
import Derived.Test.YtghcfmoagkimaaaGreatDoorYa18
namespace Go.Proofs.YtghcfmoagkimaaaGreatDoor
open Go.RowKit Go.Mem Go.Lin Go.Xpd

set_option maxHeartbeats 1600000 in
theorem yInst_any (l : List RuleL) (A : Option Addr) (cap : Nat) (f : FireL) (off : Int) (w : World) (hl : RusAt w A l) (_hn : l.length ≤ 1000) (hf : -1000000000000000 ≤ f.at_ ∧ f.at_ ≤ 1000000000000000) (ho : -100000 ≤ off ∧ off ≤ 100000) (hb : -100000 ≤ f.bef ∧ f.bef ≤ 100000) :
    Calls Tryz.prog 76 #[.slice A l.length cap, fireV f, intV off] w fun e w' => e = .returned (intV (instD l f off)) ∧ Fr w w' (fun _ => False) := by
  obtain ⟨i, y, a, b⟩ := f
  obtain ⟨f1, f2⟩ : -1000000000000000 ≤ a ∧ a ≤ 1000000000000000 := hf
  obtain ⟨b1, b2⟩ : -100000 ≤ b ∧ b ≤ 100000 := hb
  have HF := Lib.hid (Fr.new w (.cells #[intV i, intV y, intV a, intV b] 134) (fun _ => False))
  have HL := Lib.hid (hl.kept HF.out)
  unfold fireV fireC
  dsimp only
  clear hl
  by_cases hi : i < 0
  · have HE := Lib.hid (show instD l ⟨i, y, a, b⟩ off = 0 from if_neg (by show ¬ (0 ≤ i); omega))
    go_enter Tryz.func76, Tryz.ntmps76
    go_wp2_with fail
    go_ret
    exact ⟨by rw [HE.out]; rfl, HF.out⟩
  · by_cases hg : (l.length : Int) ≤ i
    · have HE := Lib.hid (show instD l ⟨i, y, a, b⟩ off = 0 by
        unfold instD
        rw [if_pos (by show 0 ≤ i; omega)]
        show (match l[i.toNat]? with | none => _ | some r => _) = _
        rw [List.getElem?_eq_none (by omega)])
      go_enter Tryz.func76, Tryz.ntmps76
      go_wp2_with fail
      go_ret
      exact ⟨by rw [HE.out]; rfl, HF.out⟩
    · obtain ⟨k, rfl⟩ : ∃ k : Nat, i = k := ⟨i.toNat, by omega⟩
      have hk : k < l.length := by omega
      obtain ⟨r, hri⟩ : ∃ r, l[k]? = some r := ⟨l[k], List.getElem?_eq_getElem hk⟩
      obtain ⟨bk, o, hA, hc⟩ := HL.out.at_ hri
      subst hA
      have k0 : (k : Int) < (l.length : Int) := by omega
      have HE := Lib.hid (show instD l ⟨k, y, a, b⟩ off = if r.at_.k = 0 then a - off - b else if r.at_.k = 1 then a - off else a by
        unfold instD
        rw [if_pos (by show (0 : Int) ≤ (k : Int); omega)]
        show (match l[(k : Int).toNat]? with | none => _ | some r => _) = _
        rw [Int.toNat_natCast, hri])
      have c8 : (w.alloc (.cells #[intV k, intV y, intV a, intV b] 134)).cell? ⟨bk, o + k * 11 + 8, none⟩ = some (.int .i64 r.at_.k) := hc 8 (show 8 < 11 by decide)
      have hbk : bk < w.heap.size + 1 := by
        have := World.block_lt_of_cell? _ _ c8
        simpa using this
      clear hc hri hi hg
      by_cases h0 : r.at_.k = 0
      · rw [if_pos h0] at HE
        rw [h0] at c8
        go_enter Tryz.func76, Tryz.ntmps76
        go_wp2_with fail
        go_ret
        exact ⟨by rw [HE.out]; rfl, HF.out⟩
      · rw [if_neg h0] at HE
        by_cases h1 : r.at_.k = 1
        · rw [if_pos h1] at HE
          rw [h1] at c8
          go_enter Tryz.func76, Tryz.ntmps76
          go_wp2_with fail
          go_ret
          exact ⟨by rw [HE.out]; rfl, HF.out⟩
        · rw [if_neg h1] at HE
          have h0 : (r.at_.k == 0) = false := beq_eq_false_iff_ne.2 h0
          have h1 : (r.at_.k == 1) = false := beq_eq_false_iff_ne.2 h1
          go_enter Tryz.func76, Tryz.ntmps76
          go_wp2_with fail
          go_ret
          exact ⟨by rw [HE.out]; rfl, HF.out⟩
end Go.Proofs.YtghcfmoagkimaaaGreatDoor
namespace Go.Proofs.YtghcfmoagkimaaaGreatDoor
open Go.RowKit Go.Mem Go.Lin Go.Xpd

theorem fromN_len (l : List RuleL) (y : Int) : ∀ n : Nat, (fromN l y n).length ≤ l.length * n
  | 0 => Nat.zero_le _
  | n + 1 => by
    have ih := fromN_len l y n
    show (fromN l y n ++ markF l (befY l (y + n)) (yearD l (y + n))).length ≤ _
    rw [List.length_append, markF_len, Nat.mul_add]
    have := yearN_len l (y + n) l.length
    have h2 : (yearD l (y + n)).length ≤ l.length := this
    omega
theorem from_at (l : List RuleL) (a b : Int) {Y : Int} (hY : Y = max a (max 1 (leastD l))) : fromD l a b = fromN l Y (min b 9999 + 1 - Y).toNat := by
  have h := from_skip (l := l) (a := max a 1) (c := Y) (b := b) (by omega) (by omega) fun x h1 h2 => least_none (by omega)
  rw [← h]
  unfold fromD
  rw [show max (max a 1) 1 = max a 1 by omega]
theorem markF_next {l : List RuleL} {s : Int} {F : List FireL} {m : Nat} {x : FireL} (h : F[m]? = some x) : markF l s (F.take (m + 1)) = markF l s (F.take m) ++ [{ x with bef := endS l s (F.take m) }] ∧ endS l s (F.take (m + 1)) = savD l x.i := by
  rw [List.take_add_one, h]
  refine ⟨?_, ?_⟩
  · show markF l s (F.take m ++ [x]) = _
    rw [markF_app]; rfl
  · show endS l s (F.take m ++ [x]) = _
    rw [endS_app]; rfl
set_option maxHeartbeats 3200000 in
set_option maxRecDepth 100000 in
theorem from_any (l : List RuleL) (A : Option Addr) (cap : Nat) (a b : Int) (w : World) (hl : RusAt w A l) (hn : l.length ≤ 1000) (hr : ∀ r ∈ l, OkR r) (ha : -1000000 ≤ a ∧ a ≤ 1000000) (hb : -1000000 ≤ b ∧ b ≤ 1000000) (hw : b - a ≤ 50) :
    Calls Tryz.prog 105 #[.slice A l.length cap, intV a, intV b] w fun e w' => ∃ v, e = .returned v ∧ FiresAt w' w.heap.size v (fromD l a b) ∧ Fr w w' (fun _ => False) := by
  have HL := Lib.hid hl
  have HA := Lib.hid (ahead_any l A cap (max a 1) w hl hn hr (by omega))
  have HLe := Lib.hid (fun (W : World) (f : Fr w W (fun _ => False)) => least_any l A cap W (hl.kept f) hn)
  have HYr := Lib.hid (fun (x : Int) (W : World) (f : Fr w W (fun _ => False)) => year_any l A cap x W (hl.kept f) hn (fun r h => (hr r h).s))
  have hle := least_range l
  have HD := Lib.hid (fun Y hY => from_at l a b (Y := Y) hY)
  have HB0 := Lib.hid (show befY l (max a 1) = befY l (max a (max 1 (leastD l))) from (befY_skip (by omega) fun x h1 h2 => least_none (by omega)).symm)
  clear hl hr
  go_enter Tryz.func105, Tryz.ntmps105
  go_wp2_with fail
  refine HA.out.mono ?_
  rintro e w2 ⟨rfl, hf2⟩
  have HF2 := Lib.hid hf2
  clear hf2
  go_wp2_with fail
  refine (HLe.out w2 HF2.out).mono ?_
  rintro e w3 ⟨rfl, hf3⟩
  have HF3 := Lib.hid (ff4 HF2.out hf3)
  clear hf3 HF2
  go_wp2_with fail
  generalize hY : max a (max 1 (leastD l)) = Y at *
  generalize hBb : min b 9999 = Bb at *
  have hY1 : a ≤ Y := by omega
  have hY3 : 1 ≤ Y ∧ Y ≤ 1000000 := by omega
  have hB1 : Bb ≤ b ∧ Bb ≤ 9999 ∧ -1000000 ≤ Bb := by omega
  have HYe := Lib.hid hY
  have HBe := Lib.hid hBb
  clear hY hBb
  go_loopg [7, 8, 9, 10, 11] 1010001 (fun g v7 v8 v9 _ _ wr => ∃ n : Nat, v9 = intV (Y + n) ∧ (n = 0 ∨ Y + n ≤ Bb + 1) ∧ Bb + 1 - (Y + n) ≤ g ∧ v7 = intV (befY l (Y + n)) ∧ FiresAt wr w.heap.size v8 (fromN l Y n) ∧ Fr w wr (fun _ => False))
  case atStart => exact ⟨0, by rw [show Y + ((0 : Nat) : Int) = Y by omega], .inl rfl, by omega, by rw [show Y + ((0 : Nat) : Int) = Y by omega, ← HB0.out], own_none _ _ _ _ _, HF3.out⟩
  case round =>
    obtain ⟨n, rfl, hn0, hg, rfl, ho, hf⟩ := hrel
    obtain ⟨G, hGk⟩ : ∃ G, gk = G := ⟨_, rfl⟩
    rw [hGk] at hg
    have HF := Lib.hid hf
    have HO := Lib.hid ho
    have hG := fromN_len l Y n
    obtain ⟨y, hyv⟩ : ∃ y : Int, Y + n = y := ⟨_, rfl⟩
    have HYv := Lib.hid hyv
    have HYx := Lib.hid (HYr.out y)
    have hn1 : n ≤ 51 := by omega
    have hy1 : -1000001 ≤ y ∧ y ≤ 1000052 := by omega
    rw [hyv] at hn0 hg ⊢
    clear hf ho
    by_cases hx : y ≤ Bb
    · have hG2 : (fromN l Y n).length ≤ 51000 := Nat.le_trans hG (Nat.le_trans (Nat.mul_le_mul hn hn1) (by decide))
      clear hyv hG
      obtain ⟨s, hs⟩ : ∃ s, befY l y = s := ⟨_, rfl⟩
      have HSv := Lib.hid hs
      rw [hs]
      clear hs
      go_wp2_with fail
      refine (HYx.out wr HF.out).mono ?_
      rintro e w4 ⟨v, rfl, ho4, hf4⟩
      obtain ⟨A4, c4, rfl, -, -, -⟩ := ho4.rd
      have HF4 := Lib.hid hf4
      have HO4 := Lib.hid ho4
      have hFl : (yearD l y).length ≤ 1000 := Nat.le_trans (yearN_len l y l.length) hn
      obtain ⟨F, hFv⟩ : ∃ F, yearD l y = F := ⟨_, rfl⟩
      have HFv := Lib.hid hFv
      rw [hFv] at HO4 hFl ⊢
      clear ho4 hf4 hFv
      go_wp2_with fail
      go_loopg [7, 11] F.length (fun g v7 v11 wr2 => ∃ m : Nat, m + g = F.length ∧ v11 = intV m ∧ v7 = intV (endS l s (F.take m)) ∧ FiresAt wr2 wr.heap.size (.slice A4 F.length c4) (markF l s (F.take m) ++ F.drop m) ∧ Fr w4 wr2 (fun i => wr.heap.size ≤ i))
      case atStart => exact ⟨0, by simp, rfl, rfl, HO4.out, Fr.refl _ _⟩
      case round =>
        obtain ⟨m, hm, rfl, rfl, ho5, hf5⟩ := hrel
        have hsz := HF4.out.size
        have HF5 := Lib.hid (HF4.out.fresh hf5 fun _ h => h)
        by_cases hlt : m < F.length
        · obtain ⟨x, hx⟩ : ∃ x, F[m]? = some x := ⟨F[m], List.getElem?_eq_getElem hlt⟩
          obtain ⟨k, r, hk, hxi, hsv⟩ := sav_of (show x ∈ yearD l y by rw [HFv.out]; exact List.mem_of_getElem? hx)
          obtain ⟨M1, M2⟩ := markF_next (l := l) (s := s) hx
          have hpl : (markF l s (F.take m)).length = m := by rw [markF_len, List.length_take]; omega
          have hd : F.drop m = x :: F.drop (m + 1) := by
            have := List.getElem?_eq_some_iff.1 hx
            rw [← this.2]; exact List.drop_eq_getElem_cons hlt
          rw [hd] at ho5
          obtain ⟨g, c, cur, hv, hgb, hbk, hsz3, hput⟩ := own_put fireL_len ho5 (show 3 < 4 by decide)
          rw [hpl] at hsz3 hput
          obtain ⟨rfl, -, rfl⟩ : A4 = some ⟨g, 0, none⟩ ∧ True ∧ c4 = c := by
            injection hv with h1 h2 h3
            exact ⟨h1, trivial, h3⟩
          have HSV := Lib.hid (M2.trans hsv)
          obtain ⟨sv, hsve⟩ : ∃ sv, endS l s (F.take m) = sv := ⟨_, rfl⟩
          rw [hsve] at M1 ⊢
          have hput := fun W hW => hput W (intV sv) { x with bef := sv } rfl hW
          rw [show markF l s (F.take m) ++ { x with bef := sv } :: F.drop (m + 1) = markF l s (F.take (m + 1)) ++ F.drop (m + 1) by rw [M1]; simp] at hput
          have HPUT := Lib.hid hput
          have HBK := Lib.hid hbk
          have HK := Lib.hid hk
          have HXI := Lib.hid hxi
          have hgm : (markF l s (F.take (m + 1)) ++ F.drop (m + 1))[m]? = some { x with bef := sv } := by
            rw [M1, List.append_assoc, List.getElem?_append_right (by omega), hpl, Nat.sub_self]; rfl
          have HGM := Lib.hid hgm
          have hml : (markF l s (F.take (m + 1)) ++ F.drop (m + 1)).length = F.length := by rw [List.length_append, markF_len, List.length_take, List.length_drop]; omega
          have HML := Lib.hid hml
          have HF5b := Lib.hid hf5
          have m0 : (m : Int) < (F.length : Int) := by omega
          have k0 : (k : Int) < (l.length : Int) := by have := (List.getElem?_eq_some_iff.1 hk).1; omega
          clear hx hk hxi hsv M1 M2 hpl hd ho5 hv hbk hput hsve hgm hml hf5
          have hfz : wr.frozen? ⟨g, m * 4 + 3, none⟩ = false := free_at HBK.out _
          have hce : wr.cell? ⟨g, m * 4 + 3, none⟩ = some cur[m * 4 + 3] := (cell_at HBK.out _).trans (Array.getElem?_eq_getElem hsz3)
          have hfW := Fr.set (w := wr) (a := ⟨g, m * 4 + 3, none⟩) (v := intV sv) (S := fun i => i = g) rfl
          have hbW := HBK.out.put' (m * 4 + 3) (intV sv) rfl
          generalize cur[m * 4 + 3] = old at *
          obtain ⟨W, hW9⟩ : ∃ W, wr.setCell ⟨g, m * 4 + 3, none⟩ (intV sv) = W := ⟨_, rfl⟩
          rw [hW9] at hfW hbW
          have HFW := Lib.hid (HF5b.out.trans hfW (fun _ _ h => h) (fun i _ h => by have h : i = g := h; rw [h]; exact hgb))
          have HFV := Lib.hid (HF5.out.fresh (show Fr _ W (fun i => i = g) from hfW) fun i h => by have h : i = g := h; rw [h]; exact hgb)
          have HOW := Lib.hid (HPUT.out W hbW)
          have c0 : W.cell? ⟨g, m * 4, none⟩ = some (.int .i64 (k : Int)) := by
            obtain ⟨A9, c9, e9, -, -, hrd⟩ := HOW.out.rd
            rw [HML.out] at e9
            injection e9 with e9 _ _
            rw [← e9] at hrd
            obtain ⟨b9, o9, e8, hc9⟩ := FiresAt.at_ hrd HGM.out
            injection e8 with e8
            injection e8 with e7 e6 _
            have := hc9 0 (show 0 < 4 by decide)
            rw [← e7, ← e6, Nat.zero_add, Nat.add_zero] at this
            rw [this, ← HXI.out]; rfl
          obtain ⟨b, off, hA, hc⟩ := (HL.out.kept (ff4 HF.out HFV.out)).at_ HK.out
          subst hA
          have c9 : W.cell? ⟨b, off + k * 11 + 9, none⟩ = some (.int .i64 r.save) := hc 9 (show 9 < 11 by decide)
          clear hc hfW hbW
          subst hW9
          go_wp2_with fail
          go_roundg (F.length - (m + 1))
          case measure => omega
          case rel => exact ⟨m + 1, by omega, by go_num, by rw [HSV.out], HOW.out, HFW.out⟩
        · obtain rfl : m = F.length := by omega
          rw [List.take_length, List.drop_length, List.append_nil] at ho5
          rw [List.take_length]
          obtain ⟨A9, c9, e9, -, -, hrd⟩ := ho5.rd
          rw [markF_len] at e9 hrd
          injection e9 with e9 _ e8
          rw [← e9] at hrd
          obtain ⟨i0, hi0, hz0, hz1, hz2⟩ := info_parts info_rfire
          have HRD := Lib.hid hrd
          have HO6 := Lib.hid (show FiresAt _ w.heap.size _ (fromN l Y n) from (HO.out.kept HF5.out))
          have HONE := Lib.hid (flat_ones4 fireL_one (markF l s F))
          have HF6 := Lib.hid (ff4 HF.out HF5.out)
          have HFN := Lib.hid (show fromN l Y (n + 1) = fromN l Y n ++ markF l s F by
            show fromN l Y n ++ markF l (befY l (Y + n)) (yearD l (Y + n)) = _
            rw [HYv.out, HSv.out, HFv.out])
          have HSN := Lib.hid (show befY l (y + 1) = endS l s F by rw [befY_succ, HSv.out, HFv.out])
          clear ho5 hf5 hrd e9 e8
          go_wp2_with (at_builtin
                       refine wpList_append_rd _ rfl _ _ 130 rfl w.heap.size 134 i0 _ 4 32 Tryz.underlying130 hi0 hz0 hz1 hz2 rfl (by decide) _ (fromN l Y n).length ((fromN l Y n).flatMap fireL) rfl HO6.out A4 F.length c4 ((markF l s F).flatMap fireL) rfl HRD.out HONE.out (by simp only [maxLen]; omega) (by omega) HF6.out.size ?_
                       intro v6 w6 ho6 hg6 _
                       have HO7 := Lib.hid (show FiresAt w6 w.heap.size v6 (fromN l Y (n + 1)) by
                         rw [HFN.out]
                         show w6.ownsRow _ _ _ _ (fromN l Y n ++ markF l s F).length ((fromN l Y n ++ markF l s F).flatMap fireL)
                         rw [List.length_append, markF_len, List.flatMap_append]
                         exact ho6)
                       have HF7 := Lib.hid (own_grown HF6.out HO6.out hg6)
                       clear ho6 hg6)
          go_roundg (G - 1)
          case measure => omega
          case rel =>
            have hyv := HYv.out
            have e1 : Y + ((n + 1 : Nat) : Int) = y + 1 := by omega
            exact ⟨n + 1, by rw [e1], .inr (by omega), by omega, by rw [e1, HSN.out], HO7.out, HF7.out⟩
    · have hnn : (Bb + 1 - Y).toNat = n := by omega
      have HE := Lib.hid (show fromD l a b = fromN l Y n by rw [HD.out Y rfl, hnn])
      clear hyv
      go_wp2_with fail
      go_ret
      exact ⟨_, rfl, by rw [HE.out]; exact HO.out, HF.out⟩
end Go.Proofs.YtghcfmoagkimaaaGreatDoor
namespace Go.Proofs.YtghcfmoagkimaaaGreatDoor
open Go.RowKit Go.Mem Go.Lin Go.Xpd

theorem yYear_any (l : List RuleL) (A : Option Addr) (cap : Nat) (y : Int) (w : World) (hl : RusAt w A l) (hn : l.length ≤ 1000) (hr : ∀ r ∈ l, OkR r) (hy : -1000000 ≤ y ∧ y ≤ 1000000) :
    Calls Tryz.prog 75 #[.slice A l.length cap, intV y] w fun e w' => ∃ v, e = .returned v ∧ FiresAt w' w.heap.size v (fromD l y y) ∧ Fr w w' (fun _ => False) := by
  have HF := Lib.hid (from_any l A cap y y w hl hn hr hy hy (by omega))
  clear hl hr
  go_enter Tryz.func75, Tryz.ntmps75
  go_wp2_with fail
  refine HF.out.mono ?_
  rintro e w2 ⟨v, rfl, ho, hf⟩
  have HO := Lib.hid ho
  have HF2 := Lib.hid hf
  clear ho hf
  go_wp2_with fail
  go_ret
  exact ⟨_, rfl, HO.out, HF2.out⟩
end Go.Proofs.YtghcfmoagkimaaaGreatDoor
namespace Go.Proofs.YtghcfmoagkimaaaGreatDoor
open Go.RowKit Go.Mem Go.Lin Go.Xpd Go.Den

theorem okS_of {l : List RuleL} (h : ∀ r ∈ l, OkF r) : OkS l := ⟨fun r hr => (h r hr).okR.s, fun r hr => ⟨(h r hr).2.2.1, (h r hr).2.2.2.1⟩⟩
theorem fromD_one {l : List RuleL} {x : Int} (hn : l.length ≤ 8) : (fromD l x x).length ≤ 8 := by
  unfold fromD
  have h1 := fromN_len l (max x 1) (min x 9999 + 1 - max x 1).toNat
  have h2 : (min x 9999 + 1 - max x 1).toNat ≤ 1 := by omega
  have h3 : l.length * (min x 9999 + 1 - max x 1).toNat ≤ 8 * 1 := Nat.mul_le_mul hn h2
  omega
theorem lowY_true {l : List RuleL} (y : Int) (h : (spanD l).2.2 = true) : lowY l y = y := if_pos h
theorem lowY_false {l : List RuleL} (y : Int) (h : (spanD l).2.2 = false) : lowY l y = min y (spanD l).2.1 := if_neg (by rw [h]; decide)
theorem savA_none {l : List RuleL} {off t : Int} (h : reachY t = none) : savA l off t = (0, letD l) := by unfold savA; rw [h]
theorem savA_nil {l : List RuleL} {off t : Int} (h : findA l off t = none) : savA l off t = (0, letD l) := by
  unfold savA
  rw [h]
  cases reachY t <;> rfl
theorem savA_some {l : List RuleL} {off t y : Int} {f : FireL} (h0 : reachY t = some y) (h : findA l off t = some f) : savA l off t = (savD l f.i, lettD l f.i) := by unfold savA; rw [h0, h]
set_option maxHeartbeats 6400000 in
set_option maxRecDepth 100000 in
theorem zSaving_any (l : List RuleL) (A : Option Addr) (cap : Nat) (off t : Int) (w : World) (hl : RusAt w A l) (hn : l.length ≤ 8) (hr : ∀ r ∈ l, OkF r) (ho : -100000 ≤ off ∧ off ≤ 100000) (ht : S6.inRange t) :
    Calls Tryz.prog 47 #[.slice A l.length cap, intV off, intV t] w fun e w' => e = .returned (.tuple #[intV (savA l off t).1, strV (savA l off t).2]) ∧ Fr w w' (fun _ => False) := by
  have hR : ∀ r ∈ l, OkR r := fun r h => (hr r h).okR
  have HL := Lib.hid hl
  have HOs := Lib.hid (okS_of hr)
  have HRe := Lib.hid (Reach_any t w ht)
  have HSp := Lib.hid (fun W (f : Fr w W (fun _ => False)) => span_any l A cap W (hl.kept f) (by omega))
  have HYr := Lib.hid (fun (x : Int) (hx : -1000000 ≤ x ∧ x ≤ 1000000) W (f : Fr w W (fun _ => False)) => yYear_any l A cap x W (hl.kept f) (by omega) hR hx)
  have HIn := Lib.hid (fun (f : FireL) (h1 : -1000000000000000 ≤ f.at_ ∧ f.at_ ≤ 1000000000000000) (h2 : -100000 ≤ f.bef ∧ f.bef ≤ 100000) W (k : Fr w W (fun _ => False)) => yInst_any l A cap f off W (hl.kept k) (by omega) h1 ho h2)
  have HLt := Lib.hid (fun W (f : Fr w W (fun _ => False)) => yLetter_any l A cap W (hl.kept f) (by omega) hR)
  obtain ⟨sb1, sb2, sb3, sb4⟩ := span_bound (l := l) (n := 20000) (by omega) (fun r h => ⟨(hR r h).fr.1, (hR r h).fr.2, (hR r h).tt.1, (hR r h).tt.2⟩)
  have HFr := Lib.hid (fun y (h : reachY t = some y) => find_ref (off := off) (okS_of hr) ho h)
  have HLy1 := Lib.hid (fun y (h : (spanD l).2.2 = true) => lowY_true (l := l) y h)
  have HLy2 := Lib.hid (fun y (h : (spanD l).2.2 = false) => lowY_false (l := l) y h)
  unfold SpanR at HSp
  generalize spanD l = S at *
  obtain ⟨S1, S2, S3⟩ := S
  dsimp only at sb1 sb2 sb3 sb4 HSp HFr HLy1 HLy2
  clear hl hr hR
  go_enter Tryz.func47, Tryz.ntmps47
  go_wp2_with fail
  refine HRe.out.mono ?_
  rintro e w2 ⟨y, b, rfl, hf2, hy1, hy2, hb1, hb2⟩
  have HF2 := Lib.hid hf2
  have HB1 := Lib.hid hb1
  have HB2 := Lib.hid hb2
  clear hf2 hb1 hb2 HRe
  go_wp2_with fail
  refine (HSp.out w2 HF2.out).mono ?_
  rintro e w3 ⟨rfl, hf3⟩
  have HF3 := Lib.hid (ff4 HF2.out hf3)
  clear hf3 HF2 HSp
  cases S3 with
  | true =>
    obtain ⟨Y, hYv⟩ : ∃ Y, y = Y := ⟨_, rfl⟩
    have HLy := Lib.hid ((HLy1.out y rfl).trans hYv)
    have hYb : -20000 ≤ Y ∧ Y ≤ 20000 := by omega
    have HYv := Lib.hid hYv
    clear hYv
    go_wp2_with fail
    rw [HYv.out]
    obtain ⟨hi, hhi⟩ : ∃ hi, min (Y + 1) 9999 = hi := ⟨_, rfl⟩
    have hib : -20000 ≤ hi ∧ hi ≤ 9999 := by omega
    have HFa := Lib.hid (show b = true → findA l off t = findY l off t hi (hi + 1 - max S1 1).toNat from fun h => by
      have := HFr.out y (HB1.out h)
      rw [HLy.out, hhi] at this
      exact this.symm)
    rw [hhi]
    clear hhi HLy HFr HYv
    go_loopg [13, 14, 15] (hi + 1 - max S1 1).toNat (fun g v13 _ _ wr => ∃ n : Nat, v13 = intV (hi - n) ∧ n + g = (hi + 1 - max S1 1).toNat ∧ (b = true → findA l off t = findY l off t (hi - n) g) ∧ Fr w wr (fun _ => False))
    case atStart => exact ⟨0, by rw [show hi - ((0 : Nat) : Int) = hi by omega], by simp, by rw [show hi - ((0 : Nat) : Int) = hi by omega]; exact HFa.out, HF3.out⟩
    case round =>
      obtain ⟨n, rfl, hnN, hfa, hf⟩ := hrel
      have HFw := Lib.hid hf
      clear hf
      cases b with
      | false =>
        have HE := Lib.hid (show savA l off t = (0, letD l) from savA_none (HB2.out (by trivial)))
        clear hfa
        go_wp2_with fail
        refine (HLt.out wr HFw.out).mono ?_
        rintro e w9 ⟨rfl, hf9⟩
        have HF9 := Lib.hid (ff4 HFw.out hf9)
        clear hf9
        go_wp2_with fail
        go_ret2
        exact ⟨by rw [HE.out]; rfl, HF9.out⟩
      | true =>
        have hfa := hfa rfl
        obtain ⟨G, hGk⟩ : ∃ G, gk = G := ⟨_, rfl⟩
        rw [hGk] at hnN hfa
        obtain ⟨x, hxv⟩ : ∃ x : Int, hi - n = x := ⟨_, rfl⟩
        have HXv := Lib.hid hxv
        rw [hxv] at hfa ⊢
        by_cases hl0 : l.length = 0
        · have HE := Lib.hid (show savA l off t = (0, letD l) from savA_nil (by rw [List.eq_nil_of_length_eq_zero hl0]; exact find_nil off t))
          have hl1 : ¬ (0 : Int) < (l.length : Int) := by omega
          clear hfa hxv hl0
          go_wp2_with fail
          refine (HLt.out wr HFw.out).mono ?_
          rintro e w9 ⟨rfl, hf9⟩
          have HF9 := Lib.hid (ff4 HFw.out hf9)
          clear hf9
          go_wp2_with fail
          go_ret2
          exact ⟨by rw [HE.out]; rfl, HF9.out⟩
        · have hl1 : (0 : Int) < (l.length : Int) := by omega
          cases G with
          | zero =>
            have HE := Lib.hid (show savA l off t = (0, letD l) from savA_nil hfa)
            have hx1 : x < max S1 1 := by omega
            clear hfa hxv hl0
            go_wp2_with fail
            refine (HLt.out wr HFw.out).mono ?_
            rintro e w9 ⟨rfl, hf9⟩
            have HF9 := Lib.hid (ff4 HFw.out hf9)
            clear hf9
            go_wp2_with fail
            go_ret2
            exact ⟨by rw [HE.out]; rfl, HF9.out⟩
          | succ G =>
            have hx1 : max S1 1 ≤ x := by omega
            have hxb : 1 ≤ x ∧ x ≤ 9999 := by omega
            have HFa2 := Lib.hid hfa
            have HQ := Lib.hid (HYr.out x (by omega) wr HFw.out)
            have hFl := fromD_one (l := l) (x := x) hn
            have HFo := Lib.hid (fun f (h : f ∈ fromD l x x) => Go.Den.fire_of HOs.out h)
            have HNo := Lib.hid (fun (h : lastIn l off t (fromD l x x) = none) => findY_none (l := l) (off := off) (t := t) (x := x) (n := G) h)
            have HSo := Lib.hid (fun f (h : lastIn l off t (fromD l x x) = some f) => findY_some (l := l) (off := off) (t := t) (x := x) (n := G) h)
            generalize fromD l x x = F at *
            clear hfa hxv hl0
            go_wp2_with fail
            refine HQ.out.mono ?_
            rintro e w4 ⟨v, rfl, ho4, hf4⟩
            obtain ⟨A4, c4, hv4, -, -, hrd⟩ := ho4.rd
            subst hv4
            have HRd := Lib.hid hrd
            have HF4 := Lib.hid (ff4 HFw.out hf4)
            clear ho4 hf4 hrd HFw
            go_wp2_with fail
            go_loopg [15] F.length (fun g v15 wr2 => ∃ m : Nat, v15 = intV ((m : Int) - 1) ∧ m = g ∧ m ≤ F.length ∧ lastIn l off t F = lastIn l off t (F.take m) ∧ Fr w4 wr2 (fun _ => False))
            case atStart => exact ⟨F.length, rfl, rfl, Nat.le_refl _, by rw [List.take_length], Fr.refl _ _⟩
            case round =>
              obtain ⟨m, rfl, hmg, hmF, hla, hf5⟩ := hrel
              have HF5 := Lib.hid hf5
              have HFw := Lib.hid (ff4 HF4.out hf5)
              cases m with
              | zero =>
                have HNe := Lib.hid (HNo.out hla)
                have e0 : (((0 : Nat) : Int) - 1) = -1 := rfl
                rw [e0]
                clear hla hf5 e0
                go_wp2_with fail
                go_roundg G
                case measure => omega
                case rel =>
                  have hxv := HXv.out
                  have e1 : hi - ((n + 1 : Nat) : Int) = x - 1 := by omega
                  exact ⟨n + 1, by rw [e1], by omega, fun _ => by rw [e1, HFa2.out, HNe.out], HFw.out⟩
              | succ m =>
                have e0 : (((m + 1 : Nat) : Int) - 1) = (m : Int) := by omega
                rw [e0]
                obtain ⟨f, hfm⟩ : ∃ f, F[m]? = some f := ⟨F[m], List.getElem?_eq_getElem (by omega)⟩
                have htk : F.take (m + 1) = F.take m ++ [f] := by rw [List.take_add_one, hfm]; rfl
                rw [htk, lastIn_app] at hla
                obtain ⟨-, -, -, ⟨k, r, hk, hfi, hat⟩, hbe⟩ := HFo.out f (List.mem_of_getElem? hfm)
                have hs := HOs.out.s r (List.mem_of_getElem? hk)
                have hab := at_range hat hs
                obtain ⟨b2, o2, hA2, hc2⟩ := FiresAt.at_ (Rd.fr HRd.out hf5 (fun _ _ _ _ h => h)) hfm
                subst hA2
                have HCx := Lib.hid hc2
                have HI := Lib.hid (HIn.out f ⟨by omega, by omega⟩ hbe wr HFw.out)
                obtain ⟨ins, hins⟩ : ∃ ins, instD l f off = ins := ⟨_, rfl⟩
                rw [hins] at hla HI
                have m0 : (m : Int) < (F.length : Int) := by omega
                by_cases hle : ins ≤ t
                · rw [if_pos hle] at hla
                  have HE := Lib.hid (show savA l off t = (r.save, r.letter) by
                    rw [savA_some (HB1.out (by trivial)) (by rw [HFa2.out, HSo.out f hla])]
                    unfold savD lettD
                    rw [hfi, Int.toNat_natCast, hk])
                  have HK := Lib.hid hk
                  have HFi := Lib.hid hfi
                  have hkl : k < l.length := (List.getElem?_eq_some_iff.1 hk).1
                  clear e0 hfm htk hla hk hfi hat hbe hs hab hc2 hf5 hins
                  go_wp2_with (
                    ((with_reducible refine at_load4 134 ?_); refine wpList_load_at 134 _ b2 (o2 + m * 4) (fireC f) _ (by rfl) rfl rfl HCx.out Tryz.underlying134 rfl (infoRF _) ?_))
                  refine HI.out.mono ?_
                  rintro e w6 ⟨rfl, hf6⟩
                  have HF6 := Lib.hid (ff4 HFw.out hf6)
                  have c0 : w6.cell? ⟨b2, o2 + m * 4, none⟩ = some (.int .i64 (k : Int)) := by
                    rw [← HFi.out]; exact cell_far hf6 (HCx.out 0 (show 0 < 4 by decide)) (fun h => h)
                  obtain ⟨b, of, hA, hc⟩ := (HL.out.kept HF6.out).at_ HK.out
                  subst hA
                  have c9 : w6.cell? ⟨b, of + k * 11 + 9, none⟩ = some (.int .i64 r.save) := hc 9 (show 9 < 11 by decide)
                  have c10 : w6.cell? ⟨b, of + k * 11 + 10, none⟩ = some (strV r.letter) := hc 10 (show 10 < 11 by decide)
                  have k0 : (k : Int) < (l.length : Int) := by omega
                  clear hf6 hc
                  go_wp2_with fail
                  go_quiet (fail)
                  go_wp2_with fail
                  go_ret2
                  exact ⟨by rw [HE.out]; rfl, ff4 HF6.out (Fr.drewN _ _ _)⟩
                · rw [if_neg hle] at hla
                  have HLa := Lib.hid hla
                  have hgt : t < ins := by omega
                  clear e0 hfm htk hla hk hfi hat hbe hs hab hc2 hf5 hins hle
                  go_wp2_with (
                    ((with_reducible refine at_load4 134 ?_); refine wpList_load_at 134 _ b2 (o2 + m * 4) (fireC f) _ (by rfl) rfl rfl HCx.out Tryz.underlying134 rfl (infoRF _) ?_))
                  refine HI.out.mono ?_
                  rintro e w6 ⟨rfl, hf6⟩
                  have HF6 := Lib.hid (ff4 HF5.out hf6)
                  clear hf6
                  go_wp2_with fail
                  go_roundg m
                  case measure => omega
                  case rel => exact ⟨m, rfl, rfl, by omega, HLa.out, HF6.out⟩
  | false =>
    obtain ⟨Y, hYv⟩ : ∃ Y, min y S2 = Y := ⟨_, rfl⟩
    have HLy := Lib.hid ((HLy2.out y rfl).trans hYv)
    have hYb : -20000 ≤ Y ∧ Y ≤ 20000 := by omega
    have HYv := Lib.hid hYv
    clear hYv
    go_wp2_with fail
    rw [HYv.out]
    obtain ⟨hi, hhi⟩ : ∃ hi, min (Y + 1) 9999 = hi := ⟨_, rfl⟩
    have hib : -20000 ≤ hi ∧ hi ≤ 9999 := by omega
    have HFa := Lib.hid (show b = true → findA l off t = findY l off t hi (hi + 1 - max S1 1).toNat from fun h => by
      have := HFr.out y (HB1.out h)
      rw [HLy.out, hhi] at this
      exact this.symm)
    rw [hhi]
    clear hhi HLy HFr HYv
    go_loopg [13, 14, 15] (hi + 1 - max S1 1).toNat (fun g v13 _ _ wr => ∃ n : Nat, v13 = intV (hi - n) ∧ n + g = (hi + 1 - max S1 1).toNat ∧ (b = true → findA l off t = findY l off t (hi - n) g) ∧ Fr w wr (fun _ => False))
    case atStart => exact ⟨0, by rw [show hi - ((0 : Nat) : Int) = hi by omega], by simp, by rw [show hi - ((0 : Nat) : Int) = hi by omega]; exact HFa.out, HF3.out⟩
    case round =>
      obtain ⟨n, rfl, hnN, hfa, hf⟩ := hrel
      have HFw := Lib.hid hf
      clear hf
      cases b with
      | false =>
        have HE := Lib.hid (show savA l off t = (0, letD l) from savA_none (HB2.out (by trivial)))
        clear hfa
        go_wp2_with fail
        refine (HLt.out wr HFw.out).mono ?_
        rintro e w9 ⟨rfl, hf9⟩
        have HF9 := Lib.hid (ff4 HFw.out hf9)
        clear hf9
        go_wp2_with fail
        go_ret2
        exact ⟨by rw [HE.out]; rfl, HF9.out⟩
      | true =>
        have hfa := hfa rfl
        obtain ⟨G, hGk⟩ : ∃ G, gk = G := ⟨_, rfl⟩
        rw [hGk] at hnN hfa
        obtain ⟨x, hxv⟩ : ∃ x : Int, hi - n = x := ⟨_, rfl⟩
        have HXv := Lib.hid hxv
        rw [hxv] at hfa ⊢
        by_cases hl0 : l.length = 0
        · have HE := Lib.hid (show savA l off t = (0, letD l) from savA_nil (by rw [List.eq_nil_of_length_eq_zero hl0]; exact find_nil off t))
          have hl1 : ¬ (0 : Int) < (l.length : Int) := by omega
          clear hfa hxv hl0
          go_wp2_with fail
          refine (HLt.out wr HFw.out).mono ?_
          rintro e w9 ⟨rfl, hf9⟩
          have HF9 := Lib.hid (ff4 HFw.out hf9)
          clear hf9
          go_wp2_with fail
          go_ret2
          exact ⟨by rw [HE.out]; rfl, HF9.out⟩
        · have hl1 : (0 : Int) < (l.length : Int) := by omega
          cases G with
          | zero =>
            have HE := Lib.hid (show savA l off t = (0, letD l) from savA_nil hfa)
            have hx1 : x < max S1 1 := by omega
            clear hfa hxv hl0
            go_wp2_with fail
            refine (HLt.out wr HFw.out).mono ?_
            rintro e w9 ⟨rfl, hf9⟩
            have HF9 := Lib.hid (ff4 HFw.out hf9)
            clear hf9
            go_wp2_with fail
            go_ret2
            exact ⟨by rw [HE.out]; rfl, HF9.out⟩
          | succ G =>
            have hx1 : max S1 1 ≤ x := by omega
            have hxb : 1 ≤ x ∧ x ≤ 9999 := by omega
            have HFa2 := Lib.hid hfa
            have HQ := Lib.hid (HYr.out x (by omega) wr HFw.out)
            have hFl := fromD_one (l := l) (x := x) hn
            have HFo := Lib.hid (fun f (h : f ∈ fromD l x x) => Go.Den.fire_of HOs.out h)
            have HNo := Lib.hid (fun (h : lastIn l off t (fromD l x x) = none) => findY_none (l := l) (off := off) (t := t) (x := x) (n := G) h)
            have HSo := Lib.hid (fun f (h : lastIn l off t (fromD l x x) = some f) => findY_some (l := l) (off := off) (t := t) (x := x) (n := G) h)
            generalize fromD l x x = F at *
            clear hfa hxv hl0
            go_wp2_with fail
            refine HQ.out.mono ?_
            rintro e w4 ⟨v, rfl, ho4, hf4⟩
            obtain ⟨A4, c4, hv4, -, -, hrd⟩ := ho4.rd
            subst hv4
            have HRd := Lib.hid hrd
            have HF4 := Lib.hid (ff4 HFw.out hf4)
            clear ho4 hf4 hrd HFw
            go_wp2_with fail
            go_loopg [15] F.length (fun g v15 wr2 => ∃ m : Nat, v15 = intV ((m : Int) - 1) ∧ m = g ∧ m ≤ F.length ∧ lastIn l off t F = lastIn l off t (F.take m) ∧ Fr w4 wr2 (fun _ => False))
            case atStart => exact ⟨F.length, rfl, rfl, Nat.le_refl _, by rw [List.take_length], Fr.refl _ _⟩
            case round =>
              obtain ⟨m, rfl, hmg, hmF, hla, hf5⟩ := hrel
              have HF5 := Lib.hid hf5
              have HFw := Lib.hid (ff4 HF4.out hf5)
              cases m with
              | zero =>
                have HNe := Lib.hid (HNo.out hla)
                have e0 : (((0 : Nat) : Int) - 1) = -1 := rfl
                rw [e0]
                clear hla hf5 e0
                go_wp2_with fail
                go_roundg G
                case measure => omega
                case rel =>
                  have hxv := HXv.out
                  have e1 : hi - ((n + 1 : Nat) : Int) = x - 1 := by omega
                  exact ⟨n + 1, by rw [e1], by omega, fun _ => by rw [e1, HFa2.out, HNe.out], HFw.out⟩
              | succ m =>
                have e0 : (((m + 1 : Nat) : Int) - 1) = (m : Int) := by omega
                rw [e0]
                obtain ⟨f, hfm⟩ : ∃ f, F[m]? = some f := ⟨F[m], List.getElem?_eq_getElem (by omega)⟩
                have htk : F.take (m + 1) = F.take m ++ [f] := by rw [List.take_add_one, hfm]; rfl
                rw [htk, lastIn_app] at hla
                obtain ⟨-, -, -, ⟨k, r, hk, hfi, hat⟩, hbe⟩ := HFo.out f (List.mem_of_getElem? hfm)
                have hs := HOs.out.s r (List.mem_of_getElem? hk)
                have hab := at_range hat hs
                obtain ⟨b2, o2, hA2, hc2⟩ := FiresAt.at_ (Rd.fr HRd.out hf5 (fun _ _ _ _ h => h)) hfm
                subst hA2
                have HCx := Lib.hid hc2
                have HI := Lib.hid (HIn.out f ⟨by omega, by omega⟩ hbe wr HFw.out)
                obtain ⟨ins, hins⟩ : ∃ ins, instD l f off = ins := ⟨_, rfl⟩
                rw [hins] at hla HI
                have m0 : (m : Int) < (F.length : Int) := by omega
                by_cases hle : ins ≤ t
                · rw [if_pos hle] at hla
                  have HE := Lib.hid (show savA l off t = (r.save, r.letter) by
                    rw [savA_some (HB1.out (by trivial)) (by rw [HFa2.out, HSo.out f hla])]
                    unfold savD lettD
                    rw [hfi, Int.toNat_natCast, hk])
                  have HK := Lib.hid hk
                  have HFi := Lib.hid hfi
                  have hkl : k < l.length := (List.getElem?_eq_some_iff.1 hk).1
                  clear e0 hfm htk hla hk hfi hat hbe hs hab hc2 hf5 hins
                  go_wp2_with (
                    ((with_reducible refine at_load4 134 ?_); refine wpList_load_at 134 _ b2 (o2 + m * 4) (fireC f) _ (by rfl) rfl rfl HCx.out Tryz.underlying134 rfl (infoRF _) ?_))
                  refine HI.out.mono ?_
                  rintro e w6 ⟨rfl, hf6⟩
                  have HF6 := Lib.hid (ff4 HFw.out hf6)
                  have c0 : w6.cell? ⟨b2, o2 + m * 4, none⟩ = some (.int .i64 (k : Int)) := by
                    rw [← HFi.out]; exact cell_far hf6 (HCx.out 0 (show 0 < 4 by decide)) (fun h => h)
                  obtain ⟨b, of, hA, hc⟩ := (HL.out.kept HF6.out).at_ HK.out
                  subst hA
                  have c9 : w6.cell? ⟨b, of + k * 11 + 9, none⟩ = some (.int .i64 r.save) := hc 9 (show 9 < 11 by decide)
                  have c10 : w6.cell? ⟨b, of + k * 11 + 10, none⟩ = some (strV r.letter) := hc 10 (show 10 < 11 by decide)
                  have k0 : (k : Int) < (l.length : Int) := by omega
                  clear hf6 hc
                  go_wp2_with fail
                  go_quiet (fail)
                  go_wp2_with fail
                  go_ret2
                  exact ⟨by rw [HE.out]; rfl, ff4 HF6.out (Fr.drewN _ _ _)⟩
                · rw [if_neg hle] at hla
                  have HLa := Lib.hid hla
                  have hgt : t < ins := by omega
                  clear e0 hfm htk hla hk hfi hat hbe hs hab hc2 hf5 hins hle
                  go_wp2_with (
                    ((with_reducible refine at_load4 134 ?_); refine wpList_load_at 134 _ b2 (o2 + m * 4) (fireC f) _ (by rfl) rfl rfl HCx.out Tryz.underlying134 rfl (infoRF _) ?_))
                  refine HI.out.mono ?_
                  rintro e w6 ⟨rfl, hf6⟩
                  have HF6 := Lib.hid (ff4 HF5.out hf6)
                  clear hf6
                  go_wp2_with fail
                  go_roundg m
                  case measure => omega
                  case rel => exact ⟨m, rfl, rfl, by omega, HLa.out, HF6.out⟩
end Go.Proofs.YtghcfmoagkimaaaGreatDoor
namespace Go.Proofs.YtghcfmoagkimaaaGreatDoor
open Go.RowKit Go.Mem Go.Lin Go.Xpd Go.Den

/- a zone in its cells -/
structure ZnV where
  Ae : Option Addr
  ce : Nat
  eras : List EraL
  Ar : Option Addr
  cr : Nat
  Z : List RuV
def zoneC (v : ZnV) : Array Value := #[.slice v.Ae v.eras.length v.ce, .slice v.Ar v.Z.length v.cr]
structure ZnAt (w : World) (v : ZnV) : Prop where
  e : ErasAt w v.Ae v.eras
  r : RusIn w v.Ar v.Z
theorem ZnAt.kept {w w' : World} {v : ZnV} (h : ZnAt w v) (hf : Fr w w' (fun _ => False)) : ZnAt w' v := ⟨h.e.kept hf, h.r.kept hf⟩
def znD (v : ZnV) : ZoneD := ⟨v.eras, v.Z.map (·.l)⟩
/-- what Light asks of an era -/
def OkE (e : EraL) : Prop := -100000 ≤ e.off ∧ e.off ≤ 100000 ∧ -100000 ≤ e.save ∧ e.save ≤ 100000 ∧ -700000 ≤ e.til.at_.s ∧ e.til.at_.s ≤ 700000 ∧ e.rules.length ≤ 100 ∧ e.format.length ≤ 100
instance (e : EraL) : Decidable (OkE e) := by unfold OkE; infer_instance
def LightZ (v : ZnV) : Prop := v.eras.length ≤ 10 ∧ v.Z.length ≤ 10 ∧ (∀ x ∈ v.Z, LightP x.l 6) ∧ ∀ e ∈ v.eras, OkE e
instance (v : ZnV) : Decidable (LightZ v) := by unfold LightZ; infer_instance
theorem put_er (e f : EraL) : setMany (eraC e) 0 (eraC f).toList = eraC f := put_all rfl
theorem eraS_1 {z : ZoneD} {i : Nat} {t : Int} {e : EraL} (h : z.eras[i]? = some e) (hk : e.kind = 1) : eraS z i t = (e.save, []) := by unfold eraS; rw [h]; exact if_pos hk
theorem eraS_0 {z : ZoneD} {i : Nat} {t : Int} {e : EraL} (h : z.eras[i]? = some e) (h1 : e.kind ≠ 1) (h2 : e.kind ≠ 2) : eraS z i t = (0, []) := by unfold eraS; rw [h]; show (if e.kind = 1 then _ else _) = _; rw [if_neg h1, if_neg h2]
theorem eraS_2 {v : ZnV} {i : Nat} {t : Int} {e : EraL} {x : RuV} (h : v.eras[i]? = some e) (hk : e.kind = 2) (hx : v.Z[i]? = some x) : eraS (znD v) i t = savA x.l e.off t := by
  unfold eraS
  show (match v.eras[i]? with | none => _ | some e => _) = _
  rw [h]
  show (if e.kind = 1 then _ else if e.kind = 2 then savA (((v.Z.map (·.l))[i]?).getD []) e.off t else _) = _
  rw [if_neg (by omega), if_pos hk, List.getElem?_map, hx]
  rfl
set_option maxHeartbeats 3200000 in
set_option maxRecDepth 100000 in
theorem zsaving_any (v : ZnV) (i : Nat) (t : Int) (w : World) (hv : ZnAt w v) (hL : LightZ v) (hi : i < v.eras.length) (h2 : ∀ e, v.eras[i]? = some e → e.kind = 2 → i < v.Z.length) (ht : S6.inRange t) :
    Calls Tryz.prog 29 #[.agg (zoneC v), intV i, intV t] w fun e w' => e = .returned (.tuple #[intV (eraS (znD v) i t).1, strV (eraS (znD v) i t).2]) ∧ Fr w w' (fun _ => False) := by
  obtain ⟨e, he⟩ : ∃ e, v.eras[i]? = some e := ⟨v.eras[i], List.getElem?_eq_getElem hi⟩
  have hok := hL.2.2.2 e (List.mem_of_getElem? he)
  have n1 := Fr.new w (.cells (zoneC v) 25) (fun _ => False)
  have HB1 := Lib.hid (Blk.made w 25 (zoneC v))
  have HF1 := Lib.hid n1
  obtain ⟨b, off, hA, hc⟩ := (hv.e.kept n1).at_ he
  have s1 : (w.alloc (.cells (zoneC v) 25)).heap.size = w.heap.size + 1 := by simp
  have hz := Blk.made (w.alloc (.cells (zoneC v) 25)) 48 (eraC eraZ)
  rw [s1] at hz
  have n2 := Fr.new (w.alloc (.cells (zoneC v) 25)) (.cells (eraC eraZ) 48) (fun _ => False)
  have HBz := Lib.hid hz
  have HF2 := Lib.hid (ff4 n1 n2)
  have HB2 := Lib.hid (n2.blk HB1.out (fun h => h))
  have c0 : (w.alloc (.cells (zoneC v) 25)).cell? ⟨w.heap.size, 0, none⟩ = some (.slice v.Ae v.eras.length v.ce) := blkc HB1.out 0 _ rfl
  have HV := Lib.hid hv
  have HLz := Lib.hid hL
  have HCx := Lib.hid hc
  have HE := Lib.hid he
  have i0 : (i : Int) < (v.eras.length : Int) := by omega
  rw [hA] at c0
  clear n1 n2 hz s1 hc hv hL
  have h3 : e.kind = 1 ∨ (e.kind ≠ 1 ∧ e.kind = 2) ∨ (e.kind ≠ 1 ∧ e.kind ≠ 2) := by omega
  rcases h3 with hk | ⟨hk1, hk⟩ | ⟨hk1, hk2⟩
  · have HSv := Lib.hid (eraS_1 (z := znD v) (t := t) he hk)
    have HK := Lib.hid hk
    clear hk he h2
    go_enter Tryz.func29, Tryz.ntmps29
    go_wp2_with (first
      | ((with_reducible refine at_load4 48 ?_); refine wpList_load_at 48 _ b (off + i * 13) (eraC e) _ (by rfl) rfl rfl HCx.out Tryz.underlying48 rfl (infoE _) ?_)
      | ((with_reducible refine at_store4 48 ?_); refine wpList_store_blk 48 _ _ (w.heap.size + 1) 0 48 (eraC eraZ) (eraC e) (eraC e) (by rfl) rfl rfl rfl rfl HBz.out (infoE _) (eraC_one _) (show 0 + 13 ≤ 13 by decide) (put_er _ _) ?_
         intro W4 hf4 hb4
         have HF4 := Lib.hid (HF2.out.fresh hf4 (fun i e => by have e : i = w.heap.size + 1 := e; omega))
         have HB4 := Lib.hid (hf4.blk HB2.out (fun e => by have e : w.heap.size = w.heap.size + 1 := e; omega))
         have HE4 := Lib.hid hb4
         have d0 : W4.cell? ⟨w.heap.size + 1, 0, none⟩ = some (.int .i64 e.off) := blkc hb4 0 _ rfl
         have d1 : W4.cell? ⟨w.heap.size + 1, 1, none⟩ = some (.int .i64 1) := by rw [← HK.out]; exact blkc hb4 1 _ rfl
         have d2 : W4.cell? ⟨w.heap.size + 1, 2, none⟩ = some (.int .i64 e.save) := blkc hb4 2 _ rfl
         clear hf4 hb4))
    go_ret2
    exact ⟨by rw [HSv.out]; rfl, HF4.out⟩
  · have hiz := h2 e he hk
    obtain ⟨x, hx⟩ : ∃ x, v.Z[i]? = some x := ⟨v.Z[i], List.getElem?_eq_getElem hiz⟩
    have HSv := Lib.hid (eraS_2 (t := t) he hk hx)
    have HX := Lib.hid hx
    have HP := Lib.hid (HLz.out.2.2.1 x (List.mem_of_getElem? hx))
    have HK := Lib.hid hk
    have z0 : (i : Int) < (v.Z.length : Int) := by omega
    have k1 : ((2 : Int) == 1) = false := rfl
    clear hk hk1 he h2 hx
    go_enter Tryz.func29, Tryz.ntmps29
    go_wp2_with (first
      | ((with_reducible refine at_load4 48 ?_); refine wpList_load_at 48 _ b (off + i * 13) (eraC e) _ (by rfl) rfl rfl HCx.out Tryz.underlying48 rfl (infoE _) ?_)
      | ((with_reducible refine at_store4 48 ?_); refine wpList_store_blk 48 _ _ (w.heap.size + 1) 0 48 (eraC eraZ) (eraC e) (eraC e) (by rfl) rfl rfl rfl rfl HBz.out (infoE _) (eraC_one _) (show 0 + 13 ≤ 13 by decide) (put_er _ _) ?_
         intro W4 hf4 hb4
         have HF4 := Lib.hid (HF2.out.fresh hf4 (fun i e => by have e : i = w.heap.size + 1 := e; omega))
         have HB4 := Lib.hid (hf4.blk HB2.out (fun e => by have e : w.heap.size = w.heap.size + 1 := e; omega))
         have HE4 := Lib.hid hb4
         have d0 : W4.cell? ⟨w.heap.size + 1, 0, none⟩ = some (.int .i64 e.off) := blkc hb4 0 _ rfl
         have d1 : W4.cell? ⟨w.heap.size + 1, 1, none⟩ = some (.int .i64 2) := by rw [← HK.out]; exact blkc hb4 1 _ rfl
         have d2 : W4.cell? ⟨w.heap.size + 1, 2, none⟩ = some (.int .i64 e.save) := blkc hb4 2 _ rfl
         clear hf4 hb4))
    obtain ⟨b5, o5, hA5, hc5, hr5⟩ := (HV.out.r.kept HF4.out).at_ HX.out
    have c1 : W4.cell? ⟨w.heap.size, 1, none⟩ = some (.slice v.Ar v.Z.length v.cr) := blkc HB4.out 1 _ rfl
    rw [hA5] at c1
    have HC5 := Lib.hid hc5
    have HR5 := Lib.hid hr5
    have HC1 := Lib.hid c1
    clear hc5 hr5 c1
    refine wp_region_held_drew (S := fun w' => Fr W4 w' (fun _ => False)) (by kernel_rfl) (Fr.drew W4 _) (fun hHeld => ?_)
    refine wpAnyH_take (i := 0) (v := ?_) rfl (by kernel_rfl) (by kernel_rfl) (by kernel_rfl) (fun _ _ _ h => h) (Or.inl ⟨by rfl, ?_⟩) (by assumption) ?_
    rotate_left
    · intro w' hSw
      go_simp
      try with_reducible rfl
    try simp only [Act.put, List.setIfInBounds_toArray, List.set_cons_zero, List.set_cons_succ, List.getElem_toArray, List.getElem_cons_zero]
    refine wpAnyH_take (i := 1) (v := ?_) rfl (by kernel_rfl) (by kernel_rfl) (by kernel_rfl) (fun _ _ _ h => h) (Or.inl ⟨by rfl, ?_⟩) (by assumption) ?_
    rotate_left
    · intro w' hSw
      have c1 : w'.cell? ⟨w.heap.size, 1, none⟩ = some (.slice (some ⟨b5, o5, none⟩) v.Z.length v.cr) := cell_far hSw HC1.out (fun h => h)
      go_simp
      try with_reducible rfl
    try simp only [Act.put, List.setIfInBounds_toArray, List.set_cons_zero, List.set_cons_succ, List.getElem_toArray, List.getElem_cons_succ, List.getElem_cons_zero]
    refine wpAnyH_take (i := 2) (v := ?_) rfl (by kernel_rfl) (by kernel_rfl) (by kernel_rfl) (fun _ _ _ h => h) (Or.inl ⟨by rfl, ?_⟩) (by assumption) ?_
    rotate_left
    · intro w' hSw
      go_simp
      try with_reducible rfl
    try simp only [Act.put, List.setIfInBounds_toArray, List.set_cons_zero, List.set_cons_succ, List.getElem_toArray, List.getElem_cons_succ, List.getElem_cons_zero]
    refine wpAnyH_take (i := 3) (v := ?_) rfl (by kernel_rfl) (by kernel_rfl) (by kernel_rfl) (fun _ _ _ h => h) (Or.inl ⟨by rfl, ?_⟩) (by assumption) ?_
    rotate_left
    · intro w' hSw
      go_simp
      try with_reducible rfl
    try simp only [Act.put, List.setIfInBounds_toArray, List.set_cons_zero, List.set_cons_succ, List.getElem_toArray, List.getElem_cons_succ, List.getElem_cons_zero]
    refine wpAnyH_take (i := 4) (v := ?_) rfl (by kernel_rfl) (by kernel_rfl) (by kernel_rfl) (fun _ _ _ h => h) (Or.inl ⟨by rfl, ?_⟩) (by assumption) ?_
    rotate_left
    · intro w' hSw
      have c2 : w'.cell? ⟨b5, o5 + i, none⟩ = some (.slice x.A x.l.length x.c) := cell_far hSw HC5.out (fun h => h)
      go_simp
      try with_reducible rfl
    try simp only [Act.put, List.setIfInBounds_toArray, List.set_cons_zero, List.set_cons_succ, List.getElem_toArray, List.getElem_cons_succ, List.getElem_cons_zero]
    refine wpAnyH_take (i := 5) (v := ?_) rfl (by kernel_rfl) (by kernel_rfl) (by kernel_rfl) (fun _ _ _ h => h) (Or.inl ⟨by rfl, ?_⟩) (by assumption) ?_
    rotate_left
    · intro w' hSw
      go_simp
      try with_reducible rfl
    try simp only [Act.put, List.setIfInBounds_toArray, List.set_cons_zero, List.set_cons_succ, List.getElem_toArray, List.getElem_cons_succ, List.getElem_cons_zero]
    refine wpAnyH_take (i := 6) (v := ?_) rfl (by kernel_rfl) (by kernel_rfl) (by kernel_rfl) (fun _ _ _ h => h) (Or.inl ⟨by rfl, ?_⟩) (by assumption) ?_
    rotate_left
    · intro w' hSw
      have c3 : w'.cell? ⟨w.heap.size + 1, 0, none⟩ = some (.int .i64 e.off) := cell_far hSw d0 (fun h => h)
      go_simp
      try with_reducible rfl
    try simp only [Act.put, List.setIfInBounds_toArray, List.set_cons_zero, List.set_cons_succ, List.getElem_toArray, List.getElem_cons_succ, List.getElem_cons_zero]
    refine wpAnyH_take (i := 7) (v := ?_) rfl (by kernel_rfl) (by kernel_rfl) (by kernel_rfl) (fun _ _ _ h => h) (Or.inl ⟨by rfl, ?_⟩) (by assumption) ?_
    rotate_left
    · intro w' hSw
      go_simp
      try with_reducible rfl
    try simp only [Act.put, List.setIfInBounds_toArray, List.set_cons_zero, List.set_cons_succ, List.getElem_toArray, List.getElem_cons_succ, List.getElem_cons_zero]
    refine wpAnyH_ready (rs := [8]) (by kernel_rfl) (by simp) ?_
    refine AllReadyH.cons rfl (fun K hK => ?_) AllReadyH.nil
    go_simp
    refine (zSaving_any x.l x.A x.c e.off t _ (HR5.out.kept hHeld) (by have := HP.out.1; omega) HP.out.2 ⟨hok.1, hok.2.1⟩ ht).mono ?_
    rintro e w8 ⟨rfl, hf8⟩
    refine hK.out _ _ (ff4 hHeld hf8) (fun hHeld2 => ?_)
    clear hK K hHeld hf8
    rename_i hHeld2
    have hHeld := hHeld2
    clear hHeld2
    try simp only [Act.put, List.setIfInBounds_toArray, List.set_cons_zero, List.set_cons_succ, List.getElem_toArray, List.getElem_cons_succ, List.getElem_cons_zero]
    refine wpAnyH_take (i := 9) (v := ?_) rfl (by kernel_rfl) (by kernel_rfl) (by kernel_rfl) (fun _ _ _ h => h) (Or.inl ⟨by rfl, ?_⟩) (by assumption) ?_
    rotate_left
    · intro w' hSw
      go_simp
      try with_reducible rfl
    try simp only [Act.put, List.setIfInBounds_toArray, List.set_cons_zero, List.set_cons_succ, List.getElem_toArray, List.getElem_cons_succ, List.getElem_cons_zero]
    refine wpAnyH_take (i := 10) (v := ?_) rfl (by kernel_rfl) (by kernel_rfl) (by kernel_rfl) (fun _ _ _ h => h) (Or.inl ⟨by rfl, ?_⟩) (by assumption) ?_
    rotate_left
    · intro w' hSw
      go_simp
      try with_reducible rfl
    try simp only [Act.put, List.setIfInBounds_toArray, List.set_cons_zero, List.set_cons_succ, List.getElem_toArray, List.getElem_cons_succ, List.getElem_cons_zero]
    refine wpAnyH_take (i := 11) (v := ?_) rfl (by kernel_rfl) (by kernel_rfl) (by kernel_rfl) (fun _ _ _ h => h) (Or.inl ⟨by rfl, ?_⟩) (by assumption) ?_
    rotate_left
    · intro w' hSw
      go_simp
      try with_reducible rfl
    try simp only [Act.put, List.setIfInBounds_toArray, List.set_cons_zero, List.set_cons_succ, List.getElem_toArray, List.getElem_cons_succ, List.getElem_cons_zero]
    refine wpAnyH_take (i := 12) (v := ?_) rfl (by kernel_rfl) (by kernel_rfl) (by kernel_rfl) (fun _ _ _ h => h) (Or.inl ⟨by rfl, ?_⟩) (by assumption) ?_
    rotate_left
    · intro w' hSw
      go_simp
      try with_reducible rfl
    try simp only [Act.put, List.setIfInBounds_toArray, List.set_cons_zero, List.set_cons_succ, List.getElem_toArray, List.getElem_cons_succ, List.getElem_cons_zero]
    refine wpAnyH_done (by kernel_rfl) ?_ _
    go_wp2_with fail
    go_ret2
    exact ⟨by rw [HSv.out]; rfl, ff4 HF4.out hHeld⟩
  · have HSv := Lib.hid (eraS_0 (z := znD v) (t := t) he hk1 hk2)
    have k1 : (e.kind == 1) = false := beq_eq_false_iff_ne.2 hk1
    have k2 : (e.kind == 2) = false := beq_eq_false_iff_ne.2 hk2
    clear hk1 hk2 he h2
    go_enter Tryz.func29, Tryz.ntmps29
    go_wp2_with (first
      | ((with_reducible refine at_load4 48 ?_); refine wpList_load_at 48 _ b (off + i * 13) (eraC e) _ (by rfl) rfl rfl HCx.out Tryz.underlying48 rfl (infoE _) ?_)
      | ((with_reducible refine at_store4 48 ?_); refine wpList_store_blk 48 _ _ (w.heap.size + 1) 0 48 (eraC eraZ) (eraC e) (eraC e) (by rfl) rfl rfl rfl rfl HBz.out (infoE _) (eraC_one _) (show 0 + 13 ≤ 13 by decide) (put_er _ _) ?_
         intro W4 hf4 hb4
         have HF4 := Lib.hid (HF2.out.fresh hf4 (fun i e => by have e : i = w.heap.size + 1 := e; omega))
         have HB4 := Lib.hid (hf4.blk HB2.out (fun e => by have e : w.heap.size = w.heap.size + 1 := e; omega))
         have HE4 := Lib.hid hb4
         have d0 : W4.cell? ⟨w.heap.size + 1, 0, none⟩ = some (.int .i64 e.off) := blkc hb4 0 _ rfl
         have d1 : W4.cell? ⟨w.heap.size + 1, 1, none⟩ = some (.int .i64 e.kind) := blkc hb4 1 _ rfl
         have d2 : W4.cell? ⟨w.heap.size + 1, 2, none⟩ = some (.int .i64 e.save) := blkc hb4 2 _ rfl
         clear hf4 hb4))
    go_ret2
    exact ⟨by rw [HSv.out]; rfl, HF4.out⟩
end Go.Proofs.YtghcfmoagkimaaaGreatDoor
