import Derived.Test.YtolmemdkklfdpaaByt
namespace Go.Proofs.Ytolmemdkklfdpaa
open Go.RowKit Go.Mem Go.Lxr

abbrev fieldV (s : Bs) (p : Int) : Value := .agg #[strV s, .int .i64 p]
abbrev fieldC (s : Bs) (p : Int) : Obj := .cells #[strV s, .int .i64 p] 38
theorem infoFd : (Try.prog.info? 38).map (fun i => (i.size)) = some 2 := by kernel_rfl
/-- what field answers -/
def FieldRan (g : Except Nat (Bs × Bs)) (p b : Nat) (s : ByteArray) (w : World) (e : Ending) (w' : World) : Prop :=
  match g with
  | .error k => e = .returned (.tuple #[fieldV [] 0, .bool false]) ∧ (∃ m, RdAt w' b s k m) ∧ Fr w w' (· = b)
  | .ok (t, r) => e = .returned (.tuple #[fieldV t p, .bool true]) ∧ (∃ q, RdAt w' b s q r) ∧ Fr w w' (· = b)
/-- before a round of field's loop -/
def FInv (w : World) (b p : Nat) (s : ByteArray) (l : Bs) (g : Nat) (v4 : Value) (wr : World) : Prop :=
  ∃ (acc m : Bs) (q : Nat), m.length = g ∧ Bts wr (w.heap.size + 1) v4 acc ∧ RdAt wr b s q m ∧ (fieldD p l = (fieldD q m).map fun x => (acc ++ x.1, x.2)) ∧ (m = [] ∨ ∃ c r, m = c :: r ∧ (stopB c = true ∨ c = 34)) ∧
    Fr w wr (· = b) ∧ Blk wr w.heap.size 38 #[strV [], .int .i64 (p : Int)] ∧ acc.length + m.length ≤ s.size
theorem load_f {w : World} {g : Nat} {x y : Value} (h : Blk w g 38 #[x, y]) : (loadVar 38 ⟨g, 0, none⟩).run Try.prog w = .ok (.agg #[x, y]) w := run_loadVar_row w g 38 38 #[x, y] (0, 0) _ h Try.underlying38 rfl infoFd
theorem results_field (tmps : Array Value) (w : World) (q : Nat) (x y k : Value) (h2 : tmps.getD 2 undef = .pointer (some ⟨q, 0, none⟩)) (h3 : tmps.getD 3 undef = k)
    (hb : Blk w q 38 #[x, y]) : (results Try.f18 tmps).run Try.prog w = .ok (.tuple #[.agg #[x, y], k]) w := by
  have h2' : tmps[2]?.getD undef = .pointer (some ⟨q, 0, none⟩) := by simpa using h2
  have h3' : tmps[3]?.getD undef = k := by simpa using h3
  have hL := load_f hb
  simp [results, Try.results18, h2', h3', asAddr, hL]
theorem fresh_b {a b c : World} {q g : Nat} (h : Fr a b (· = q)) (k : Fr b c (· = g)) (hg : a.heap.size ≤ g) : Fr a c (· = q) := h.trans k (fun _ _ x => x) (fun i hi x => by subst x; omega)
theorem fr_false {a b c : World} {S : Nat → Prop} (h : Fr a b (fun _ => False)) (k : Fr b c S) : Fr a c S := h.trans k (fun _ _ x => x.elim) (fun _ _ x => x)
theorem fr_false' {a b c : World} {S : Nat → Prop} (h : Fr a b S) (k : Fr b c (fun _ => False)) : Fr a c S := h.trans k (fun _ _ x => x) (fun _ _ x => x.elim)
theorem seesD_q {m : Bs} (h : m = [] ∨ ∃ c r, m = c :: r ∧ (stopB c = true ∨ c = 34)) : (seesD (hasF [34]) m = false ∧ ∀ q, fieldD q m = .ok ([], m)) ∨ ∃ r, m = 34 :: r := by
  rcases h with rfl | ⟨c, r, rfl, hc⟩
  · exact .inl ⟨rfl, field_nil⟩
  · by_cases h34 : c = 34
    · exact .inr ⟨r, by rw [h34]⟩
    · refine .inl ⟨?_, fun q => field_stop (hc.resolve_right h34) q r⟩
      show List.contains [34] c = false
      rw [one_iff]
      simpa using h34
theorem field_put {w0 w2 : World} {F b : Nat} {x y : Value} (k d : Value) (h : Fr w0 w2 (· = b)) (hb : Blk w2 F 38 #[x, y]) (hge : w0.heap.size ≤ F) :
    Fr w0 ((w2.setCell ⟨F, 0, none⟩ k).setCell ⟨F, 1, none⟩ d) (· = b) ∧ Blk ((w2.setCell ⟨F, 0, none⟩ k).setCell ⟨F, 1, none⟩ d) F 38 #[k, d] := by
  have f1 := fresh_b h (Fr.set (S := (· = F)) (a := ⟨F, 0, none⟩) (v := k) rfl) hge
  have f2 := fresh_b f1 (Fr.set (S := (· = F)) (a := ⟨F, 1, none⟩) (v := d) rfl) hge
  exact ⟨f2, (hb.put' (cs' := #[k, y]) 0 k (by simp)).put' (cs' := #[k, d]) 1 d (by simp)⟩
theorem add_ok {w w1 w2 : World} {b : Nat} {v v' : Value} {acc t : Bs} (hb : Bts w1 (w.heap.size + 1) v acc) (hown : Row w2 (w.heap.size + 1) 5 1 v' (acc.length + (⟨t.toArray⟩ : ByteArray).size) (acc.map u8V ++ strCells ⟨t.toArray⟩)) (hf : Fr w1 w2 (fun k => some k = v.ownBlock)) (h0 : Fr w w1 (· = b)) :
    Bts w2 (w.heap.size + 1) v' (acc ++ t) ∧ Fr w w2 (· = b) ∧ (∀ s q m, b < w.heap.size → RdAt w1 b s q m → RdAt w2 b s q m) ∧ (∀ x y, Blk w1 w.heap.size 38 #[x, y] → Blk w2 w.heap.size 38 #[x, y]) := by
  have hge : ∀ k, some k = v.ownBlock → w.heap.size + 1 ≤ k := fun k e => (Row.lt hb k e.symm).1
  refine ⟨Bts.add hown, h0.trans hf (fun _ _ x => x) (fun i hi x => by have := hge i x; omega), fun s q m hl h => h.fr hf (fun e => by have := hge b e; omega), fun x y h => hf.blk h (fun e => by have := hge _ e; omega)⟩
set_option maxHeartbeats 1600000 in
theorem field_any (w : World) (b p : Nat) (s : ByteArray) (l : Bs) (h : RdAt w b s p l) (hz : s.size ≤ 1000000) :
    Calls Try.prog 18 #[ptrV b] w (FieldRan (fieldD p l) p b s w) := by
  have hlt := h.lt
  have hbr := (Fr.new w (fieldC [] 0) (fun _ => False)).blk h.2.2 (fun h => h)
  have c1 := cell_at hbr 1
  simp at c1
  have f1 := free_at (Blk.made w 38 #[strV [], .int .i64 0]) 1
  have hb1 := Blk.made w 38 #[strV [], .int .i64 (p : Int)]
  have hf1 := Fr.new w (fieldC [] (p : Int)) (fun _ => False)
  obtain ⟨t, ht⟩ : ∃ t, l.takeWhile (lacksF marksS) = t := ⟨_, rfl⟩
  obtain ⟨m, hm⟩ : ∃ m, l.dropWhile (lacksF marksS) = m := ⟨_, rfl⟩
  have hlm : l.length = t.length + m.length := by
    have := congrArg List.length (tw_app (lacksF marksS) l)
    rw [ht, hm, List.length_append] at this
    exact this
  have hlen := h.len
  have HT := Lib.hid (take_lacks marksS _ b p s l (h.fr hf1 (fun h => h)) hz t m ht hm)
  have HPF := Lib.hid (field_take l p)
  have HDM := Lib.hid (drop_marks l)
  rw [ht, hm] at HPF
  rw [hm] at HDM
  have HB := Lib.hid hb1
  have HF := Lib.hid hf1
  have hts : t.length ≤ 1000000 := by omega
  have HSZ := Lib.hid (show (w.alloc (fieldC [] (p : Int))).heap.size = w.heap.size + 1 by simp)
  have hcv := fun w => run_conv w t
  clear h hbr hb1 hf1 ht hm
  go_enter Try.func18, Try.ntmps18
  go_wp2_with fail
  refine HT.out.mono ?_
  rintro e w2 ⟨rfl, hr2, hf2⟩
  have HR2 := Lib.hid hr2
  have HF2 := Lib.hid hf2
  have hb2 := hf2.blk HB.out (fun e => by omega)
  have HB2 := Lib.hid hb2
  have hs2 := HF2.out.size
  rw [HSZ.out] at hs2
  obtain ⟨hbm, hfm⟩ := bts_made w2 t hts
  have HBM := Lib.hid hbm
  have HFM := Lib.hid hfm
  clear hr2 hf2 hb2 hbm hfm
  go_wp2_with fail
  go_loopg [4, 5, 6] m.length (fun g v4 _ _ wr => FInv w b p s l g v4 wr)
  case atStart => exact ⟨t, m, p + t.length, rfl, HBM.out.base hs2, HR2.out.fr HFM.out (fun h => h), HPF.out, HDM.out, (fr_false HF.out HF2.out).trans HFM.out (fun _ _ h => h) (fun _ _ h => h.elim), HFM.out.blk HB2.out (fun h => h), by omega⟩
  case round =>
    obtain ⟨acc, m1, q, hg, hbt, hrr, hpf, hdm, hfr, hbl, hal⟩ := hrel
    clear HT HPF HDM HB HF HSZ hcv HR2 HF2 HB2 HBM HFM hs2 hlm hts hlen f1 c1
    have hlen1 := hrr.len
    have c0' := cell_at hbl 0
    have c1' := cell_at hbl 1
    simp at c0' c1'
    have f0' := free_at hbl 0
    have f1' := free_at hbl 1
    have HRR := Lib.hid hrr
    have HFR := Lib.hid hfr
    have HBL := Lib.hid hbl
    have HBT := Lib.hid hbt
    have HG := Lib.hid hg
    have HPF := Lib.hid hpf
    have hws := hfr.size
    obtain ⟨A4, c4, rfl⟩ := hbt.slice
    obtain ⟨i0, hi0, hz0, hz1, hz2⟩ := info_parts infoB
    rcases seesD_q hdm with ⟨hx, hq⟩ | ⟨r, rfl⟩
    · have HS := Lib.hid (sees_has [34] wr b q s m1 hrr hz false hx)
      have htx : ∀ n, (convert 52 9 (.slice A4 acc.length c4)).run Try.prog (wr.drewN n) = .ok (strV acc) (wr.drewN n) := fun n => Bts.text (base := w.heap.size + 1) (hbt.fr (Fr.drewN wr n (fun _ => False)) (fun _ h => h.elim))
      have HQ := Lib.hid (hq q)
      clear hx hq hdm hbt hrr hpf hg hfr hbl
      go_wp2_with fail
      refine HS.out.mono ?_
      rintro e w3 ⟨rfl, n, rfl⟩
      have htx := htx n
      go_wp2_with fail
      have hb4 := ((HBL.out : Blk (wr.drewN n) _ _ _).put' (cs' := #[strV acc, .int .i64 (p : Int)]) 0 (strV acc) (by simp))
      obtain ⟨hf9, hb9⟩ := field_put (strV acc) (.int .i64 (p : Int)) (fresh_b (fb HFR.out (Fr.drewN wr n _)) (Fr.set (S := (· = w.heap.size)) (a := ⟨w.heap.size, 0, none⟩) (v := strV acc) rfl) (Nat.le_refl _)) hb4 (Nat.le_refl _)
      refine bodyPost_ret (results_field _ _ w.heap.size _ _ (.bool true) rfl rfl hb9) rfl ?_
      rw [HPF.out, HQ.out]
      refine ⟨by rw [List.append_nil], ⟨q, HRR.out.fr (S := (· = w.heap.size)) ?_ (by omega)⟩, hf9⟩
      exact fb (fb (fb (Fr.drewN wr n (· = w.heap.size)) (fr_put _ _ _ _)) (fr_put _ _ _ _)) (fr_put _ _ _ _)
    · have HS := Lib.hid (sees_has [34] wr b q s (34 :: r) hrr hz true rfl)
      rcases hqd : quoteD r with _ | ⟨q1, r1⟩
      · have HQ := Lib.hid (field_none hqd q)
        have HU := Lib.hid (fun n => quoted_none (wr.drewN n) b q s r hrr hz hqd)
        clear hqd hdm hbt hrr hpf hg hfr hbl
        go_wp2_with fail
        refine HS.out.mono ?_
        rintro e w3 ⟨rfl, n, rfl⟩
        have HU := Lib.hid (HU.out n)
        go_wp2_with fail
        refine HU.out.mono ?_
        rintro e w4 ⟨rfl, hr4, hf4⟩
        have hb4 := hf4.blk (HBL.out : Blk (wr.drewN n) _ _ _) (fun e => by omega)
        have HB4 := Lib.hid hb4
        have HR4 := Lib.hid hr4
        have HF4 := Lib.hid (fb HFR.out (fbn hf4))
        have f0' := free_at hb4 0
        have f1' := free_at hb4 1
        have c0' := cell_at hb4 0
        have c1' := cell_at hb4 1
        simp at c0' c1'
        clear hb4 hr4 hf4
        go_wp2_with fail
        obtain ⟨hf9, hb9⟩ := field_put (strV []) (.int .i64 0) HF4.out HB4.out (Nat.le_refl _)
        refine bodyPost_ret (results_field _ _ w.heap.size _ _ (.bool false) rfl rfl hb9) rfl ?_
        rw [HPF.out, HQ.out]
        refine ⟨rfl, ⟨34 :: r, HR4.out.fr (S := (· = w.heap.size)) ?_ (by omega)⟩, hf9⟩
        exact fb (fr_put _ _ _ _) (fr_put _ _ _ _)
      · have HQ := Lib.hid (field_some hqd q)
        have HU := Lib.hid (fun n => quoted_some (wr.drewN n) b q s r q1 r1 hrr hz hqd)
        have hrl : r.length = q1.length + r1.length + 1 := by
          rw [(quote_is hqd).1]
          simp
          omega
        obtain ⟨t1, ht1⟩ : ∃ t, r1.takeWhile (lacksF marksS) = t := ⟨_, rfl⟩
        obtain ⟨m2, hm2⟩ : ∃ m, r1.dropWhile (lacksF marksS) = m := ⟨_, rfl⟩
        have hlm : r1.length = t1.length + m2.length := by
          have := congrArg List.length (tw_app (lacksF marksS) r1)
          rw [ht1, hm2, List.length_append] at this
          exact this
        have HPF2 := Lib.hid (field_take r1 (q + q1.length + 2))
        have HDM := Lib.hid (drop_marks r1)
        rw [ht1, hm2] at HPF2
        rw [hm2] at HDM
        have HT := Lib.hid (fun W h => take_lacks marksS W b (q + q1.length + 2) s r1 h hz t1 m2 ht1 hm2)
        have hg1 : r.length + 1 = gk := hg
        have hal1 : acc.length + (r.length + 1) ≤ s.size := hal
        clear hqd hdm hbt hrr hpf hg hfr hbl ht1 hm2 hlen1
        go_wp2_with fail
        refine HS.out.mono ?_
        rintro e w3 ⟨rfl, n, rfl⟩
        have HU := Lib.hid (HU.out n)
        go_wp2_with fail
        refine HU.out.mono ?_
        rintro e w4 ⟨rfl, hr4, hf4⟩
        have HB4 := Lib.hid (hf4.blk (HBL.out : Blk (wr.drewN n) _ _ _) (fun e => by omega))
        have HR4 := Lib.hid hr4
        have HF4 := Lib.hid (fb HFR.out (fbn hf4))
        have HBT4 := Lib.hid ((HBT.out.fr (Fr.drewN wr n (· = b)) (fun g e => by omega)).fr hf4 (fun g e => by omega))
        have hs4 := HB4.out.lt
        clear hr4 hf4
        go_wp2_with (at_builtin; refine wpList_append_str _ rfl (.tmp 27) (.tmp 28) 52 9 rfl (w.heap.size + 1) 5 i0 Try.underlying52 Try.underlying9 hi0 hz0 hz1 hz2 _ acc.length _ rfl HBT4.out ⟨q1.toArray⟩ rfl (by rw [str_size]; omega) (by omega) ?_; intro v7 w7 hown7 hf7 _)
        obtain ⟨hbt7, hfr7, hrr7, hbl7⟩ := add_ok HBT4.out hown7 hf7 HF4.out
        obtain ⟨acc2, ha2⟩ : ∃ a2, acc ++ q1 = a2 := ⟨_, rfl⟩
        have hb63 : acc2.length + t1.length ≤ 1000000 := by rw [← ha2, List.length_append]; omega
        rw [ha2] at hbt7
        have HA2 := Lib.hid ha2
        have HR7 := Lib.hid (hrr7 s _ _ hlt HR4.out)
        have HT7 := Lib.hid (HT.out w7 HR7.out)
        have HBT7 := Lib.hid hbt7
        have HF7 := Lib.hid hfr7
        have HB7 := Lib.hid (hbl7 _ _ HB4.out)
        obtain ⟨A7, c7, rfl⟩ := hbt7.slice
        clear hbt7 hfr7 hrr7 hbl7 hown7 hf7 ha2
        refine HT7.out.mono ?_
        rintro e w8 ⟨rfl, hr8, hf8⟩
        have HR8 := Lib.hid hr8
        have HF8 := Lib.hid (fb HF7.out hf8)
        have HB8 := Lib.hid (hf8.blk HB7.out (fun e => by omega))
        have HBT8 := Lib.hid (HBT7.out.fr hf8 (fun g e => by omega))
        have hs8 := HB8.out.lt
        clear hr8 hf8
        go_wp2_with (at_builtin; refine wpList_append_str _ rfl (.tmp 30) (.tmp 33) 52 9 rfl (w.heap.size + 1) 5 i0 Try.underlying52 Try.underlying9 hi0 hz0 hz1 hz2 _ acc2.length _ rfl HBT8.out ⟨t1.toArray⟩ rfl (by rw [str_size]; exact hb63) (by omega) ?_; intro v9 w9 hown9 hf9 _)
        obtain ⟨hbt9, hfr9, hrr9, hbl9⟩ := add_ok HBT8.out hown9 hf9 HF8.out
        obtain ⟨A9, c9, rfl⟩ := hbt9.slice
        go_roundg m2.length
        case measure => omega
        case rel =>
          refine ⟨acc2 ++ t1, m2, _, rfl, hbt9, hrr9 s _ _ hlt HR8.out, ?_, HDM.out, hfr9, hbl9 _ _ HB8.out, by rw [← HA2.out]; simp; omega⟩
          rw [HPF.out, HQ.out, HPF2.out, ← HA2.out]
          cases fieldD (q + q1.length + 2 + t1.length) m2 with
          | error k => rfl
          | ok x => simp [Except.map]
end Go.Proofs.Ytolmemdkklfdpaa
