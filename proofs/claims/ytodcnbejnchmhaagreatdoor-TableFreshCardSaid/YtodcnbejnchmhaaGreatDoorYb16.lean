import Derived.Test.YtodcnbejnchmhaaGreatDoorYb15
import Derived.Deep.RegionHeld3
import Derived.Test.YtodcnbejnchmhaaGreatDoorProg
import Derived.Test.YtodcnbejnchmhaaGreatDoorYb10
import Derived.Test.YtodcnbejnchmhaaGreatDoorYb04
import Derived.Lib.Hide
import Derived.IntWalk
import Derived.LoopTactic
import Derived.Deep.LoopGhost
import Derived.Test.YtodcnbejnchmhaaGreatDoorYb03
import Derived.BigQuiet
import Derived.Deep.QuietTactic
import Derived.WalkLawsBesides
import Derived.Tactics2
import Derived.Test.YtodcnbejnchmhaaGreatDoorYb11
import Derived.Lib.AppendIntMem
import Derived.Lib.ConvBytes
namespace Go.Proofs.YtodcnbejnchmhaaGreatDoor.S7
open Go.RowKit Go.Mem Go.Lxr

abbrev fieldV (s : Bs) (p : Int) : Value := .agg #[strV s, .int .i64 p]
abbrev fieldC (s : Bs) (p : Int) : Obj := .cells #[strV s, .int .i64 p] 172
theorem infoFd : (Tryz.prog.info? 172).map (fun i => (i.size)) = some 2 := by kernel_rfl
/-- what field answers -/
def FieldRan (g : Except Nat (Bs × Bs)) (p b : Nat) (s : ByteArray) (w : World) (e : Ending) (w' : World) : Prop :=
  match g with
  | .error k => e = .returned (.tuple #[fieldV [] 0, .bool false]) ∧ (∃ m, RdAt w' b s k m) ∧ Fr w w' (· = b)
  | .ok (t, r) => e = .returned (.tuple #[fieldV t p, .bool true]) ∧ (∃ q, RdAt w' b s q r) ∧ Fr w w' (· = b)
/-- before a round of field's loop -/
def FInv (w : World) (b p : Nat) (s : ByteArray) (l : Bs) (g : Nat) (v4 : Value) (wr : World) : Prop :=
  ∃ (acc m : Bs) (q : Nat), m.length = g ∧ Bts wr (w.heap.size + 1) v4 acc ∧ RdAt wr b s q m ∧ (fieldD p l = (fieldD q m).map fun x => (acc ++ x.1, x.2)) ∧ (m = [] ∨ ∃ c r, m = c :: r ∧ (stopB c = true ∨ c = 34)) ∧
    Fr w wr (· = b) ∧ Blk wr w.heap.size 172 #[strV [], .int .i64 (p : Int)] ∧ acc.length + m.length ≤ s.size
theorem load_f {w : World} {g : Nat} {x y : Value} (h : Blk w g 172 #[x, y]) : (loadVar 172 ⟨g, 0, none⟩).run Tryz.prog w = .ok (.agg #[x, y]) w := run_loadVar_row w g 172 172 #[x, y] (0, 0) _ h Tryz.underlying172 rfl infoFd
theorem results_field (tmps : Array Value) (w : World) (q : Nat) (x y k : Value) (h2 : tmps.getD 2 undef = .pointer (some ⟨q, 0, none⟩)) (h3 : tmps.getD 3 undef = k)
    (hb : Blk w q 172 #[x, y]) : (results Tryz.f106 tmps).run Tryz.prog w = .ok (.tuple #[.agg #[x, y], k]) w := by
  have h2' : tmps[2]?.getD undef = .pointer (some ⟨q, 0, none⟩) := by simpa using h2
  have h3' : tmps[3]?.getD undef = k := by simpa using h3
  have hL := load_f hb
  simp [results, Tryz.results106, h2', h3', asAddr, hL]
theorem fresh_b {a b c : World} {q g : Nat} (h : Fr a b (· = q)) (k : Fr b c (· = g)) (hg : a.heap.size ≤ g) : Fr a c (· = q) := h.trans k (fun _ _ x => x) (fun i hi x => by subst x; omega)
theorem fr_false {a b c : World} {S : Nat → Prop} (h : Fr a b (fun _ => False)) (k : Fr b c S) : Fr a c S := h.trans k (fun _ _ x => x.elim) (fun _ _ x => x)
theorem seesD_q {m : Bs} (h : m = [] ∨ ∃ c r, m = c :: r ∧ (stopB c = true ∨ c = 34)) : (seesD (hasF [34]) m = false ∧ ∀ q, fieldD q m = .ok ([], m)) ∨ ∃ r, m = 34 :: r := by
  rcases h with rfl | ⟨c, r, rfl, hc⟩
  · exact .inl ⟨rfl, field_nil⟩
  · by_cases h34 : c = 34
    · exact .inr ⟨r, by rw [h34]⟩
    · refine .inl ⟨?_, fun q => field_stop (hc.resolve_right h34) q r⟩
      show List.contains [34] c = false
      rw [one_iff]
      simpa using h34
theorem field_put {w0 w2 : World} {F b : Nat} {x y : Value} (k d : Value) (h : Fr w0 w2 (· = b)) (hb : Blk w2 F 172 #[x, y]) (hge : w0.heap.size ≤ F) :
    Fr w0 ((w2.setCell ⟨F, 0, none⟩ k).setCell ⟨F, 1, none⟩ d) (· = b) ∧ Blk ((w2.setCell ⟨F, 0, none⟩ k).setCell ⟨F, 1, none⟩ d) F 172 #[k, d] := by
  have f1 := fresh_b h (Fr.set (S := (· = F)) (a := ⟨F, 0, none⟩) (v := k) rfl) hge
  have f2 := fresh_b f1 (Fr.set (S := (· = F)) (a := ⟨F, 1, none⟩) (v := d) rfl) hge
  exact ⟨f2, (hb.put' (cs' := #[k, y]) 0 k (by simp)).put' (cs' := #[k, d]) 1 d (by simp)⟩
theorem add_ok {w w1 w2 : World} {b : Nat} {v v' : Value} {acc t : Bs} (hb : Bts w1 (w.heap.size + 1) v acc) (hown : Row w2 (w.heap.size + 1) 5 1 v' (acc.length + (⟨t.toArray⟩ : ByteArray).size) (acc.map u8V ++ strCells ⟨t.toArray⟩)) (hf : Fr w1 w2 (fun k => some k = v.ownBlock)) (h0 : Fr w w1 (· = b)) :
    Bts w2 (w.heap.size + 1) v' (acc ++ t) ∧ Fr w w2 (· = b) ∧ (∀ s q m, b < w.heap.size → RdAt w1 b s q m → RdAt w2 b s q m) ∧ (∀ x y, Blk w1 w.heap.size 172 #[x, y] → Blk w2 w.heap.size 172 #[x, y]) := by
  have hge : ∀ k, some k = v.ownBlock → w.heap.size + 1 ≤ k := fun k e => (Row.lt hb k e.symm).1
  refine ⟨Bts.add hown, h0.trans hf (fun _ _ x => x) (fun i hi x => by have := hge i x; omega), fun s q m hl h => h.fr hf (fun e => by have := hge b e; omega), fun x y h => hf.blk h (fun e => by have := hge _ e; omega)⟩
set_option maxHeartbeats 1600000 in
theorem field_any (w : World) (b p : Nat) (s : ByteArray) (l : Bs) (h : RdAt w b s p l) (hz : s.size ≤ 1000000) :
    Calls Tryz.prog 106 #[ptrV b] w (FieldRan (fieldD p l) p b s w) := by
  have hlt := h.lt
  have hbr := (Fr.new w (fieldC [] 0) (fun _ => False)).blk h.2.2 (fun h => h)
  have c1 := cell_at hbr 1
  simp at c1
  have f1 := free_at (Blk.made w 172 #[strV [], .int .i64 0]) 1
  have hb1 := Blk.made w 172 #[strV [], .int .i64 (p : Int)]
  have hf1 := Fr.new w (fieldC [] (p : Int)) (fun _ => False)
  obtain ⟨t, ht⟩ : ∃ t, l.takeWhile (lacksF marksS) = t := ⟨_, rfl⟩
  obtain ⟨m, hm⟩ : ∃ m, l.dropWhile (lacksF marksS) = m := ⟨_, rfl⟩
  have hlm : l.length = t.length + m.length := by
    have := congrArg List.length (tw_app (lacksF marksS) l)
    rw [ht, hm, List.length_append] at this
    exact this
  have hlen := h.len
  have HT := Lib.hid (take_lacks marksS _ b p s l (h.fr hf1 (fun h => h)) hz t m ht hm)
  have HPF := Lib.hid (field_take l p)
  have HDM := Lib.hid (drop_marks l)
  rw [ht, hm] at HPF
  rw [hm] at HDM
  have HB := Lib.hid hb1
  have HF := Lib.hid hf1
  have hts : t.length ≤ 1000000 := by omega
  have HSZ := Lib.hid (show (w.alloc (fieldC [] (p : Int))).heap.size = w.heap.size + 1 by simp)
  have hcv := fun w => run_conv w t
  clear h hbr hb1 hf1 ht hm
  go_enter Tryz.func106, Tryz.ntmps106
  go_wp2_with fail
  refine HT.out.mono ?_
  rintro e w2 ⟨rfl, hr2, hf2⟩
  have HR2 := Lib.hid hr2
  have HF2 := Lib.hid hf2
  have hb2 := hf2.blk HB.out (fun e => by omega)
  have HB2 := Lib.hid hb2
  have hs2 := HF2.out.size
  rw [HSZ.out] at hs2
  obtain ⟨hbm, hfm⟩ := bts_made w2 t hts
  have HBM := Lib.hid hbm
  have HFM := Lib.hid hfm
  clear hr2 hf2 hb2 hbm hfm
  go_wp2_with fail
  go_loopg [4, 5, 6] m.length (fun g v4 _ _ wr => FInv w b p s l g v4 wr)
  case atStart => exact ⟨t, m, p + t.length, rfl, HBM.out.base hs2, HR2.out.fr HFM.out (fun h => h), HPF.out, HDM.out, (fr_false HF.out HF2.out).trans HFM.out (fun _ _ h => h) (fun _ _ h => h.elim), HFM.out.blk HB2.out (fun h => h), by omega⟩
  case round =>
    obtain ⟨acc, m1, q, hg, hbt, hrr, hpf, hdm, hfr, hbl, hal⟩ := hrel
    clear HT HPF HDM HB HF HSZ hcv HR2 HF2 HB2 HBM HFM hs2 hlm hts hlen f1 c1
    have hlen1 := hrr.len
    have c0' := cell_at hbl 0
    have c1' := cell_at hbl 1
    simp at c0' c1'
    have f0' := free_at hbl 0
    have f1' := free_at hbl 1
    have HRR := Lib.hid hrr
    have HFR := Lib.hid hfr
    have HBL := Lib.hid hbl
    have HBT := Lib.hid hbt
    have HG := Lib.hid hg
    have HPF := Lib.hid hpf
    have hws := hfr.size
    obtain ⟨A4, c4, rfl⟩ := hbt.slice
    obtain ⟨i0, hi0, hz0, hz1, hz2⟩ := info_parts infoB
    rcases seesD_q hdm with ⟨hx, hq⟩ | ⟨r, rfl⟩
    · have HS := Lib.hid (sees_has [34] wr b q s m1 hrr hz false hx)
      have htx : ∀ n, (convert 157 9 (.slice A4 acc.length c4)).run Tryz.prog (wr.drewN n) = .ok (strV acc) (wr.drewN n) := fun n => Bts.text (base := w.heap.size + 1) (hbt.fr (Fr.drewN wr n (fun _ => False)) (fun _ h => h.elim))
      have HQ := Lib.hid (hq q)
      clear hx hq hdm hbt hrr hpf hg hfr hbl
      go_wp2_with fail
      refine HS.out.mono ?_
      rintro e w3 ⟨rfl, n, rfl⟩
      have htx := htx n
      go_wp2_with fail
      have hb4 := ((HBL.out : Blk (wr.drewN n) _ _ _).put' (cs' := #[strV acc, .int .i64 (p : Int)]) 0 (strV acc) (by simp))
      obtain ⟨hf9, hb9⟩ := field_put (strV acc) (.int .i64 (p : Int)) (fresh_b (fb HFR.out (Fr.drewN wr n _)) (Fr.set (S := (· = w.heap.size)) (a := ⟨w.heap.size, 0, none⟩) (v := strV acc) rfl) (Nat.le_refl _)) hb4 (Nat.le_refl _)
      refine bodyPost_ret (results_field _ _ w.heap.size _ _ (.bool true) rfl rfl hb9) rfl ?_
      rw [HPF.out, HQ.out]
      refine ⟨by rw [List.append_nil], ⟨q, HRR.out.fr (S := (· = w.heap.size)) ?_ (by omega)⟩, hf9⟩
      exact fb (fb (fb (Fr.drewN wr n (· = w.heap.size)) (fr_put _ _ _ _)) (fr_put _ _ _ _)) (fr_put _ _ _ _)
    · have HS := Lib.hid (sees_has [34] wr b q s (34 :: r) hrr hz true rfl)
      rcases hqd : quoteD r with _ | ⟨q1, r1⟩
      · have HQ := Lib.hid (field_none hqd q)
        have HU := Lib.hid (fun n => quoted_none (wr.drewN n) b q s r hrr hz hqd)
        clear hqd hdm hbt hrr hpf hg hfr hbl
        go_wp2_with fail
        refine HS.out.mono ?_
        rintro e w3 ⟨rfl, n, rfl⟩
        have HU := Lib.hid (HU.out n)
        go_wp2_with fail
        refine HU.out.mono ?_
        rintro e w4 ⟨rfl, hr4, hf4⟩
        have hb4 := hf4.blk (HBL.out : Blk (wr.drewN n) _ _ _) (fun e => by omega)
        have HB4 := Lib.hid hb4
        have HR4 := Lib.hid hr4
        have HF4 := Lib.hid (fb HFR.out (fbn hf4))
        have f0' := free_at hb4 0
        have f1' := free_at hb4 1
        have c0' := cell_at hb4 0
        have c1' := cell_at hb4 1
        simp at c0' c1'
        clear hb4 hr4 hf4
        go_wp2_with fail
        obtain ⟨hf9, hb9⟩ := field_put (strV []) (.int .i64 0) HF4.out HB4.out (Nat.le_refl _)
        refine bodyPost_ret (results_field _ _ w.heap.size _ _ (.bool false) rfl rfl hb9) rfl ?_
        rw [HPF.out, HQ.out]
        refine ⟨rfl, ⟨34 :: r, HR4.out.fr (S := (· = w.heap.size)) ?_ (by omega)⟩, hf9⟩
        exact fb (fr_put _ _ _ _) (fr_put _ _ _ _)
      · have HQ := Lib.hid (field_some hqd q)
        have HU := Lib.hid (fun n => quoted_some (wr.drewN n) b q s r q1 r1 hrr hz hqd)
        have hrl : r.length = q1.length + r1.length + 1 := by
          rw [(quote_is hqd).1]
          simp
          omega
        obtain ⟨t1, ht1⟩ : ∃ t, r1.takeWhile (lacksF marksS) = t := ⟨_, rfl⟩
        obtain ⟨m2, hm2⟩ : ∃ m, r1.dropWhile (lacksF marksS) = m := ⟨_, rfl⟩
        have hlm : r1.length = t1.length + m2.length := by
          have := congrArg List.length (tw_app (lacksF marksS) r1)
          rw [ht1, hm2, List.length_append] at this
          exact this
        have HPF2 := Lib.hid (field_take r1 (q + q1.length + 2))
        have HDM := Lib.hid (drop_marks r1)
        rw [ht1, hm2] at HPF2
        rw [hm2] at HDM
        have HT := Lib.hid (fun W h => take_lacks marksS W b (q + q1.length + 2) s r1 h hz t1 m2 ht1 hm2)
        have hg1 : r.length + 1 = gk := hg
        have hal1 : acc.length + (r.length + 1) ≤ s.size := hal
        clear hqd hdm hbt hrr hpf hg hfr hbl ht1 hm2 hlen1
        go_wp2_with fail
        refine HS.out.mono ?_
        rintro e w3 ⟨rfl, n, rfl⟩
        have HU := Lib.hid (HU.out n)
        go_wp2_with fail
        refine HU.out.mono ?_
        rintro e w4 ⟨rfl, hr4, hf4⟩
        have HB4 := Lib.hid (hf4.blk (HBL.out : Blk (wr.drewN n) _ _ _) (fun e => by omega))
        have HR4 := Lib.hid hr4
        have HF4 := Lib.hid (fb HFR.out (fbn hf4))
        have HBT4 := Lib.hid ((HBT.out.fr (Fr.drewN wr n (· = b)) (fun g e => by omega)).fr hf4 (fun g e => by omega))
        have hs4 := HB4.out.lt
        clear hr4 hf4
        go_wp2_with (at_builtin; refine wpList_append_str _ rfl (.tmp 27) (.tmp 28) 157 9 rfl (w.heap.size + 1) 5 i0 Tryz.underlying157 Tryz.underlying9 hi0 hz0 hz1 hz2 _ acc.length _ rfl HBT4.out ⟨q1.toArray⟩ rfl (by rw [str_size]; omega) (by omega) ?_; intro v7 w7 hown7 hf7 _)
        obtain ⟨hbt7, hfr7, hrr7, hbl7⟩ := add_ok HBT4.out hown7 hf7 HF4.out
        obtain ⟨acc2, ha2⟩ : ∃ a2, acc ++ q1 = a2 := ⟨_, rfl⟩
        have hb63 : acc2.length + t1.length ≤ 1000000 := by rw [← ha2, List.length_append]; omega
        rw [ha2] at hbt7
        have HA2 := Lib.hid ha2
        have HR7 := Lib.hid (hrr7 s _ _ hlt HR4.out)
        have HT7 := Lib.hid (HT.out w7 HR7.out)
        have HBT7 := Lib.hid hbt7
        have HF7 := Lib.hid hfr7
        have HB7 := Lib.hid (hbl7 _ _ HB4.out)
        obtain ⟨A7, c7, rfl⟩ := hbt7.slice
        clear hbt7 hfr7 hrr7 hbl7 hown7 hf7 ha2
        refine HT7.out.mono ?_
        rintro e w8 ⟨rfl, hr8, hf8⟩
        have HR8 := Lib.hid hr8
        have HF8 := Lib.hid (fb HF7.out hf8)
        have HB8 := Lib.hid (hf8.blk HB7.out (fun e => by omega))
        have HBT8 := Lib.hid (HBT7.out.fr hf8 (fun g e => by omega))
        have hs8 := HB8.out.lt
        clear hr8 hf8
        go_wp2_with (at_builtin; refine wpList_append_str _ rfl (.tmp 30) (.tmp 33) 157 9 rfl (w.heap.size + 1) 5 i0 Tryz.underlying157 Tryz.underlying9 hi0 hz0 hz1 hz2 _ acc2.length _ rfl HBT8.out ⟨t1.toArray⟩ rfl (by rw [str_size]; exact hb63) (by omega) ?_; intro v9 w9 hown9 hf9 _)
        obtain ⟨hbt9, hfr9, hrr9, hbl9⟩ := add_ok HBT8.out hown9 hf9 HF8.out
        obtain ⟨A9, c9, rfl⟩ := hbt9.slice
        go_roundg m2.length
        case measure => omega
        case rel =>
          refine ⟨acc2 ++ t1, m2, _, rfl, hbt9, hrr9 s _ _ hlt HR8.out, ?_, HDM.out, hfr9, hbl9 _ _ HB8.out, by rw [← HA2.out]; simp; omega⟩
          rw [HPF.out, HQ.out, HPF2.out, ← HA2.out]
          cases fieldD (q + q1.length + 2 + t1.length) m2 with
          | error k => rfl
          | ok x => simp [Except.map]
end Go.Proofs.YtodcnbejnchmhaaGreatDoor.S7
namespace Go.Proofs.YtodcnbejnchmhaaGreatDoor.S7
open Go.RowKit Go.Mem Go.Lxr

abbrev FPair := Bs × Nat
def cellsF (x : FPair) : List Value := [strV x.1, .int .i64 (x.2 : Int)]
/-- the slice v is the call's own and holds these fields, of the type t -/
def Flds (t : TypeId) (w : World) (base : Nat) (v : Value) (fs : List FPair) : Prop := w.ownsRow base t 2 v fs.length (fs.flatMap cellsF)
theorem own_base {w : World} {base base' : Nat} {e : TypeId} {size n : Nat} {v : Value} {xs : List Value} (h : w.ownsRow base e size v n xs) (hb : base' ≤ base) : w.ownsRow base' e size v n xs := by
  refine ⟨h.1, ?_⟩
  rcases h.2 with h2 | ⟨g, cap, cur, hv, hg, r⟩
  · exact .inl h2
  · exact .inr ⟨g, cap, cur, hv, by omega, r⟩
theorem Flds.fr {t : TypeId} {a b : World} {S : Nat → Prop} {base : Nat} {v : Value} {fs : List FPair} (h : Flds t a base v fs) (hf : Fr a b S) (hg : ∀ g, S g → g < base) : Flds t b base v fs :=
  Fr.own hf h (fun g e hs => by have := (h.lt g e).1; have := hg g hs; omega)
theorem flds_nil (t : TypeId) (w : World) (base : Nat) : Flds t w base (.slice none 0 0) [] := World.ownsRow_nil _ _ _ _
theorem rd_two (w : World) (x y : Value) (t : TypeId) : Rd (w.alloc (.cells #[x, y] t)) 2 (some ⟨w.heap.size, 0, none⟩) 1 [x, y] := by
  refine ⟨by simp, fun _ => ⟨w.heap.size, 0, rfl, fun j u hu => ?_⟩⟩
  have := two_new w x y t j u hu
  have hadd : (⟨w.heap.size, 0, none⟩ : Addr).add j = ⟨w.heap.size, 0 + j, none⟩ := by unfold Addr.add; split <;> simp_all
  rw [hadd] at this
  exact this
theorem one_two' (x : Bs) (y : Int) : ∀ u ∈ [strV x, Value.int .i64 y], u.oneCell' = true := one_two _ _ rfl rfl
/-- white that is passed by -/
theorem fields_skip : ∀ (l : Bs) (p : Nat), fieldsD p l = fieldsD (p + (l.takeWhile (hasF whiteS)).length) (l.dropWhile (hasF whiteS)) := by
  intro l
  induction l with
  | nil => intro p; rfl
  | cons c l ih =>
    intro p
    cases hc : hasF whiteS c with
    | true =>
      obtain ⟨e1, e2⟩ := tw_cons (l := l) hc
      rw [e1, e2]
      have hc : whiteS.contains c = true := hc
      rw [white_iff] at hc
      rw [fields_white hc, ih, List.length_cons, show p + 1 + (l.takeWhile (hasF whiteS)).length = p + ((l.takeWhile (hasF whiteS)).length + 1) by omega]
    | false =>
      obtain ⟨e1, e2⟩ := tw_stop (f := hasF whiteS) (l := c :: l) hc
      rw [e1, e2]
      rfl
theorem drop_white (l : Bs) : l.dropWhile (hasF whiteS) = [] ∨ ∃ c r, l.dropWhile (hasF whiteS) = c :: r ∧ whiteB c = false := by
  induction l with
  | nil => exact .inl rfl
  | cons c l ih =>
    cases hc : hasF whiteS c with
    | true => rw [(tw_cons (l := l) hc).2]; exact ih
    | false =>
      rw [(tw_stop (f := hasF whiteS) (l := c :: l) hc).2]
      have hc : whiteS.contains c = false := hc
      rw [white_iff] at hc
      exact .inr ⟨c, l, rfl, hc⟩
/-- at the end of a line, or at a field -/
theorem starts_two {r : Bs} (h : r = [] ∨ ∃ c r', r = c :: r' ∧ whiteB c = false) : (startsD r = false ∧ ∀ q, fieldsD q r = .ok []) ∨ (startsD r = true ∧ ∃ c r', r = c :: r' ∧ stopB c = false) := by
  rcases h with rfl | ⟨c, r', rfl, hc⟩
  · exact .inl ⟨rfl, fields_nil⟩
  · by_cases h35 : c = 35
    · subst h35
      exact .inl ⟨rfl, fun q => fields_note q r'⟩
    · refine .inr ⟨?_, c, r', rfl, ?_⟩
      · show (!(c == 35)) = true
        simpa using h35
      · unfold stopB
        rw [hc]
        simpa using h35
/-- what Fields answers of a line that is not too long -/
def FieldsRan (t : TypeId) (g : Except Nat (List FPair)) (w : World) (e : Ending) (w' : World) : Prop :=
  match g with
  | .error k => e = .returned (.tuple #[.slice none 0 0, .int .i64 (k : Int), .int .i64 9]) ∧ Fr w w' (fun _ => False)
  | .ok fs => ∃ v, e = .returned (.tuple #[v, .int .i64 0, .int .i64 0]) ∧ Flds t w' w.heap.size v fs ∧ Fr w w' (fun _ => False)
def NInv (w : World) (s : ByteArray) (l : Bs) (g : Nat) (v2 : Value) (wr : World) : Prop :=
  ∃ (done : List FPair) (m : Bs) (q : Nat), m.length = g ∧ Flds 172 wr (w.heap.size + 1) v2 done ∧ RdAt wr w.heap.size s q m ∧ (fieldsD 0 l = (fieldsD q m).map fun x => done ++ x) ∧ Fr w wr (fun _ => False) ∧ done.length + m.length ≤ 200
theorem fresh_f {a b c : World} {g : Nat} (h : Fr a b (fun _ => False)) (k : Fr b c (· = g)) (hg : a.heap.size ≤ g) : Fr a c (fun _ => False) := h.fresh k (fun i e => by omega)
theorem Fields_long (s : ByteArray) (w : World) (h : 200 < s.size) (hz : s.size ≤ 1000000) : Calls Tryz.prog 66 #[.string s] w fun e w' => e = .returned (.tuple #[.slice none 0 0, .int .i64 0, .int .i64 17]) ∧ w = w' := by
  go_enter Tryz.func66, Tryz.ntmps66
  go_wp2_with fail
  go_ret3
  exact ⟨rfl, rfl⟩
set_option maxHeartbeats 1600000 in
theorem Fields_short (s : ByteArray) (l : Bs) (w : World) (hs : s.data.toList = l) (h : s.size ≤ 200) : Calls Tryz.prog 66 #[.string s] w (FieldsRan 172 (fieldsD 0 l) w) := by
  have hlen : l.length = s.size := by rw [← hs]; exact bytes_len s
  have hb := Blk.made w 171 #[.string s, .int .i64 0]
  have H0 := Lib.hid (show RdAt (w.alloc (.cells #[.string s, .int .i64 0] 171)) w.heap.size s 0 l from ⟨Nat.zero_le _, by simpa using hs, hb⟩)
  clear hb hs
  go_enter Tryz.func66, Tryz.ntmps66
  go_wp2_with fail
  go_loopg [2, 6, 7] l.length (fun g v2 _ _ wr => NInv w s l g v2 wr)
  case atStart => exact ⟨[], l, 0, rfl, flds_nil _ _ _, H0.out, by cases fieldsD 0 l <;> rfl, Fr.new _ _ _, by simp; omega⟩
  case round =>
    obtain ⟨done, m, q, hg, hfl, hrd, hpf, hfr, hdl⟩ := hrel
    have hlen1 := hrd.len
    obtain ⟨t, ht⟩ : ∃ t, m.takeWhile (hasF whiteS) = t := ⟨_, rfl⟩
    obtain ⟨r, hr⟩ : ∃ r, m.dropWhile (hasF whiteS) = r := ⟨_, rfl⟩
    have hsk := fields_skip m q
    have hdw := drop_white m
    have hlm : m.length = t.length + r.length := by
      have := congrArg List.length (tw_app (hasF whiteS) m)
      rw [ht, hr, List.length_append] at this
      exact this
    rw [ht, hr] at hsk
    rw [hr] at hdw
    have HPF := Lib.hid hpf
    have HFL := Lib.hid hfl
    have HFR := Lib.hid hfr
    have hws := hrd.lt
    obtain ⟨A2, c2, rfl⟩ := own_slice hfl
    rcases starts_two hdw with ⟨hx, hn⟩ | ⟨hx, c, r0, hc, hcs⟩
    · have HN := Lib.hid (find_any wr w.heap.size q s m hrd (by omega) t r ht hr false hx)
      have HQ := Lib.hid (hn (q + t.length))
      have HSK := Lib.hid hsk
      clear hpf hfl hfr ht hr hsk hdw hx hn hrd hlm hlen1
      go_wp2_with fail
      refine HN.out.mono ?_
      rintro e w2 ⟨rfl, hr2, hf2⟩
      go_wp2_with fail
      go_ret3
      rw [HPF.out, HSK.out, HQ.out]
      refine ⟨_, rfl, ?_, fresh_f HFR.out hf2 (Nat.le_refl _)⟩
      show Flds _ _ _ _ (done ++ [])
      rw [List.append_nil]
      exact own_base (HFL.out.fr hf2 (fun g e => by omega)) (Nat.le_succ _)
    · have HN := Lib.hid (find_any wr w.heap.size q s m hrd (by omega) t r ht hr true hx)
      obtain ⟨q2, hq2⟩ : ∃ q2 : Nat, q + t.length = q2 := ⟨_, rfl⟩
      rw [hq2] at HN hsk
      have HSK := Lib.hid hsk
      have hqs : q2 + r.length = s.size := by omega
      have HM := Lib.hid (fun W h => field_any W w.heap.size q2 s r h (by omega))
      subst hc
      rcases hgf : fieldD q2 (c :: r0) with k | ⟨x, r1⟩
      · have HQ := Lib.hid (fields_bad hcs q2 k r0 hgf)
        rw [hgf] at HM
        clear hpf hfl hfr ht hr hsk hdw hx hrd hlm hlen1 hgf hq2 hqs
        go_wp2_with fail
        refine HN.out.mono ?_
        rintro e w2 ⟨rfl, hr2, hf2⟩
        have HM2 := Lib.hid (HM.out w2 hr2)
        have HF2 := Lib.hid (fresh_f HFR.out hf2 (Nat.le_refl _))
        clear hr2 hf2
        go_wp2_with fail
        refine HM2.out.mono ?_
        rintro e w3 ⟨rfl, ⟨m3, hr3⟩, hf3⟩
        have HF3 := Lib.hid (fresh_f HF2.out hf3 (Nat.le_refl _))
        have c0' := (Fr.new w3 (fieldC [] 0) (fun _ => False)).cell0 (cell_at hr3.2.2 0)
        have c1' := (Fr.new w3 (fieldC [] 0) (fun _ => False)).cell0 (cell_at hr3.2.2 1)
        simp at c0' c1'
        clear hr3 hf3
        go_wp2_with fail
        go_quiet (fail)
        go_wp2_with fail
        go_ret3
        rw [HPF.out, HSK.out, HQ.out]
        exact ⟨rfl, ff (ff HF3.out (Fr.new _ _ _)) (Fr.drewN _ _ _)⟩
      · have HQ := Lib.hid (fields_one hcs q2 r0 x r1 hgf)
        obtain ⟨-, -, -, hlt⟩ := field_ok _ _ x r1 hgf
        have hlt := hlt ⟨c, r0, rfl, hcs⟩
        rw [hgf] at HM
        have hg2 : r1.length < gk := by omega
        have hd2 : done.length + 1 + r1.length ≤ 200 := by omega
        have HQS := Lib.hid hqs
        clear hpf hfl hfr ht hr hsk hdw hx hrd hlm hgf hlen1 hg hdl hq2 hqs hlen
        go_wp2_with fail
        refine HN.out.mono ?_
        rintro e w2 ⟨rfl, hr2, hf2⟩
        have HM2 := Lib.hid (HM.out w2 hr2)
        have HF2 := Lib.hid (fresh_f HFR.out hf2 (Nat.le_refl _))
        have HFL2 := Lib.hid (HFL.out.fr hf2 (fun g e => by omega))
        clear hr2 hf2
        go_wp2_with fail
        refine HM2.out.mono ?_
        rintro e w3 ⟨rfl, ⟨q3, hr3⟩, hf3⟩
        have hf4 := Fr.new w3 (fieldC x (q2 : Int)) (fun _ => False)
        have hf5 := ff hf4 (Fr.new (w3.alloc (fieldC x (q2 : Int))) (fieldC x (q2 : Int)) (fun _ => False))
        have HF5 := Lib.hid (ff (fresh_f HF2.out hf3 (Nat.le_refl _)) hf5)
        have HR5 := Lib.hid (hr3.fr hf5 (fun h => h))
        have HFL5 := Lib.hid ((HFL2.out.fr hf3 (fun g e => by omega)).fr hf5 (fun g e => e.elim))
        have hld := load_f (Blk.made w3 172 #[strV x, .int .i64 (q2 : Int)])
        have hs5 : w.heap.size + 1 ≤ ((w3.alloc (fieldC x (q2 : Int))).alloc (fieldC x (q2 : Int))).heap.size := by have := HR5.out.lt; omega
        have hrx := rd_two (w3.alloc (fieldC x (q2 : Int))) (strV x) (.int .i64 (q2 : Int)) 172
        rw [show (w3.alloc (fieldC x (q2 : Int))).heap.size = w3.heap.size + 1 by simp] at hrx
        have HRX := Lib.hid hrx
        obtain ⟨i0, hi0, hz0, hz1, hz2⟩ := info_parts infoF
        clear hr3 hf3 hf4 hf5 hrx
        go_wp2_with (at_builtin; refine wpList_append_rd _ rfl (.tmp 27) (.tmp 29) 133 rfl (w.heap.size + 1) 172 i0 _ 2 24 Tryz.underlying133 hi0 hz0 hz1 hz2 rfl (by decide) _ done.length _ rfl HFL5.out _ 1 1 [strV x, .int .i64 (q2 : Int)] rfl HRX.out (one_two' _ _) (by simp only [maxLen]; omega) (by omega) hs5 ?_; intro v7 w7 hown7 hg7 _)
        have hfl7 : Flds 172 w7 (w.heap.size + 1) v7 (done ++ [(x, q2)]) := by
          show World.ownsRow _ _ _ _ _ _ _
          simpa [cellsF] using hown7
        have hf7 := Fr.ofGrown hg7
        obtain ⟨A7, c7, rfl⟩ := own_slice hfl7
        have hge : ∀ k, some k = (Value.slice A2 done.length c2).ownBlock → w.heap.size + 1 ≤ k := fun k e => (HFL5.out.lt k e.symm).1
        go_roundg r1.length
        case measure => omega
        case rel =>
          have hr7 := HR5.out.fr hf7 (fun e => by have := hge _ e; omega)
          have hlen7 := hr7.len
          refine ⟨done ++ [(x, q2)], r1, q3, rfl, hfl7, hr7, ?_, HF5.out.fresh hf7 (fun i e => by have := hge _ e; omega), by simp; omega⟩
          rw [HPF.out, HSK.out, HQ.out, show q2 + ((c :: r0).length - r1.length) = q3 by have := HQS.out; omega]
          cases fieldsD q3 r1 with
          | error k => rfl
          | ok x => simp [Except.map]
end Go.Proofs.YtodcnbejnchmhaaGreatDoor.S7
namespace Go.Proofs.YtodcnbejnchmhaaGreatDoor.S7
open Go.RowKit Go.Mem Go.Lxr

theorem flat_at : ∀ {fs : List FPair} {k : Nat} {x : FPair}, fs[k]? = some x → (fs.flatMap cellsF)[k * 2]? = some (strV x.1) ∧ (fs.flatMap cellsF)[k * 2 + 1]? = some (.int .i64 (x.2 : Int))
  | [], k, x, h => by simp at h
  | y :: fs, 0, x, h => by simp at h; subst h; exact ⟨rfl, rfl⟩
  | y :: fs, k + 1, x, h => by
    have ih := flat_at (fs := fs) (k := k) (x := x) (by simpa using h)
    rw [List.flatMap_cons, show (k + 1) * 2 = k * 2 + 2 by omega]
    exact ih
/-- the slice at A holds these fields -/
def FdAt (w : World) (A : Option Addr) (fs : List FPair) : Prop := Rd w 2 A fs.length (fs.flatMap cellsF)
theorem FdAt.at_ {w : World} {A : Option Addr} {fs : List FPair} (h : FdAt w A fs) {k : Nat} (hk : k < fs.length) : ∃ b off x, A = some ⟨b, off, none⟩ ∧ fs[k]? = some x ∧ w.cell? ⟨b, off + k * 2, none⟩ = some (strV x.1) ∧ w.cell? ⟨b, off + k * 2 + 1, none⟩ = some (.int .i64 (x.2 : Int)) := by
  obtain ⟨b, off, e, hc⟩ := h.2 (by omega)
  have hx := List.getElem?_eq_getElem hk
  obtain ⟨h1, h2⟩ := flat_at hx
  exact ⟨b, off, _, e, hx, hc _ _ h1, hc _ _ h2⟩
theorem FdAt.fr {w w' : World} {A : Option Addr} {fs : List FPair} (h : FdAt w A fs) (hf : Fr w w' (fun _ => False)) : FdAt w' A fs := Rd.fr h hf (fun _ _ _ _ h => h)
theorem Flds.rd {t : TypeId} {w : World} {base : Nat} {v : Value} {fs : List FPair} (h : Flds t w base v fs) : ∃ A c, v = .slice A fs.length c ∧ FdAt w A fs := by
  obtain ⟨A, c, h1, h2, h3, h4, -⟩ := own_rd h
  exact ⟨A, c, h1, h4⟩
end Go.Proofs.YtodcnbejnchmhaaGreatDoor.S7
namespace Go.Proofs.YtodcnbejnchmhaaGreatDoor.S7
open Go.RowKit Go.Mem Go.Lxr

/-- what Fields answers -/
def fieldsO (l : Bs) : List FPair × Int × Int := if 200 < l.length then ([], 0, 17) else match fieldsD 0 l with
  | .error k => ([], (k : Int), 9)
  | .ok fs => (fs, 0, 0)
end Go.Proofs.YtodcnbejnchmhaaGreatDoor.S7
namespace Go.Proofs.YtodcnbejnchmhaaGreatDoor.S6
open Go.RowKit Go.Mem Go.Civil

def lenTab : List Int := [31, 28, 31, 30, 31, 30, 31, 31, 30, 31, 30, 31]
/-- the months' lengths stand where the program's text lays them -/
def LOk (w : World) : Prop := ∀ i, i < 12 → w.cell? ⟨7, i, none⟩ = some (.int .i64 (lenTab.getD i 0))
theorem LOk.fr {w w' : World} (h : LOk w) (f : Fr w w' (fun _ => False)) : LOk w' := by
  intro i hi
  have h0 := h i hi
  have hlt : 7 < w.heap.size := by
    rcases Nat.lt_or_ge 7 w.heap.size with h' | h'
    · exact h'
    · simp [World.cell?, Array.getElem?_eq_none h'] at h0
  rw [← h0]
  unfold World.cell?
  rw [f.block _ hlt (fun h => h)]
theorem lenTab_long {y : Int} {k : Nat} (h : 1 ≤ k ∧ k ≤ 12) : lenTab.getD (k - 1) 0 = longI y k - (if k = 2 then leapI y else 0) := by
  have : k = 1 ∨ k = 2 ∨ k = 3 ∨ k = 4 ∨ k = 5 ∨ k = 6 ∨ k = 7 ∨ k = 8 ∨ k = 9 ∨ k = 10 ∨ k = 11 ∨ k = 12 := by omega
  rcases this with rfl | rfl | rfl | rfl | rfl | rfl | rfl | rfl | rfl | rfl | rfl | rfl <;> simp [lenTab, longI] <;> omega
def inRange (n : Int) : Prop := -9223372036854775808 ≤ n ∧ n ≤ 9223372036854775807
theorem tmod_zero {y c : Int} : y.tmod c = 0 ↔ y % c = 0 := by
  rw [← Int.dvd_iff_tmod_eq_zero, Int.dvd_iff_emod_eq_zero]
theorem tests (y c : Int) : (y.tmod c == 0) = (y % c == 0) := by
  rw [Bool.eq_iff_iff]; simp [tmod_zero]

theorem leap_ret {y : Int} {b : Bool} {w : World} (h : b = leapB y) : Ending.returned (.bool b) = .returned (.bool (leapB y)) ∧ w = w := ⟨by rw [h], rfl⟩
theorem Leap_any (y : Int) (w : World) : Calls Tryz.prog 257 #[.int .i64 y] w fun e w' => e = .returned (.bool (leapB y)) ∧ w = w' := by
  go_enter Tryz.func257, Tryz.ntmps257
  go_wp2_with fail
  all_goals
    go_ret
    refine leap_ret ?_
    simp_all [leapB, tmod_zero, tests]
theorem Long_any (y m : Int) (w : World) (hg : LOk w) : Calls Tryz.prog 240 #[.int .i64 y, .int .i64 m] w fun e w' => e = .returned (.int .i64 (longI y m)) ∧ w = w' := by
  by_cases h : 1 ≤ m ∧ m ≤ 12
  · obtain ⟨k, rfl⟩ : ∃ k : Nat, m = (k : Int) := ⟨m.toNat, by omega⟩
    obtain ⟨j, rfl⟩ : ∃ j : Nat, k = j + 1 := ⟨k - 1, by omega⟩
    have hc := hg j (by omega)
    have ht := lenTab_long (y := y) (k := j + 1) (by omega)
    rw [show j + 1 - 1 = j from rfl] at ht
    rw [ht] at hc
    have hle := longI_le y ((j + 1 : Nat) : Int)
    clear hg ht
    push_cast at *
    obtain ⟨x, hx⟩ : ∃ x, longI y ((j : Int) + 1) = x := ⟨_, rfl⟩
    rw [hx] at hc hle ⊢
    by_cases h2 : j + 1 = 2
    · obtain rfl : j = 1 := by omega
      have HL := Lib.hid (Leap_any y)
      by_cases hl : leapB y = true
      · have e : leapI y = 1 := by unfold leapI; rw [if_pos hl]
        rw [hl] at HL
        rw [if_pos rfl, e] at hc
        clear hx
        go_enter Tryz.func240, Tryz.ntmps240
        go_wp2_with fail
        refine (HL.out _).mono ?_
        rintro e w' ⟨rfl, rfl⟩
        go_wp2_with fail
        go_ret
        exact ⟨by congr <;> omega, rfl⟩
      · simp only [Bool.not_eq_true] at hl
        have e : leapI y = 0 := by unfold leapI; rw [hl]; rfl
        rw [hl] at HL
        rw [if_pos rfl, e] at hc
        clear hx
        go_enter Tryz.func240, Tryz.ntmps240
        go_wp2_with fail
        refine (HL.out _).mono ?_
        rintro e w' ⟨rfl, rfl⟩
        go_wp2_with fail
        go_ret
        exact ⟨by congr <;> omega, rfl⟩
    · rw [if_neg (by omega)] at hc
      have n2 : (((j : Int) + 1) == 2) = false := by simp; omega
      clear hx
      go_enter Tryz.func240, Tryz.ntmps240
      go_wp2_with fail
      go_ret
      exact ⟨by congr <;> omega, rfl⟩
  · have e : longI y m = 0 := by
      unfold longI
      rw [if_neg (by omega), if_neg (by omega), if_neg h]
    rw [e]
    clear hg e
    by_cases h1 : m < 1
    · go_enter Tryz.func240, Tryz.ntmps240
      go_wp2_with fail
      go_ret
      exact ⟨rfl, rfl⟩
    · have h2 : m > 12 := by omega
      clear h
      go_enter Tryz.func240, Tryz.ntmps240
      go_wp2_with fail
      go_ret
      exact ⟨rfl, rfl⟩
end Go.Proofs.YtodcnbejnchmhaaGreatDoor.S6
namespace Go.Proofs.YtodcnbejnchmhaaGreatDoor.S6
open Go.RowKit Go.Mem Go.Civil

theorem ret_bool {a b : Bool} {w : World} (h : a = b) : Ending.returned (.bool a) = .returned (.bool b) ∧ w = w := ⟨by rw [h], rfl⟩
theorem longI_out {y m : Int} (h : ¬ (1 ≤ m ∧ m ≤ 12)) : longI y m = 0 := by
  unfold longI
  rw [if_neg (by omega), if_neg (by omega), if_neg h]
theorem Right_any (y m d : Int) (w : World) (hg : LOk w) : Calls Tryz.prog 238 #[.int .i64 y, .int .i64 m, .int .i64 d] w fun e w' => e = .returned (.bool (rightB y m d)) ∧ w = w' := by
  have HL := Lib.hid (Long_any y m w hg)
  have HB := Lib.hid (rightB_iff (y := y) (m := m) (d := d))
  have HM := Lib.hid (longI_out (y := y) (m := m))
  generalize rightB y m d = b at HB ⊢
  generalize longI y m = L at HB HL HM
  clear hg
  go_enter Tryz.func238, Tryz.ntmps238
  go_wp2_with fail
  all_goals first
    | (refine HL.out.mono ?_
       rintro e w' ⟨rfl, rfl⟩
       go_wp2_with fail
       all_goals
         go_ret
         refine ret_bool ?_
         have hb := HB.out
         have hm := HM.out
         rw [Bool.eq_iff_iff, hb]
         simp
         omega)
    | (go_ret
       refine ret_bool ?_
       have hb := HB.out
       have hm := HM.out
       rw [Bool.eq_iff_iff, hb]
       simp
       try omega)
end Go.Proofs.YtodcnbejnchmhaaGreatDoor.S6
namespace Go.Proofs.YtodcnbejnchmhaaGreatDoor.S6
open Go.RowKit Go.Mem Go.Civil

theorem neg_parts {n c : Int} (h : n < 0) (hc : 0 < c) : (n.tmod c = 0 ∧ n % c = 0 ∧ n.tdiv c = n / c) ∨ (n.tmod c < 0 ∧ n % c = n.tmod c + c ∧ n / c = n.tdiv c - 1) := by
  have e1 : n.tmod c = -((-n) % c) := by
    have := Int.neg_tmod (-n) c
    rw [Int.neg_neg, Int.tmod_eq_emod_of_nonneg (a := -n) (by omega)] at this
    exact this
  have e2 : n.tdiv c = -((-n) / c) := by
    have := Int.neg_tdiv (a := -n) (b := c)
    rw [Int.neg_neg, Int.tdiv_eq_ediv_of_nonneg (a := -n) (by omega)] at this
    exact this
  have a1 := Int.emod_nonneg n (show c ≠ 0 by omega)
  have a2 := Int.emod_lt_of_pos n hc
  have b1 := Int.emod_nonneg (-n) (show c ≠ 0 by omega)
  have b2 := Int.emod_lt_of_pos (-n) hc
  have a3 := Int.mul_ediv_add_emod n c
  have b3 := Int.mul_ediv_add_emod (-n) c
  rw [e1, e2]
  generalize n % c = r at *
  generalize (-n) % c = s at *
  generalize n / c = q at *
  generalize (-n) / c = p at *
  have key : c * (q + p) + (r + s) = 0 := by rw [Int.mul_add]; omega
  have hq : q + p = 0 ∨ q + p = -1 := by
    rcases Int.lt_trichotomy (q + p) (-1) with h1 | h1 | h1
    · have := Int.mul_le_mul_of_nonneg_left (show q + p ≤ -2 by omega) (show 0 ≤ c by omega)
      omega
    · exact Or.inr h1
    · rcases Int.lt_trichotomy (q + p) 0 with h2 | h2 | h2
      · omega
      · exact Or.inl h2
      · have := Int.mul_le_mul_of_nonneg_left (show 1 ≤ q + p by omega) (show 0 ≤ c by omega)
        omega
  rcases hq with hq | hq
  · rw [hq] at key
    left
    omega
  · rw [hq] at key
    right
    omega

theorem neg_half {n c : Int} (h : n < 0) (hn : inRange n) (hc : 2 ≤ c) : -4611686018427387904 ≤ n.tdiv c ∧ n.tdiv c ≤ 0 := by
  have e2 : n.tdiv c = -((-n) / c) := by
    have := Int.neg_tdiv (a := -n) (b := c)
    rw [Int.neg_neg, Int.tdiv_eq_ediv_of_nonneg (a := -n) (by omega)] at this
    exact this
  have b1 := Int.emod_nonneg (-n) (show c ≠ 0 by omega)
  have b3 := Int.mul_ediv_add_emod (-n) c
  have b4 := Int.ediv_nonneg (show 0 ≤ -n by omega) (show 0 ≤ c by omega)
  rw [e2]
  generalize (-n) % c = s at *
  generalize (-n) / c = p at *
  have := Int.mul_le_mul_of_nonneg_right hc b4
  unfold inRange at hn
  omega
theorem ret_two {a b a' b' : Int} {P : World → Prop} {w : World} (h : a = a') (h' : b = b') (hp : P w) : Ending.returned (.tuple #[.int .i64 a, .int .i64 b]) = .returned (.tuple #[.int .i64 a', .int .i64 b']) ∧ P w := ⟨by rw [h, h'], hp⟩

theorem part_any (n c : Int) (w : World) (hc : 2 ≤ c ∧ c ≤ 1000000) (hn : inRange n) : Calls Tryz.prog 241 #[.int .i64 n, .int .i64 c] w fun e w' => e = .returned (.tuple #[.int .i64 (n / c), .int .i64 (n % c)]) ∧ w' = w.drew := by
  by_cases h : n < 0
  · have hp := neg_parts h (show 0 < c by omega)
    have c0 : (c == 0) = false := by simp; omega
    have c1 : (c == -1) = false := by simp; omega
    have a1 := Int.emod_nonneg n (show c ≠ 0 by omega)
    have a2 := Int.emod_lt_of_pos n (show 0 < c by omega)
    have a3 := neg_half h hn hc.1
    unfold inRange at hn
    rcases hp with ⟨h1, h2, h3⟩ | ⟨h1, h2, h3⟩
    · rw [h2]
      go_enter Tryz.func241, Tryz.ntmps241
      go_wp2_with fail
      go_region
      go_wp2_with fail
      go_ret2
      exact ⟨rfl, rfl⟩
    · rw [h3, h2]
      go_enter Tryz.func241, Tryz.ntmps241
      go_wp2_with fail
      go_region
      go_wp2_with fail
      go_ret2
      exact ⟨rfl, rfl⟩
  · have a1 := Int.emod_nonneg n (show c ≠ 0 by omega)
    unfold inRange at hn
    go_enter Tryz.func241, Tryz.ntmps241
    go_wp2_with fail
    go_region
    go_wp2_with fail
    go_ret2
    exact ⟨rfl, rfl⟩

theorem daysTo_any (r : Int) (w : World) (hr : -1000 ≤ r ∧ r ≤ 1000) (h0 : 0 ≤ r) : Calls Tryz.prog 256 #[.int .i64 r] w fun e w' => e = .returned (.int .i64 (toY r)) ∧ w = w' := by
  unfold toY
  have b1 : 0 ≤ (r + 3) / 4 ∧ (r + 3) / 4 ≤ 1000 := by omega
  have b2 : 0 ≤ (r + 99) / 100 ∧ (r + 99) / 100 ≤ 1000 := by omega
  have b3 : 0 ≤ (r + 399) / 400 ∧ (r + 399) / 400 ≤ 1000 := by omega
  go_enter Tryz.func256, Tryz.ntmps256
  go_wp2_with fail
  go_ret
  exact ⟨rfl, rfl⟩
theorem toY_le {r : Int} (h : 0 ≤ r ∧ r ≤ 400) : 0 ≤ toY r ∧ toY r ≤ 146097 := by unfold toY; omega
theorem begin_any (y : Int) (w : World) (hy : -9999 ≤ y ∧ y ≤ 10000) : Calls Tryz.prog 239 #[.int .i64 y] w fun e w' => e = .returned (.int .i64 (begD y)) ∧ w' = w.drew := by
  have HP := Lib.hid (part_any y 400 w (by omega) (by unfold inRange; omega))
  have HD := Lib.hid (daysTo_any (y % 400) w.drew (by omega) (by omega))
  have ht := toY_le (r := y % 400) (by omega)
  have hq : -25 ≤ y / 400 ∧ y / 400 ≤ 25 := by omega
  unfold begD
  generalize toY (y % 400) = T at *
  generalize y / 400 = q at *
  generalize y % 400 = r at *
  go_enter Tryz.func239, Tryz.ntmps239
  go_wp2_with fail
  refine HP.out.mono ?_
  rintro e w' ⟨rfl, rfl⟩
  go_wp2_with fail
  refine HD.out.mono ?_
  rintro e w' ⟨rfl, rfl⟩
  go_wp2_with fail
  go_ret
  exact ⟨rfl, rfl⟩
theorem Week_any (n : Int) (w : World) (hn : inRange n) : Calls Tryz.prog 221 #[.int .i64 n] w fun e w' => e = .returned (.int .i64 ((n + 4) % 7)) ∧ w' = w.drew := by
  have HP := Lib.hid (part_any n 7 w (by omega) hn)
  have hr : 0 ≤ n % 7 ∧ n % 7 < 7 := by omega
  have e : (n + 4) % 7 = (n % 7 + 4) % 7 := by omega
  rw [e]
  clear hn e
  generalize n % 7 = r at *
  generalize n / 7 = q at *
  go_enter Tryz.func221, Tryz.ntmps221
  go_wp2_with fail
  refine HP.out.mono ?_
  rintro e w' ⟨rfl, rfl⟩
  go_wp2_with fail
  go_ret
  exact ⟨rfl, rfl⟩
end Go.Proofs.YtodcnbejnchmhaaGreatDoor.S6
namespace Go.Proofs.YtodcnbejnchmhaaGreatDoor.S6
open Go.RowKit Go.Mem Go.Civil

def daysK (y m d : Int) : Int := if rightB y m d then numD y m d else 0
def daysE (y m d : Int) : Int := if rightB y m d then 0 else 6
theorem sumM_step (y : Int) (k : Nat) : sumM y (k + 1) = sumM y k + longI y ((k : Int) + 1) := rfl
theorem sumM_le (y : Int) (k : Nat) (h : k ≤ 12) : 0 ≤ sumM y k ∧ sumM y k ≤ 366 := by
  have h1 := sumM_pos (y := y) k
  have h2 := sumM_mono (y := y) h
  rw [sumM_all] at h2
  have := leapI_le y
  omega
theorem Days_any (y m d : Int) (w : World) (hg : LOk w) :
    Calls Tryz.prog 218 #[.int .i64 y, .int .i64 m, .int .i64 d] w fun e w' => e = .returned (.tuple #[.int .i64 (daysK y m d), .int .i64 (daysE y m d)]) ∧ Fr w w' (fun _ => False) := by
  have HR := Lib.hid (Right_any y m d w hg)
  unfold daysK daysE
  by_cases h : rightB y m d = true
  · rw [h] at HR
    rw [if_pos h, if_pos h]
    have hb := rightB_iff.1 h
    have hnum : numD y m d = begD y + sumM y (m - 1).toNat + (d - 1) := rfl
    have HB := Lib.hid (begin_any y w (by omega))
    have hbr := begD_range (y := y) (by omega)
    have hle := longI_le y m
    obtain ⟨j, rfl⟩ : ∃ j : Nat, m = (j : Int) + 1 := ⟨(m - 1).toNat, by omega⟩
    rw [show ((j : Int) + 1 - 1).toNat = j by omega] at hnum
    have hb1 : 1 ≤ d ∧ d ≤ 31 ∧ (j : Int) ≤ 11 := by omega
    rw [hnum]
    have HL := Lib.hid (fun i => Long_any y i w.drew (hg.fr (Fr.drew _ _)))
    have HN : Hid (∀ k : Nat, k ≤ 12 → 0 ≤ sumM y k ∧ sumM y k ≤ 366) := Lib.hid (sumM_le y)
    generalize begD y = B at *
    clear h hb hnum hle hg
    go_enter Tryz.func218, Tryz.ntmps218
    go_wp2_with fail
    refine HR.out.mono ?_
    rintro e w' ⟨rfl, rfl⟩
    go_wp2_with fail
    refine HB.out.mono ?_
    rintro e w' ⟨rfl, rfl⟩
    go_wp2_with fail
    go_loop [8, 9] (fun v8 v9 => ∃ k : Nat, k ≤ j ∧ v8 = .int .i64 (B + (d - 1) + sumM y k) ∧ v9 = .int .i64 ((k : Int) + 1)) (fun _ v9 => j + 1 - (intOf v9).toNat)
    case atStart => exact ⟨0, Nat.zero_le _, by simp [sumM], rfl⟩
    case round =>
      obtain ⟨k, hk, rfl, rfl⟩ := hrel
      by_cases hlt : k < j
      · have hs := HN.out k (by omega)
        have hs2 := HN.out (k + 1) (by omega)
        have hst := sumM_step y k
        have HS := Lib.hid hst
        have HC := Lib.hid (HL.out ((k : Int) + 1))
        have h1 : (k : Int) < (j : Int) := by omega
        have h2 : (k : Int) + 1 < (j : Int) + 1 := by omega
        have hle := longI_le y ((k : Int) + 1)
        generalize longI y ((k : Int) + 1) = L at *
        generalize sumM y k = S at *
        clear hst
        go_wp2_with fail
        refine HC.out.mono ?_
        rintro e w' ⟨rfl, rfl⟩
        go_wp2_with fail
        go_round
        case rel => exact ⟨k + 1, by omega, by rw [HS.out]; congr 1; omega, by go_num⟩
        case measure => simp [intOf]; omega
      · obtain rfl : k = j := by omega
        have hs := HN.out k (by omega)
        go_wp2_with fail
        go_ret2
        exact ret_two (P := fun w' => Fr w w' (fun _ => False)) (by omega) rfl (Fr.drew _ _)
  · rw [if_neg h, if_neg h]
    simp only [Bool.not_eq_true] at h
    rw [h] at HR
    clear h hg
    go_enter Tryz.func218, Tryz.ntmps218
    go_wp2_with fail
    refine HR.out.mono ?_
    rintro e w' ⟨rfl, rfl⟩
    go_wp2_with fail
    go_ret2
    exact ⟨rfl, Fr.refl _ _⟩
end Go.Proofs.YtodcnbejnchmhaaGreatDoor.S6
namespace Go.Proofs.YtodcnbejnchmhaaGreatDoor.S6
open Go.RowKit Go.Mem Go.Dfm

abbrev Bs := List UInt8
abbrev strV (l : Bs) : Value := .string ⟨l.toArray⟩
theorem infoB : (Tryz.prog.info? 5).map (fun i => (i.zero, i.size, i.bytes)) = some (some (.int .u8 0), 1, 1) := by kernel_rfl
theorem infoS : (Tryz.prog.info? 9).map (fun i => (i.zero, i.size, i.bytes)) = some (some (.string ⟨#[]⟩), 1, 16) := by kernel_rfl
theorem str_size (l : Bs) : (⟨l.toArray⟩ : ByteArray).size = l.length := by show l.toArray.size = _; simp
theorem bytes_len (s : ByteArray) : s.data.toList.length = s.size := by rw [Array.length_toList]; rfl
theorem strV_of (s : ByteArray) : Value.string s = strV s.data.toList := by
  show Value.string s = .string ⟨s.data.toList.toArray⟩
  congr
theorem run_add_str {P : Program} (w : World) (a b : Bs) (h : a.length + b.length ≤ 1000000) : (Op.stringOp .add ⟨a.toArray⟩ ⟨b.toArray⟩).run P w = .ok (strV (a ++ b)) w := by
  rw [run_string_add_sum w _ _ (by show a.toArray.size + b.toArray.size ≤ _; simp; omega)]
  show Result.ok (Value.string ((⟨a.toArray⟩ : ByteArray) ++ ⟨b.toArray⟩)) w = .ok (.string ⟨(a ++ b).toArray⟩) w
  congr 2
theorem ff {a c d : World} (h : Fr a c (fun _ => False)) (h2 : Fr c d (fun _ => False)) : Fr a d (fun _ => False) := h.trans h2 (fun _ _ h => h) (fun _ _ h => h)
theorem fd {a b : World} (h : Fr a b (fun _ => False)) (n : Nat) : Fr a (b.drewN n) (fun _ => False) := ff h (Fr.drewN _ _ _)
/-- a day -/
abbrev dayV (k d w : Int) : Value := .agg #[.int .i64 k, .int .i64 d, .int .i64 w]
abbrev dayC (k d w : Int) : Obj := .cells #[.int .i64 k, .int .i64 d, .int .i64 w] 61
theorem ret_bf {a b : Bool} {x y : World} (h : a = b) (hf : Fr x y (fun _ => False)) : Ending.returned (.bool a) = .returned (.bool b) ∧ Fr x y (fun _ => False) := ⟨by rw [h], hf⟩
theorem right_any (k d q : Int) (w : World) : Calls Tryz.prog 217 #[dayV k d q] w fun e w' => e = .returned (.bool (rightB k d q)) ∧ Fr w w' (fun _ => False) := by
  obtain ⟨b, hb⟩ : ∃ b, rightB k d q = b := ⟨_, rfl⟩
  have HB := Lib.hid (show b = true ↔ rightP k d q by rw [← hb]; exact rightB_iff)
  rw [hb]
  clear hb
  go_enter Tryz.func217, Tryz.ntmps217
  go_wp2_with fail
  all_goals
    go_ret
    refine ret_bf ?_ (Fr.new _ _ _)
    have hb := HB.out
    rw [Bool.eq_iff_iff, hb]
    simp [rightP]
    try (simp only [beq_iff_eq, beq_eq_false_iff_ne, ne_eq] at *; omega)
end Go.Proofs.YtodcnbejnchmhaaGreatDoor.S6
namespace Go.Proofs.YtodcnbejnchmhaaGreatDoor.S6
open Go.RowKit Go.Mem Go.Dfm Go.Sort

def marksT : List Bs := [[], [108, 97, 115, 116], [62, 61], [60, 61]]
/-- the variables that the code reads hold what the program's text lays -/
structure WOk (w : World) : Prop where
  lok : LOk w
  pow : ∃ B, B ≤ w.heap.size ∧ Lib.TabBelow Tryz.prog B w "internal/strconv.uint64pow10" .u64 Lib.pow10Tab
  max : ∃ m, w.cell? ⟨0, 0, none⟩ = some (.int .i64 m)
  syn : ∃ t p, w.cell? ⟨8, 0, none⟩ = some (.iface t p)
  ran : ∃ t p, w.cell? ⟨9, 0, none⟩ = some (.iface t p)
  marks : ∀ i, i < 4 → w.cell? ⟨5, i, none⟩ = some (strV (marksT.getD i []))
  names : ∀ i, i < 7 → w.cell? ⟨6, i, none⟩ = some (strV (namesT.getD i []))
theorem WOk.fr {w w' : World} (h : WOk w) (f : Fr w w' (fun _ => False)) : WOk w' := by
  refine ⟨h.lok.fr f, ?_, ?_, ?_, ?_, fun i hi => f.cell0 (h.marks i hi), fun i hi => f.cell0 (h.names i hi)⟩
  · obtain ⟨B, hB, ht⟩ := h.pow
    exact ⟨B, Nat.le_trans hB f.size, ht.on (f.below hB (fun _ h => h.elim))⟩
  · obtain ⟨m, hm⟩ := h.max
    exact ⟨m, f.cell0 hm⟩
  · obtain ⟨t, p, hm⟩ := h.syn
    exact ⟨t, p, f.cell0 hm⟩
  · obtain ⟨t, p, hm⟩ := h.ran
    exact ⟨t, p, f.cell0 hm⟩
theorem fr_grow (w : World) (k : Nat) (os : Array Obj) : Fr w (grow (w.drewN k) os) (fun _ => False) :=
  ⟨rfl, rfl, rfl, by simp [grow], fun i hi _ => by
    show (w.heap ++ os)[i]? = _
    rw [Array.getElem?_append_left hi]⟩
theorem fr_below {w w' : World} (h : Below w.heap.size w w') : Fr w w' (fun _ => False) := (Fr.ofBelow h).mono (fun i hi hs => absurd hs (by omega))
theorem Itoa_any (n : Int) (h0 : -9223372036854775808 ≤ n) (h1 : n ≤ 9223372036854775807) (w : World) (hw : WOk w) : Calls Tryz.prog 255 #[.int .i64 n] w fun e w' => e = .returned (strV (Lib.itoa n)) ∧ Fr w w' (fun _ => False) := by
  obtain ⟨B, hB, hg⟩ := hw.pow
  refine (Tryz.strconv_Itoa n h0 h1 w (hg w (Below.refl _ _))).mono ?_
  rintro e w2 ⟨rfl, k, os, rfl⟩
  exact ⟨rfl, fr_grow w k os⟩
theorem Atoi_ok (l : Bs) (v : Int) (h : Lib.atoiAll l = .ok v) (hl : l.length ≤ 1000000) (w : World) : Calls Tryz.prog 254 #[strV l] w fun e w' => e = .returned (.tuple #[.int .i64 v, .nilIface]) ∧ Fr w w' (fun _ => False) := by
  refine (Tryz.strconv_Atoi_ok ⟨l.toArray⟩ (by rw [str_size]; omega) v h w).mono ?_
  rintro e w2 ⟨rfl, hw⟩
  refine ⟨rfl, fr_below ?_⟩
  rcases hw with rfl | ⟨t, rfl⟩
  · exact Below.refl _ _
  · exact Lib.bytesWorld_below _ _ _
theorem Atoi_no (l : Bs) (h : ∀ v, Lib.atoiAll l ≠ .ok v) (hl : l.length ≤ 1000000) (w : World) (hw : WOk w) : Calls Tryz.prog 254 #[strV l] w fun e w' => ∃ x t p, e = .returned (.tuple #[.int .i64 x, .iface t p]) ∧ Fr w w' (fun _ => False) := by
  have hsz : (⟨l.toArray⟩ : ByteArray).size ≤ 281474976710656 := by rw [str_size]; omega
  cases hx : Lib.atoiAll l with
  | ok v => exact absurd hx (h v)
  | range =>
    obtain ⟨t, p, hv⟩ := hw.ran
    refine (Any.strconv_Atoi_range Tryz.laysC172 ⟨l.toArray⟩ hsz hx _ w hv (.inr ⟨t, p, rfl⟩)).mono ?_
    rintro e w2 ⟨N, rfl, h1, h2, h3⟩
    exact ⟨_, _, _, rfl, fr_below h3⟩
  | _ =>
    obtain ⟨t, p, hv⟩ := hw.syn
    refine (Any.strconv_Atoi_syntax Tryz.laysC172 ⟨l.toArray⟩ hsz hx _ w hv (.inr ⟨t, p, rfl⟩)).mono ?_
    rintro e w2 ⟨N, rfl, h1, h2, h3⟩
    exact ⟨_, _, _, rfl, fr_below h3⟩
theorem Cut_any (l p : Bs) (hl : l.length ≤ 1000000) (w : World) (hw : WOk w) : Calls Tryz.prog 228 #[strV l, strV p] w fun e w' => e = .returned (.tuple #[strV (Lib.cut l p).1, strV (Lib.cut l p).2.1, .bool (Lib.cut l p).2.2]) ∧ Fr w w' (fun _ => False) := by
  obtain ⟨m, hm⟩ := hw.max
  refine (Tryz.strings_Cut ⟨l.toArray⟩ ⟨p.toArray⟩ m w (by rw [str_size]; omega) hm).mono ?_
  rintro e w2 ⟨rfl, n, rfl⟩
  exact ⟨rfl, Fr.drewN _ _ _⟩
theorem CutPrefix_any (l p : Bs) (w : World) : Calls Tryz.prog 235 #[strV l, strV p] w fun e w' => e = .returned (.tuple #[strV (Lib.trimPrefix l p), .bool (Lib.hasPrefix l p)]) ∧ w = w' := by
  refine (Tryz.strings_CutPrefix ⟨l.toArray⟩ ⟨p.toArray⟩ w).mono ?_
  rintro e w2 ⟨rfl, rfl⟩
  exact ⟨rfl, rfl⟩
theorem number_any (l : Bs) (hl : l.length ≤ 1000000) (w : World) (hw : WOk w) : Calls Tryz.prog 237 #[strV l] w fun e w' => e = .returned (.int .i64 (numD l)) ∧ Fr w w' (fun _ => False) := by
  by_cases h : ∃ v, Lib.atoiAll l = .ok v
  · obtain ⟨v, hv⟩ := h
    obtain ⟨b0, b1⟩ := Lib.atoiAll_bounds hv
    have HA := Lib.hid (Atoi_ok l v hv hl w)
    have HI := Lib.hid (fun (W : World) (f : Fr w W (fun _ => False)) => Itoa_any v b0 b1 W (hw.fr f))
    obtain ⟨z, hz⟩ : ∃ z, numD l = z := ⟨_, rfl⟩
    have hzz : z = if Lib.itoa v = l then v else 0 := by rw [← hz, numD, hv]
    rw [hz]
    clear hz hw
    generalize Lib.itoa v = t at *
    by_cases ht : t = l
    · rw [if_pos ht] at hzz
      subst hzz ht
      clear hv
      go_enter Tryz.func237, Tryz.ntmps237
      go_wp2_with fail
      refine HA.out.mono ?_
      rintro e w2 ⟨rfl, hf2⟩
      have HF2 := Lib.hid hf2
      have HB2 := Lib.hid (HI.out _ hf2)
      clear hf2
      go_wp2_with fail
      refine HB2.out.mono ?_
      rintro e w3 ⟨rfl, hf3⟩
      have HF3 := Lib.hid hf3
      clear hf3
      go_wp2_with fail
      all_goals
        go_ret
        exact ⟨rfl, ff HF2.out HF3.out⟩
    · rw [if_neg ht] at hzz
      subst hzz
      have hne : (t == l) = false := beq_eq_false_iff_ne.2 ht
      have hne2 : (t != l) = true := by simp [bne, hne]
      clear hv
      go_enter Tryz.func237, Tryz.ntmps237
      go_wp2_with fail
      refine HA.out.mono ?_
      rintro e w2 ⟨rfl, hf2⟩
      have HF2 := Lib.hid hf2
      have HB2 := Lib.hid (HI.out _ hf2)
      clear hf2
      go_wp2_with fail
      refine HB2.out.mono ?_
      rintro e w3 ⟨rfl, hf3⟩
      have HF3 := Lib.hid hf3
      clear hf3
      go_wp2_with fail
      all_goals
        go_ret
        exact ⟨rfl, ff HF2.out HF3.out⟩
  · have HA := Lib.hid (Atoi_no l (fun v hv => h ⟨v, hv⟩) hl w hw)
    obtain ⟨z, hz⟩ : ∃ z, numD l = z := ⟨_, rfl⟩
    have hzz : z = 0 := by
      rw [← hz, numD]
      split
      · rename_i v hv
        exact absurd ⟨v, hv⟩ h
      · rfl
    rw [hz]
    subst hzz
    clear hz hw h
    go_enter Tryz.func237, Tryz.ntmps237
    go_wp2_with fail
    refine HA.out.mono ?_
    rintro e w2 ⟨x, t, p, rfl, hf2⟩
    have HF2 := Lib.hid hf2
    clear hf2
    go_wp2_with fail
    all_goals
      go_ret
      exact ⟨rfl, HF2.out⟩
end Go.Proofs.YtodcnbejnchmhaaGreatDoor.S6
namespace Go.Proofs.YtodcnbejnchmhaaGreatDoor.S6
open Go.RowKit Go.Mem Go.Dfm

theorem names_of {w : World} (hw : WOk w) : w.cell? ⟨6, 0, none⟩ = some (strV [83, 117, 110]) ∧ w.cell? ⟨6, 1, none⟩ = some (strV [77, 111, 110]) ∧ w.cell? ⟨6, 2, none⟩ = some (strV [84, 117, 101]) ∧ w.cell? ⟨6, 3, none⟩ = some (strV [87, 101, 100]) ∧ w.cell? ⟨6, 4, none⟩ = some (strV [84, 104, 117]) ∧ w.cell? ⟨6, 5, none⟩ = some (strV [70, 114, 105]) ∧ w.cell? ⟨6, 6, none⟩ = some (strV [83, 97, 116]) :=
  ⟨hw.names 0 (by decide), hw.names 1 (by decide), hw.names 2 (by decide), hw.names 3 (by decide), hw.names 4 (by decide), hw.names 5 (by decide), hw.names 6 (by decide)⟩
theorem week_none {l : Bs} {z : Int} (h : weekI l = z) (ha : ∀ j, j < 7 → namesT.getD j [] ≠ l) : z = -1 := by
  have h0 : ∀ j, j < 7 → ¬ l = namesT.getD j [] := fun j hj e => ha j hj e.symm
  have a0 : ¬ l = [83, 117, 110] := h0 0 (by decide)
  have a1 : ¬ l = [77, 111, 110] := h0 1 (by decide)
  have a2 : ¬ l = [84, 117, 101] := h0 2 (by decide)
  have a3 : ¬ l = [87, 101, 100] := h0 3 (by decide)
  have a4 : ¬ l = [84, 104, 117] := h0 4 (by decide)
  have a5 : ¬ l = [70, 114, 105] := h0 5 (by decide)
  have a6 : ¬ l = [83, 97, 116] := h0 6 (by decide)
  rw [← h, weekI, if_neg a0, if_neg a1, if_neg a2, if_neg a3, if_neg a4, if_neg a5, if_neg a6]
set_option maxRecDepth 100000 in
theorem week_any (l : Bs) (w : World) (hw : WOk w) : Calls Tryz.prog 236 #[strV l] w fun e w' => e = .returned (.int .i64 (weekI l)) ∧ w = w' := by
  obtain ⟨c0, c1, c2, c3, c4, c5, c6⟩ := names_of hw
  have i0 : ∀ w, (Instr.index 281 (.agg #[strV [83, 117, 110], strV [77, 111, 110], strV [84, 117, 101], strV [87, 101, 100], strV [84, 104, 117], strV [70, 114, 105], strV [83, 97, 116]]) (.int .i64 0)).run Tryz.prog w = .ok (strV [83, 117, 110]) w := fun _ => by kernel_rfl
  have i1 : ∀ w, (Instr.index 281 (.agg #[strV [83, 117, 110], strV [77, 111, 110], strV [84, 117, 101], strV [87, 101, 100], strV [84, 104, 117], strV [70, 114, 105], strV [83, 97, 116]]) (.int .i64 1)).run Tryz.prog w = .ok (strV [77, 111, 110]) w := fun _ => by kernel_rfl
  have i2 : ∀ w, (Instr.index 281 (.agg #[strV [83, 117, 110], strV [77, 111, 110], strV [84, 117, 101], strV [87, 101, 100], strV [84, 104, 117], strV [70, 114, 105], strV [83, 97, 116]]) (.int .i64 2)).run Tryz.prog w = .ok (strV [84, 117, 101]) w := fun _ => by kernel_rfl
  have i3 : ∀ w, (Instr.index 281 (.agg #[strV [83, 117, 110], strV [77, 111, 110], strV [84, 117, 101], strV [87, 101, 100], strV [84, 104, 117], strV [70, 114, 105], strV [83, 97, 116]]) (.int .i64 3)).run Tryz.prog w = .ok (strV [87, 101, 100]) w := fun _ => by kernel_rfl
  have i4 : ∀ w, (Instr.index 281 (.agg #[strV [83, 117, 110], strV [77, 111, 110], strV [84, 117, 101], strV [87, 101, 100], strV [84, 104, 117], strV [70, 114, 105], strV [83, 97, 116]]) (.int .i64 4)).run Tryz.prog w = .ok (strV [84, 104, 117]) w := fun _ => by kernel_rfl
  have i5 : ∀ w, (Instr.index 281 (.agg #[strV [83, 117, 110], strV [77, 111, 110], strV [84, 117, 101], strV [87, 101, 100], strV [84, 104, 117], strV [70, 114, 105], strV [83, 97, 116]]) (.int .i64 5)).run Tryz.prog w = .ok (strV [70, 114, 105]) w := fun _ => by kernel_rfl
  have i6 : ∀ w, (Instr.index 281 (.agg #[strV [83, 117, 110], strV [77, 111, 110], strV [84, 117, 101], strV [87, 101, 100], strV [84, 104, 117], strV [70, 114, 105], strV [83, 97, 116]]) (.int .i64 6)).run Tryz.prog w = .ok (strV [83, 97, 116]) w := fun _ => by kernel_rfl
  obtain ⟨z, hz⟩ : ∃ z, weekI l = z := ⟨_, rfl⟩
  have HZ := Lib.hid hz
  rw [hz]
  clear hz hw
  go_enter Tryz.func236, Tryz.ntmps236
  go_wp2_with fail
  go_loop [6] (fun v6 => ∃ k : Int, 0 ≤ k ∧ k ≤ 7 ∧ v6 = .int .i64 k ∧ ∀ j : Nat, (j : Int) < k → namesT.getD j [] ≠ l) (fun v6 => 7 - (intOf v6).toNat)
  case atStart => exact ⟨0, by omega, by omega, rfl, fun j h => absurd h (by omega)⟩
  case round =>
    obtain ⟨k, hk0, hk, rfl, hall⟩ := hrel
    have HA := Lib.hid hall
    clear hall
    have hk7 : k = 0 ∨ k = 1 ∨ k = 2 ∨ k = 3 ∨ k = 4 ∨ k = 5 ∨ k = 6 ∨ k = 7 := by omega
    clear hk hk0
    rcases hk7 with rfl | rfl | rfl | rfl | rfl | rfl | rfl | rfl
    · by_cases h : [83, 117, 110] = l
      · have hz : z = 0 := by rw [← HZ.out, ← h]; rfl
        subst hz h
        go_wp2_with fail
        go_ret
        exact ⟨rfl, rfl⟩
      · have h1 : (([83, 117, 110] : Bs) == l) = false := beq_eq_false_iff_ne.2 h
        have HN := Lib.hid h
        clear h
        go_wp2_with fail
        go_round
        case rel => exact ⟨1, by omega, by omega, by rfl, fun j hj => by
          by_cases e : j = 0
          · subst e; exact HN.out
          · exact HA.out j (by omega)⟩
        case measure => simp [intOf]
    · by_cases h : [77, 111, 110] = l
      · have hz : z = 1 := by rw [← HZ.out, ← h]; rfl
        subst hz h
        go_wp2_with fail
        go_ret
        exact ⟨rfl, rfl⟩
      · have h1 : (([77, 111, 110] : Bs) == l) = false := beq_eq_false_iff_ne.2 h
        have HN := Lib.hid h
        clear h
        go_wp2_with fail
        go_round
        case rel => exact ⟨2, by omega, by omega, by rfl, fun j hj => by
          by_cases e : j = 1
          · subst e; exact HN.out
          · exact HA.out j (by omega)⟩
        case measure => simp [intOf]
    · by_cases h : [84, 117, 101] = l
      · have hz : z = 2 := by rw [← HZ.out, ← h]; rfl
        subst hz h
        go_wp2_with fail
        go_ret
        exact ⟨rfl, rfl⟩
      · have h1 : (([84, 117, 101] : Bs) == l) = false := beq_eq_false_iff_ne.2 h
        have HN := Lib.hid h
        clear h
        go_wp2_with fail
        go_round
        case rel => exact ⟨3, by omega, by omega, by rfl, fun j hj => by
          by_cases e : j = 2
          · subst e; exact HN.out
          · exact HA.out j (by omega)⟩
        case measure => simp [intOf]
    · by_cases h : [87, 101, 100] = l
      · have hz : z = 3 := by rw [← HZ.out, ← h]; rfl
        subst hz h
        go_wp2_with fail
        go_ret
        exact ⟨rfl, rfl⟩
      · have h1 : (([87, 101, 100] : Bs) == l) = false := beq_eq_false_iff_ne.2 h
        have HN := Lib.hid h
        clear h
        go_wp2_with fail
        go_round
        case rel => exact ⟨4, by omega, by omega, by rfl, fun j hj => by
          by_cases e : j = 3
          · subst e; exact HN.out
          · exact HA.out j (by omega)⟩
        case measure => simp [intOf]
    · by_cases h : [84, 104, 117] = l
      · have hz : z = 4 := by rw [← HZ.out, ← h]; rfl
        subst hz h
        go_wp2_with fail
        go_ret
        exact ⟨rfl, rfl⟩
      · have h1 : (([84, 104, 117] : Bs) == l) = false := beq_eq_false_iff_ne.2 h
        have HN := Lib.hid h
        clear h
        go_wp2_with fail
        go_round
        case rel => exact ⟨5, by omega, by omega, by rfl, fun j hj => by
          by_cases e : j = 4
          · subst e; exact HN.out
          · exact HA.out j (by omega)⟩
        case measure => simp [intOf]
    · by_cases h : [70, 114, 105] = l
      · have hz : z = 5 := by rw [← HZ.out, ← h]; rfl
        subst hz h
        go_wp2_with fail
        go_ret
        exact ⟨rfl, rfl⟩
      · have h1 : (([70, 114, 105] : Bs) == l) = false := beq_eq_false_iff_ne.2 h
        have HN := Lib.hid h
        clear h
        go_wp2_with fail
        go_round
        case rel => exact ⟨6, by omega, by omega, by rfl, fun j hj => by
          by_cases e : j = 5
          · subst e; exact HN.out
          · exact HA.out j (by omega)⟩
        case measure => simp [intOf]
    · by_cases h : [83, 97, 116] = l
      · have hz : z = 6 := by rw [← HZ.out, ← h]; rfl
        subst hz h
        go_wp2_with fail
        go_ret
        exact ⟨rfl, rfl⟩
      · have h1 : (([83, 97, 116] : Bs) == l) = false := beq_eq_false_iff_ne.2 h
        have HN := Lib.hid h
        clear h
        go_wp2_with fail
        go_round
        case rel => exact ⟨7, by omega, by omega, by rfl, fun j hj => by
          by_cases e : j = 6
          · subst e; exact HN.out
          · exact HA.out j (by omega)⟩
        case measure => simp [intOf]
    · have hz : z = -1 := week_none HZ.out (fun j hj => HA.out j (by omega))
      subst hz
      go_wp2_with fail
      go_ret
      exact ⟨rfl, rfl⟩
end Go.Proofs.YtodcnbejnchmhaaGreatDoor.S6
