import Derived.Test.YtghcfmoagkimaaaGreatDoorYa25
import Derived.Test.YtghcfmoagkimaaaGreatDoorYa24
namespace Go.Proofs.YtghcfmoagkimaaaGreatDoor
open Go.RowKit Go.Mem Go.Lin Go.Xpd Go.Den

/-- a year behind which nothing that counts fires -/
def FarR (l : List RuleL) (off t : Int) (w : World) (e : Ending) (w' : World) : Prop := ∃ y : Int, e = .returned (intV y) ∧ Fr w w' (fun _ => False) ∧ -10000 ≤ y ∧ y ≤ 9999 ∧ ∀ x, y < x → lastIn l off t (fromD l x x) = none
theorem far_year {l : List RuleL} (h : OkS l) {off t y m d k : Int} (ho : -100000 ≤ off ∧ off ≤ 100000) (_ht : -400000000000 ≤ t) (hD : S6.DateR (farD l off t) y m d k) :
    (k = 0 → -10000 ≤ y ∧ y ≤ 9999 ∧ ∀ x, y < x → lastIn l off t (fromD l x x) = none) ∧ ∀ x, 9999 < x → lastIn l off t (fromD l x x) = none := by
  refine ⟨fun hk => ?_, fun x hx => high_out hx⟩
  rcases hD with ⟨h1, h2, h3, h4, -⟩ | ⟨-, -, -, -, h5⟩
  · have hn := Go.Civil.numD_in h3
    rw [h4] at hn
    have := Go.Civil.rightB_iff.1 h3
    exact ⟨by omega, by omega, far_fires h ho hn.2.1⟩
  · omega
set_option maxHeartbeats 3200000 in
set_option maxRecDepth 100000 in
theorem lastF_any (l : List RuleL) (A : Option Addr) (cap : Nat) (off t : Int) (w : World) (hw : S6.WOk w) (hl : RusAt w A l) (hn : l.length ≤ 8) (hr : ∀ r ∈ l, OkF r) (ho : -100000 ≤ off ∧ off ≤ 100000) (ht : -400000000000 ≤ t ∧ t ≤ 400000000000) :
    Calls Tryz.prog 89 #[.slice A l.length cap, intV off, intV t] w (FarR l off t w) := by
  have HW := Lib.hid hw
  have HL := Lib.hid hl
  have HRr := Lib.hid hr
  have hok : OkS l := ⟨fun r h => ⟨(hr r h).1, (hr r h).2.1⟩, fun r h => ⟨(hr r h).2.2.1, (hr r h).2.2.2.1⟩⟩
  have HOk := Lib.hid hok
  clear hl hr hw hok
  go_enter Tryz.func89, Tryz.ntmps89
  go_wp2_with fail
  go_loopg [7, 8, 10, 19] l.length (fun g v7 v8 _ v19 wr => ∃ i : Nat, i + g = l.length ∧ v19 = intV i ∧ v7 = intV (mostN (·.at_.s) l i) ∧ v8 = intV (mostN (·.save) l i) ∧ Fr w wr (fun _ => False))
  case atStart => exact ⟨0, by simp, rfl, rfl, rfl, Fr.refl _ _⟩
  case round =>
    obtain ⟨i, hi, rfl, rfl, rfl, hf⟩ := hrel
    have HF := Lib.hid hf
    clear hf
    by_cases hlt : i < l.length
    · obtain ⟨r, hri⟩ : ∃ r, l[i]? = some r := ⟨l[i], List.getElem?_eq_getElem hlt⟩
      obtain ⟨b5, off5, hA, hc⟩ := (HL.out.kept HF.out).at_ hri
      subst hA
      have hok := HRr.out r (List.mem_of_getElem? hri)
      have HCx := Lib.hid hc
      have i0 : (i : Int) < (l.length : Int) := by omega
      have n2 := Fr.new wr (.cells #[.string ⟨#[]⟩, .int .i64 0, .int .i64 0, .int .i64 0, .int .i64 0, .int .i64 0, .int .i64 0, .int .i64 0, .int .i64 0, .int .i64 0, .string ⟨#[]⟩] 72) (fun _ => False)
      have HF2 := Lib.hid n2
      have HB2 := Lib.hid (show Blk _ wr.heap.size 72 (ruleC ruleZ) from Blk.made wr 72 (ruleC ruleZ))
      obtain ⟨a, ha⟩ : ∃ a, mostN (·.at_.s) l i = a := ⟨_, rfl⟩
      obtain ⟨b, hb⟩ : ∃ b, mostN (·.save) l i = b := ⟨_, rfl⟩
      have HSa := Lib.hid (show mostN (·.at_.s) l (i + 1) = max a (sizeD r.at_.s) by rw [most_some hri, ha])
      have HSb := Lib.hid (show mostN (·.save) l (i + 1) = max b (sizeD r.save) by rw [most_some hri, hb])
      have HZa := Lib.hid (fun w => size_any r.at_.s w (by unfold S6.inRange; have := hok.1; have := hok.2.1; omega))
      have HZb := Lib.hid (fun w => size_any r.save w (by unfold S6.inRange; have := hok.2.2.1; have := hok.2.2.2.1; omega))
      rw [ha, hb]
      clear hc hri hok n2 ha hb
      generalize sizeD r.at_.s = x1 at *
      generalize sizeD r.save = x2 at *
      go_wp2_with (first
        | ((with_reducible refine at_load4 72 ?_); refine wpList_load_at 72 _ b5 (off5 + i * 11) (ruleC r) _ (by rfl) rfl rfl HCx.out Tryz.underlying72 rfl (infoR _) ?_)
        | ((with_reducible refine at_store4 72 ?_); refine wpList_store_blk 72 _ _ wr.heap.size 0 72 (ruleC ruleZ) (ruleC r) (ruleC r) (by rfl) rfl rfl rfl rfl HB2.out (infoR _) (ruleC_one _) (show 0 + 11 ≤ 11 by decide) (put_ra _ _) ?_
           intro W3 hf3 hb3
           have HF3 := Lib.hid (HF2.out.fresh hf3 (fun i e => by have e : i = wr.heap.size := e; omega))
           have c1 : W3.cell? ⟨wr.heap.size, 7, none⟩ = some (.int .i64 r.at_.s) := blkc hb3 7 _ rfl
           have c2 : W3.cell? ⟨wr.heap.size, 9, none⟩ = some (.int .i64 r.save) := blkc hb3 9 _ rfl
           clear hf3 hb3 HF2 HB2))
      refine (HZa.out _).mono ?_
      rintro e w4 ⟨rfl, rfl⟩
      go_wp2_with fail
      refine (HZb.out _).mono ?_
      rintro e w5 ⟨rfl, rfl⟩
      go_wp2_with fail
      go_roundg (l.length - (i + 1))
      case measure => omega
      case rel => exact ⟨i + 1, by omega, by go_num, by rw [HSa.out], by rw [HSb.out], ff4 HF.out HF3.out⟩
    · obtain rfl : i = l.length := by omega
      obtain ⟨y, m, d, k, hD⟩ := S6.date_of (farD l off t)
      obtain ⟨q0, q1⟩ := far_year HOk.out ho ht.1 hD
      have m1 := most_in (·.at_.s) l l.length
      have m2 := most_in (·.save) l l.length
      have m3 := size_in off
      have hfd : farD l off t = (t + mostN (·.at_.s) l l.length + mostN (·.save) l l.length + sizeD off) / 86400 + 6 := rfl
      rw [hfd] at hD
      clear hfd
      have HZ := Lib.hid (fun w => size_any off w (by unfold S6.inRange; omega))
      generalize mostN (·.at_.s) l l.length = x1 at *
      generalize mostN (·.save) l l.length = x2 at *
      generalize sizeD off = x3 at *
      have hs1 : IntKind.i64.wrap (t + x1) = t + x1 := by rw [IntKind.wrap_i64]; omega
      have hs2 : IntKind.i64.wrap (t + x1 + x2) = t + x1 + x2 := by rw [IntKind.wrap_i64]; omega
      have hs3 : IntKind.i64.wrap (t + x1 + x2 + x3) = t + x1 + x2 + x3 := by rw [IntKind.wrap_i64]; omega
      have HC := Lib.hid (S6.Clock_any (t + x1 + x2 + x3) wr (by unfold S6.inRange; omega))
      obtain ⟨n, hnn⟩ : ∃ n, (t + x1 + x2 + x3) / 86400 = n := ⟨_, rfl⟩
      have hnb : -10000000000000 ≤ n ∧ n ≤ 10000000000000 := by omega
      rw [hnn] at hD HC
      clear hnn
      have hs4 : IntKind.i64.wrap (n + 6) = n + 6 := by rw [IntKind.wrap_i64]; omega
      have HD := Lib.hid (S6.Date_any (n + 6) y m d k wr.drew (by unfold S6.inRange; omega) (HW.out.fr (ff4 HF.out (Fr.drew _ _))).lok hD)
      clear hD
      by_cases hk : k = 0
      · have q0 := q0 hk
        have HQ := Lib.hid q0
        subst hk
        clear q0 q1
        go_wp2_with fail
        refine (HZ.out _).mono ?_
        rintro e w4 ⟨rfl, rfl⟩
        go_wp2_with fail
        refine HC.out.mono ?_
        rintro e w2 ⟨rfl, rfl⟩
        go_wp2_with fail
        refine HD.out.mono ?_
        rintro e w3 ⟨rfl, hf3⟩
        go_wp2_with fail
        go_ret
        exact ⟨y, rfl, ff4 HF.out (ff4 (Fr.drew _ _) hf3), HQ.out⟩
      · have HQ := Lib.hid q1
        have k1 : (k == 0) = false := by rw [beq_eq_false_iff_ne]; exact hk
        clear q0 q1 hk
        go_wp2_with fail
        refine (HZ.out _).mono ?_
        rintro e w4 ⟨rfl, rfl⟩
        go_wp2_with fail
        refine HC.out.mono ?_
        rintro e w2 ⟨rfl, rfl⟩
        go_wp2_with fail
        refine HD.out.mono ?_
        rintro e w3 ⟨rfl, hf3⟩
        go_wp2_with fail
        go_ret
        exact ⟨9999, rfl, ff4 HF.out (ff4 (Fr.drew _ _) hf3), by omega, by omega, HQ.out⟩
end Go.Proofs.YtghcfmoagkimaaaGreatDoor
namespace Go.Proofs.YtghcfmoagkimaaaGreatDoor
open Go.RowKit Go.Mem Go.Lin Go.Xpd

theorem xYear_any (l : List RuleL) (A : Option Addr) (cap : Nat) (y : Int) (w : World) (hw : S6.WOk w) (hl : RusAt w A l) (hn : l.length ≤ 8) (hr : ∀ r ∈ l, OkF r ∧ RuR r) (hy : -20000 ≤ y ∧ y ≤ 20000) :
    Calls Tryz.prog 117 #[.slice A l.length cap, intV y] w fun e w' => ∃ v, e = .returned v ∧ XFires w' w.heap.size v (fromD l y y) ∧ Fr w w' (fun _ => False) := by
  have HQ := Lib.hid (xFrom_any l A cap y y w hw hl hn hr (by omega) hy (by omega))
  clear hw hl hr
  go_enter Tryz.func117, Tryz.ntmps117
  go_wp2_with fail
  refine HQ.out.mono ?_
  rintro e w2 ⟨v, rfl, ho, hf⟩
  obtain ⟨A2, c2, rfl⟩ := ho.slice
  have HO := Lib.hid ho
  have HF := Lib.hid hf
  clear ho hf
  go_wp2_with fail
  go_ret
  exact ⟨_, rfl, HO.out, HF.out⟩
set_option maxHeartbeats 1600000 in
theorem xInst_any (l : List RuleL) (A : Option Addr) (cap : Nat) (f : FireL) (off : Int) (w : World) (hl : RusAt w A l) (_hn : l.length ≤ 8) (hf : -1000000000000000 ≤ f.at_ ∧ f.at_ ≤ 1000000000000000) (ho : -100000 ≤ off ∧ off ≤ 100000) (hb : -100000 ≤ f.bef ∧ f.bef ≤ 100000) :
    Calls Tryz.prog 118 #[.slice A l.length cap, fireV f, intV off] w fun e w' => e = .returned (intV (instD l f off)) ∧ Fr w w' (fun _ => False) := by
  obtain ⟨i, y, a, b⟩ := f
  obtain ⟨f1, f2⟩ : -1000000000000000 ≤ a ∧ a ≤ 1000000000000000 := hf
  obtain ⟨b1, b2⟩ : -100000 ≤ b ∧ b ≤ 100000 := hb
  have HF := Lib.hid (Fr.new w (.cells #[intV i, intV y, intV a, intV b] 166) (fun _ => False))
  have HL := Lib.hid (hl.kept HF.out)
  unfold fireV fireC
  dsimp only
  clear hl
  by_cases hi : i < 0
  · have HE := Lib.hid (show instD l ⟨i, y, a, b⟩ off = 0 from if_neg (by show ¬ (0 ≤ i); omega))
    go_enter Tryz.func118, Tryz.ntmps118
    go_wp2_with fail
    go_ret
    exact ⟨by rw [HE.out]; rfl, HF.out⟩
  · by_cases hg : (l.length : Int) ≤ i
    · have HE := Lib.hid (show instD l ⟨i, y, a, b⟩ off = 0 by
        unfold instD
        rw [if_pos (by show 0 ≤ i; omega)]
        show (match l[i.toNat]? with | none => _ | some r => _) = _
        rw [List.getElem?_eq_none (by omega)])
      go_enter Tryz.func118, Tryz.ntmps118
      go_wp2_with fail
      go_ret
      exact ⟨by rw [HE.out]; rfl, HF.out⟩
    · obtain ⟨k, rfl⟩ : ∃ k : Nat, i = k := ⟨i.toNat, by omega⟩
      have hk : k < l.length := by omega
      obtain ⟨r, hri⟩ : ∃ r, l[k]? = some r := ⟨l[k], List.getElem?_eq_getElem hk⟩
      obtain ⟨bk, o, hA, hc⟩ := HL.out.at_ hri
      subst hA
      have k0 : (k : Int) < (l.length : Int) := by omega
      have HE := Lib.hid (show instD l ⟨k, y, a, b⟩ off = if r.at_.k = 0 then a - off - b else if r.at_.k = 1 then a - off else a by
        unfold instD
        rw [if_pos (by show (0 : Int) ≤ (k : Int); omega)]
        show (match l[(k : Int).toNat]? with | none => _ | some r => _) = _
        rw [Int.toNat_natCast, hri])
      have c8 : (w.alloc (.cells #[intV k, intV y, intV a, intV b] 166)).cell? ⟨bk, o + k * 11 + 8, none⟩ = some (.int .i64 r.at_.k) := hc 8 (show 8 < 11 by decide)
      have hbk : bk < w.heap.size + 1 := by
        have := World.block_lt_of_cell? _ _ c8
        simpa using this
      clear hc hri hi hg
      by_cases h0 : r.at_.k = 0
      · rw [if_pos h0] at HE
        rw [h0] at c8
        go_enter Tryz.func118, Tryz.ntmps118
        go_wp2_with fail
        go_ret
        exact ⟨by rw [HE.out]; rfl, HF.out⟩
      · rw [if_neg h0] at HE
        by_cases h1 : r.at_.k = 1
        · rw [if_pos h1] at HE
          rw [h1] at c8
          go_enter Tryz.func118, Tryz.ntmps118
          go_wp2_with fail
          go_ret
          exact ⟨by rw [HE.out]; rfl, HF.out⟩
        · rw [if_neg h1] at HE
          have h0 : (r.at_.k == 0) = false := beq_eq_false_iff_ne.2 h0
          have h1 : (r.at_.k == 1) = false := beq_eq_false_iff_ne.2 h1
          go_enter Tryz.func118, Tryz.ntmps118
          go_wp2_with fail
          go_ret
          exact ⟨by rw [HE.out]; rfl, HF.out⟩
end Go.Proofs.YtghcfmoagkimaaaGreatDoor
namespace Go.Proofs.YtghcfmoagkimaaaGreatDoor
open Go.RowKit Go.Mem Go.Lin Go.Xpd Go.Den Go.Shelf
attribute [local go_sem] Oper.semAt_some

/-- what fired answers -/
def firedV (l : List RuleL) : Option FireL → Value
  | some f => .tuple #[ruleV (l.getD f.i.toNat ruleZ), .bool true]
  | none => .tuple #[ruleV ruleZ, .bool false]
theorem FiresIn.below {n₀ : Nat} {W W' : World} {A : Option Addr} {F : List FireL} (h : FiresIn n₀ W A F) (hb : Below n₀ W W') : FiresIn n₀ W' A F :=
  ⟨Rd.fr h.r (Fr.ofBelow hb) (fun b off e _ hn => by have := h.low b off e; omega), h.low⟩
set_option maxHeartbeats 1000000 in
theorem back_in (K : Fence) (n : Nat) (h5 : K.fn 116) (hro : K.round = none) (A : Option Addr) (m c : Nat) (w : World) :
    CallsIn K n Tryz.prog 116 #[.slice A m c] w fun e w' => e = .returned (.func (.func 133) #[] #[.pointer (some ⟨w.heap.size, 0, none⟩)]) ∧ w' = w.alloc (.cells #[.slice A m c] 165) := by
  refine callsIn_of_wp Tryz.func116 rfl h5 ?_ hro
  simp only [Tryz.ntmps116, List.size_toArray, List.length_cons, List.length_nil, Nat.reduceAdd, Nat.reduceSub, Array.replicate_succ, Array.replicate_zero, List.push_toArray, List.append_toArray, List.nil_append, List.cons_append]
  gi_wp2
  go_ret
  exact ⟨rfl, rfl⟩
theorem back_stops {α : Type} (p : α → FireL × Nat) (Z : List α) (K : Fence) (n : Nat) (h7 : K.fn 133) (hro : K.round = none) (hn : 1 ≤ n) (Bs : Nat) (A : Option Addr) (cap : Nat) (F : List FireL) (hZ : Z.map p = F.zipIdx) (w : World)
    (hBs : w.cell? ⟨Bs, 0, none⟩ = some (.slice A F.length cap)) (hBl : Bs < w.heap.size) (hF : FiresIn w.heap.size w A F) (hlen : F.length ≤ 100000) :
    SeqStopsK K n Tryz.prog 133 #[.pointer (some ⟨Bs, 0, none⟩)] (fun x : α => #[intV ((p x).2 : Nat), fireV (p x).1]) (Below w.heap.size) (fun ys => ys = revZ Z 0) (fun pre => ∃ m, m < F.length ∧ pre = revZ Z m) F.length w := fun l J Jx W hW _ _ hY h0 =>
  back1_in p Z K n h7 hro hn l Bs w.heap.size A cap F hZ J Jx hY W ((hW.cell (p := ⟨Bs, 0, none⟩) hBl).trans hBs) hBl (hF.below hW) hlen h0
theorem lastIn_cut {l : List RuleL} {off t : Int} {f : FireL} : ∀ {a b : List FireL}, (∀ g ∈ b, t < instD l g off) → instD l f off ≤ t → lastIn l off t (a ++ f :: b) = some f
  | [], b, hb, hf => by
    show (match lastIn l off t b with | some g => some g | none => if instD l f off ≤ t then some f else none) = _
    rw [lastIn_none.2 hb]
    exact if_pos hf
  | x :: a, b, hb, hf => by
    show (match lastIn l off t (a ++ f :: b) with | some g => some g | none => if instD l x off ≤ t then some x else none) = _
    rw [lastIn_cut hb hf]
theorem revZ_last {l : List RuleL} {off t : Int} {F : List FireL} {m : Nat} {ini : List (FireL × Nat)} {x : FireL × Nat} (hm : m < F.length) (h : revZ F.zipIdx m = ini ++ [x]) (hi : ∀ y ∈ ini, t < instD l y.1 off) (hx : instD l x.1 off ≤ t) : lastIn l off t F = some x.1 := by
  obtain ⟨f, hf⟩ : ∃ f, F[m]? = some f := ⟨F[m], List.getElem?_eq_getElem hm⟩
  have hz : F.zipIdx[m]? = some (f, m) := by rw [List.getElem?_zipIdx, hf]; simp
  rw [revZ_step hz] at h
  obtain ⟨rfl, e⟩ := List.append_inj' h rfl
  obtain rfl : (f, m) = x := by simpa using e
  have e : F = F.take m ++ f :: F.drop (m + 1) := by
    rw [← (List.getElem?_eq_some_iff.1 hf).2, ← List.drop_eq_getElem_cons hm, List.take_append_drop]
  rw [e]
  refine lastIn_cut (fun g hg => ?_) hx
  obtain ⟨j, hj⟩ := List.mem_iff_getElem?.1 hg
  rw [List.getElem?_drop] at hj
  refine hi (g, m + 1 + j) ?_
  unfold revZ
  rw [List.mem_reverse, List.mem_iff_getElem?]
  exact ⟨j, by rw [List.getElem?_drop, List.getElem?_zipIdx, hj]; simp⟩
theorem revZ_none {l : List RuleL} {off t : Int} {F : List FireL} (h : ∀ y ∈ revZ F.zipIdx 0, t < instD l y.1 off) : lastIn l off t F = none := by
  rw [lastIn_none]
  intro f hf
  obtain ⟨j, hj⟩ := List.mem_iff_getElem?.1 hf
  refine h (f, j) ?_
  unfold revZ
  rw [List.mem_reverse, List.drop_zero, List.mem_iff_getElem?]
  exact ⟨j, by rw [List.getElem?_zipIdx, hj]; simp⟩
theorem fires_in {w W : World} {B : Nat} {A : Option Addr} {c : Nat} {F : List FireL} (h : XFires w B (.slice A F.length c) F) (hf : Fr w W (fun _ => False)) : FiresIn W.heap.size W A F := by
  obtain ⟨A', c', e, -, -, hr⟩ := h.rd
  obtain ⟨rfl, rfl⟩ : A = A' ∧ c = c' := by simpa using e
  refine ⟨Rd.fr hr hf (fun _ _ _ _ h => h), fun b off e => ?_⟩
  subst e
  have h1 := (own_block h (g := b) rfl).2.1
  have := hf.size
  omega
theorem from_len (l : List RuleL) (y : Int) : (fromD l y y).length ≤ l.length := by
  by_cases hy : 1 ≤ y ∧ y ≤ 9999
  · rw [from_year hy, markF_len]
    exact yearN_len l y _
  · rw [from_out hy]
    exact Nat.zero_le _
theorem blk_put {W : World} {D g : Nat} {o : Obj} {t : TypeId} {cs : Array Value} (h : Blk W g t cs) (hg : g ≠ D) : Blk (W.putObj D o) g t cs := ((grownBy_putObj' W D o).block g h.lt (fun e => hg (Option.some.inj e))).trans h
theorem results_fired (tmps : Array Value) (w : World) (q : Nat) (r : RuleL) (b : Bool) (h8 : tmps.getD 8 undef = .pointer (some ⟨q, 0, none⟩)) (h9 : tmps.getD 9 undef = .pointer (some ⟨q + 1, 0, none⟩))
    (hb : Blk w q 72 (ruleC r)) (hb2 : Blk w (q + 1) 4 #[.bool b]) : (results Tryz.f90 tmps).run Tryz.prog w = .ok (.tuple #[ruleV r, .bool b]) w := by
  have h8' : tmps[8]?.getD undef = .pointer (some ⟨q, 0, none⟩) := by simpa using h8
  have h9' : tmps[9]?.getD undef = .pointer (some ⟨q + 1, 0, none⟩) := by simpa using h9
  have hL := run_loadVar_blk (P := Tryz.prog) w q 0 72 72 (ruleC r) (ruleC r) _ hb Tryz.underlying72 rfl (infoR _) (zero_part _)
  have c1 : w.cell? ⟨q + 1, 0, none⟩ = some (.bool b) := blkc hb2 0 _ rfl
  have hL2 : (loadVar 4 ⟨q + 1, 0, none⟩).run Tryz.prog w = .ok (.bool b) w := by simp [go_sem, c1]
  simp [results, Tryz.results90, h8', h9', asAddr, hL, hL2]
theorem fireC_one' (f : FireL) : (fireC f).all (·.oneCell') = true := by simp [fireC, Value.oneCell']
/-- a fire and its place in a list -/
abbrev InZ (F : List FireL) : Type := { x : FireL × Nat // x ∈ F.zipIdx }
theorem InZ.mem {F : List FireL} (x : InZ F) : x.1.1 ∈ F := by
  obtain ⟨⟨f, i⟩, h⟩ := x
  exact List.fst_mem_of_mem_zipIdx h
set_option maxHeartbeats 8000000 in
set_option maxRecDepth 100000 in
theorem fired_any (l : List RuleL) (A : Option Addr) (cap : Nat) (y off t : Int) (w : World) (hw : S6.WOk w) (hl : RusAt w A l) (hn : l.length ≤ 8) (hr : ∀ r ∈ l, OkF r ∧ RuR r) (hy : -20000 ≤ y ∧ y ≤ 20000) (ho : -100000 ≤ off ∧ off ≤ 100000) :
    Calls Tryz.prog 90 #[.slice A l.length cap, intV y, intV off, intV t] w fun e w' => e = .returned (firedV l (lastIn l off t (fromD l y y))) ∧ Fr w w' (fun _ => False) := by
  obtain ⟨F, hF⟩ : ∃ F, fromD l y y = F := ⟨_, rfl⟩
  have hfo : ∀ f ∈ F, (-1000000000000000 ≤ f.at_ ∧ f.at_ ≤ 1000000000000000) ∧ (-100000 ≤ f.bef ∧ f.bef ≤ 100000) ∧ ∃ (k : Nat) (r : RuleL), l[k]? = some r ∧ f.i = k := by
    intro f hf
    rw [← hF] at hf
    obtain ⟨-, -, -, ⟨k, r, g1, g2, g3⟩, g4⟩ := Go.Den.fire_of (l := l) ⟨fun r h => ⟨(hr r h).1.1, (hr r h).1.2.1⟩, fun r h => ⟨(hr r h).1.2.2.1, (hr r h).1.2.2.2.1⟩⟩ hf
    have := at_range g3 ⟨(hr r (List.mem_of_getElem? g1)).1.1, (hr r (List.mem_of_getElem? g1)).1.2.1⟩
    exact ⟨by omega, g4, k, r, g1, g2⟩
  obtain ⟨w1, hw1⟩ : ∃ w1, w.alloc (.cells #[.slice A l.length cap] 51) = w1 := ⟨_, rfl⟩
  obtain ⟨w2, hw2⟩ : ∃ w2, w1.alloc (.cells #[intV off] 3) = w2 := ⟨_, rfl⟩
  obtain ⟨w3, hw3⟩ : ∃ w3, w2.alloc (.cells #[intV t] 2) = w3 := ⟨_, rfl⟩
  obtain ⟨w4, hw4⟩ : ∃ w4, w3.alloc (.cells (ruleC ruleZ) 72) = w4 := ⟨_, rfl⟩
  obtain ⟨w5, hw5⟩ : ∃ w5, w4.alloc (.cells #[.bool false] 4) = w5 := ⟨_, rfl⟩
  have z1 : w1.heap.size = w.heap.size + 1 := by rw [← hw1]; simp
  have z2 : w2.heap.size = w.heap.size + 2 := by rw [← hw2]; simp [z1]
  have z3 : w3.heap.size = w.heap.size + 3 := by rw [← hw3]; simp [z2]
  have z4 : w4.heap.size = w.heap.size + 4 := by rw [← hw4]; simp [z3]
  have z5 : w5.heap.size = w.heap.size + 5 := by rw [← hw5]; simp [z4]
  have f5 : Fr w4 w5 (fun _ => False) := by rw [← hw5]; exact Fr.new _ _ _
  have f4 : Fr w3 w5 (fun _ => False) := ff4 (by rw [← hw4]; exact Fr.new _ _ _) f5
  have f3 : Fr w2 w5 (fun _ => False) := ff4 (by rw [← hw3]; exact Fr.new _ _ _) f4
  have f2 : Fr w1 w5 (fun _ => False) := ff4 (by rw [← hw2]; exact Fr.new _ _ _) f3
  have f1 : Fr w w5 (fun _ => False) := ff4 (by rw [← hw1]; exact Fr.new _ _ _) f2
  have b0 : Blk w5 w.heap.size 51 #[.slice A l.length cap] := f2.blk (by rw [← hw1]; exact Blk.made w _ _) (fun h => h)
  have b1 : Blk w5 (w.heap.size + 1) 3 #[intV off] := f3.blk (by rw [← hw2, ← z1]; exact Blk.made w1 _ _) (fun h => h)
  have b2 : Blk w5 (w.heap.size + 1 + 1) 2 #[intV t] := f4.blk (by rw [← hw3, ← z2]; exact Blk.made w2 _ _) (fun h => h)
  have b3 : Blk w5 (w.heap.size + 1 + 1 + 1) 72 (ruleC ruleZ) := f5.blk (by rw [← hw4, ← z3]; exact Blk.made w3 _ _) (fun h => h)
  have b4 : Blk w5 (w.heap.size + 1 + 1 + 1 + 1) 4 #[.bool false] := by rw [← hw5, ← z4]; exact Blk.made w4 _ _
  have e5 : ((((w.alloc (.cells #[.slice A l.length cap] 51)).alloc (.cells #[intV off] 3)).alloc (.cells #[intV t] 2)).alloc (.cells #[.string ⟨#[]⟩, .int .i64 0, .int .i64 0, .int .i64 0, .int .i64 0, .int .i64 0, .int .i64 0, .int .i64 0, .int .i64 0, .int .i64 0, .string ⟨#[]⟩] 72)).alloc (.cells #[.bool false] 4) = w5 := by
    rw [hw1, hw2, hw3, ← hw5, ← hw4]; rfl
  have c0 : w5.cell? ⟨w.heap.size, 0, none⟩ = some (.slice A l.length cap) := blkc b0 0 _ rfl
  have HY := Lib.hid (xYear_any l A cap y w5 (hw.fr f1) (hl.kept f1) hn hr hy)
  rw [hF] at HY
  have HLn := Lib.hid (show F.length ≤ 8 by rw [← hF]; exact Nat.le_trans (from_len l y) hn)
  have HB0 := Lib.hid b0
  have HB1 := Lib.hid b1
  have HB2 := Lib.hid b2
  have HB3 := Lib.hid b3
  have HB4 := Lib.hid b4
  have HF1 := Lib.hid f1
  have HFo := Lib.hid hfo
  have HLl := Lib.hid hl
  have HZ5 := Lib.hid z5
  rw [hF]
  clear hw1 hw2 hw3 hw4 hw5 z1 z2 z3 z4 z5 f1 f2 f3 f4 f5 b0 b1 b2 b3 b4 hfo hl hF hw hr
  refine (callsIn_wide (n := 6)).1 ?_
  refine callsIn_of_wp_marks Tryz.func90 rfl trivial ?_ rfl
  simp only [Tryz.ntmps90, List.size_toArray, List.length_cons, List.length_nil, Nat.reduceAdd, Nat.reduceSub, Array.replicate_succ, Array.replicate_zero, List.push_toArray, List.append_toArray, List.nil_append, List.cons_append]
  gi_wp2_with fail
  refine ⟨trivial, ?_⟩
  refine (callsIn_wide.2 HY.out).mono ?_
  rintro e w6 ⟨v6, rfl, ho6, hf6⟩
  obtain ⟨A6, c6, rfl⟩ := ho6.slice
  gi_wp2_with fail
  refine ⟨trivial, ?_⟩
  refine (back_in Fence.wide 5 trivial rfl A6 F.length c6 w6).mono ?_
  rintro e w7 ⟨rfl, rfl⟩
  gi_wp2_with fail
  have hlenF := HLn.out
  have hf0 : Fr w5 (w6.alloc (.cells #[.slice A6 F.length c6] 165)) (fun _ => False) := ff4 hf6 (Fr.new _ _ _)
  have hbx : Blk (w6.alloc (.cells #[.slice A6 F.length c6] 165)) w6.heap.size 165 #[.slice A6 F.length c6] := Blk.made _ _ _
  have hFi : FiresIn (w6.alloc (.cells #[.slice A6 F.length c6] 165)).heap.size (w6.alloc (.cells #[.slice A6 F.length c6] 165)) A6 F := fires_in ho6 (Fr.new _ _ _)
  have hs7 : (w6.alloc (.cells #[.slice A6 F.length c6] 165)).heap.size = w6.heap.size + 1 := by simp
  have HZ6 := Lib.hid (show w.heap.size + 5 ≤ w6.heap.size by have := hf6.size; have := HZ5.out; omega)
  obtain ⟨W0, hW0⟩ : ∃ W0, w6.alloc (.cells #[.slice A6 F.length c6] 165) = W0 := ⟨_, rfl⟩
  rw [hW0] at hf0 hbx hFi hs7 ⊢
  clear hW0 ho6 hf6
  have HFi := Lib.hid hFi
  have HF0 := Lib.hid hf0
  have HS7 := Lib.hid hs7
  have HBx := Lib.hid hbx
  clear hFi hf0 hs7 hbx
  refine wpIn_rangeFunc_ownH rfl (show 1 ≤ 6 by omega) (gf := 133) (lb := #[.pointer (some ⟨w6.heap.size, 0, none⟩)]) rfl trivial (enters_of Tryz.func133 (by kernel_rfl) rfl)
    (back_stops (fun x : InZ F => x.1) F.zipIdx.attach Fence.wide 5 trivial rfl (by omega) w6.heap.size A6 c6 F (List.attach_map_subtype_val F.zipIdx) W0 (blkc HBx.out 0 _ rfl) (by have := HS7.out; omega) HFi.out (by omega)) belowK_t (belowK_b (Nat.le_refl _)) (Below.refl _ _) (fun _ => rfl)
    (fun (pre : List (InZ F)) W => (∀ y ∈ pre, t < instD l y.1.1 off) ∧ Below W0.heap.size W0 W)
    (fun c (pre : List (InZ F)) W => ∃ (ini : List (InZ F)) (last : InZ F), (c = .ret ∧ pre = ini ++ [last] ∧ (∀ y ∈ ini, t < instD l y.1.1 off) ∧ instD l last.1.1 off ≤ t) ∧ Blk W (w.heap.size + 1 + 1 + 1) 72 (ruleC (l.getD last.1.1.i.toNat ruleZ)) ∧ Blk W (w.heap.size + 1 + 1 + 1 + 1) 4 #[.bool true] ∧ Below w.heap.size w W)
    (fun s A B row hs hg hr => ⟨hs.1, ownFrom_below (β := Unit) (Nat.le_refl _) (Nat.le_refl _) () A B row hs.2 hg hr⟩)
    (fun c s A B row hs hg hr => by
      obtain ⟨ini, last, h1, h2, h3, h4⟩ := hs
      exact ⟨ini, last, h1, ownFrom_blk (β := Unit) W0.heap.size _ _ (fun _ => _) () A B row h2 hg hr, ownFrom_blk (β := Unit) W0.heap.size _ _ (fun _ => _) () A B row h3 hg hr, ownFrom_below (β := Unit) (B := W0.heap.size) (Nat.le_refl _) (by have := HZ6.out; have := HS7.out; omega) () A B row h4 hg hr⟩)
    ⟨by simp, Below.refl _ _⟩
    (fun (x : InZ F) a' W => ∃ Bx, W0.heap.size ≤ Bx ∧ Blk W Bx 166 (fireC x.1.1) ∧ a' = { tmps := #[.slice A l.length cap, intV y, intV off, intV t, .pointer (some ⟨w.heap.size, 0, none⟩), undef, .pointer (some ⟨w.heap.size + 1, 0, none⟩), .pointer (some ⟨w.heap.size + 1 + 1, 0, none⟩), .pointer (some ⟨w.heap.size + 1 + 1 + 1, 0, none⟩), .pointer (some ⟨w.heap.size + 1 + 1 + 1 + 1, 0, none⟩), undef, .pointer (some ⟨Bx, 0, none⟩), .slice A l.length cap, intV y, .slice A6 F.length c6, .func (.func 133) #[] #[.pointer (some ⟨w6.heap.size, 0, none⟩)], intV (x.1.2 : Nat), fireV x.1.1, undef, undef, undef, undef, undef, undef, undef, undef, undef, undef, undef, undef], defers := [] })
    (fun x a' _ X Y row hs hg hr => by
      obtain ⟨Bx, h1, h2, h3⟩ := hs
      exact ⟨Bx, h1, ownFrom_blk (β := Unit) W0.heap.size _ _ (fun _ => _) () X Y row h2 hg hr, h3⟩)
    ?assign ?body ?done ?stop
  case assign =>
    rintro l5 pre x W K ⟨hp, hB⟩ hK
    have HBn := Lib.hid (show Blk _ W.heap.size 166 (fireC f0) from Blk.made W 166 (fireC f0))
    have HFn := Lib.hid (Fr.new W (.cells (fireC f0) 166) (fun _ => False))
    have HBe := Lib.hid hB
    clear hB
    gi_wp2_with ((with_reducible refine gi_store4 166 ?_); refine wpListIn_store_blk 166 _ _ W.heap.size 0 166 (fireC f0) (fireC x.1.1) (fireC x.1.1) rfl rfl rfl rfl rfl HBn.out (infoFi _) (fireC_one' _) (show 0 + 4 ≤ 4 by decide) (put_fi _ _) ?_
                 intro W3 hf3 hb3
                 have HF3 := Lib.hid (HFn.out.fresh hf3 (fun i e => by have e : i = W.heap.size := e; omega))
                 have HB3 := Lib.hid hb3
                 clear hf3 hb3 HFn HBn)
    exact hK _ _ (fr_keeps HF3.out _) (fr_low HF3.out HBe.out.size) ⟨hp, HBe.out.trans (fr_low HF3.out HBe.out.size)⟩ ⟨W.heap.size, HBe.out.size, HB3.out, rfl⟩
  case body =>
    rintro l5 pre x a' W hl5 ⟨r5, hr5⟩ ⟨hp, hB⟩ ⟨Bx, hBx, hbx, rfl⟩ hlen
    have hfW : Fr w5 W (fun _ => False) := ff4 HF0.out (S6.fr_below hB)
    have HP := Lib.hid hp
    have HBe := Lib.hid hB
    have HFw := Lib.hid (ff4 HF1.out hfW)
    have HL := Lib.hid (HLl.out.kept (ff4 HF1.out hfW))
    obtain ⟨g1, g2, k, r, hk, hki⟩ := HFo.out _ x.mem
    have HK := Lib.hid hk
    have HKi := Lib.hid hki
    have HI := Lib.hid (fun W' (hf : Fr W W' (fun _ => False)) => xInst_any l A cap x.1.1 off W' (HL.out.kept hf) hn g1 ho g2)
    have q0 := hfW.blk HB0.out (fun h => h)
    have q1 := hfW.blk HB1.out (fun h => h)
    have q2 := hfW.blk HB2.out (fun h => h)
    have HQ2 := Lib.hid q2
    have HQ3 := Lib.hid (hfW.blk HB3.out (fun h => h))
    have HQ4 := Lib.hid (hfW.blk HB4.out (fun h => h))
    have HX := Lib.hid hbx
    have c0 : W.cell? ⟨w.heap.size, 0, none⟩ = some (.slice A l.length cap) := blkc q0 0 _ rfl
    have c1 : W.cell? ⟨w.heap.size + 1, 0, none⟩ = some (.int .i64 off) := blkc q1 0 _ rfl
    have c2 : W.cell? ⟨w.heap.size + 1 + 1, 0, none⟩ = some (.int .i64 t) := blkc q2 0 _ rfl
    have d0 : W.cell? ⟨Bx, 0, none⟩ = some (.int .i64 x.1.1.i) := blkc hbx 0 _ rfl
    have d1 : W.cell? ⟨Bx, 1, none⟩ = some (.int .i64 x.1.1.y) := blkc hbx 1 _ rfl
    have d2 : W.cell? ⟨Bx, 2, none⟩ = some (.int .i64 x.1.1.at_) := blkc hbx 2 _ rfl
    have d3 : W.cell? ⟨Bx, 3, none⟩ = some (.int .i64 x.1.1.bef) := blkc hbx 3 _ rfl
    have h1' : 1 ≤ 6 - 1 - 1 := by omega
    have hmx : Tryz.prog.follows .mixedOrders = true := by kernel_rfl
    obtain ⟨v, hv⟩ : ∃ v, instD l x.1.1 off = v := ⟨_, rfl⟩
    have HV := Lib.hid hv
    rw [hv] at HI
    clear hfW hp hB g1 g2 hk hki q0 q1 q2 hbx hv
    by_cases hle : v ≤ t
    · have HR := Lib.hid (show l.getD x.1.1.i.toNat ruleZ = r by rw [HKi.out, Int.toNat_natCast, List.getD_eq_getElem?_getD, HK.out]; rfl)
      obtain ⟨bk, o, hA, hc⟩ := HL.out.at_ HK.out
      have hbk : bk < W.heap.size := by
        have c8 : W.cell? ⟨bk, o + k * 11 + 8, none⟩ = some (.int .i64 r.at_.k) := hc 8 (show 8 < 11 by decide)
        exact World.block_lt_of_cell? _ _ c8
      subst hA
      have k0 : (0 : Int) ≤ (k : Int) := by omega
      have k1 : (k : Int) < (l.length : Int) := by have := (List.getElem?_eq_some_iff.1 HK.out).1; omega
      have HCx := Lib.hid hc
      clear hc
      gi_wp2
      gi_region_with_o (refine ⟨trivial, ?_⟩
                        gi_at_call 118
                        refine (CallsIn.inRound l5 (callsIn_wide.2 (HI.out _ (Fr.drew _ _)))).mono ?_
                        rintro e w8 ⟨rfl, hf8⟩
                        have HF8 := Lib.hid (ff4 (Fr.drew W (fun _ => False)) hf8)
                        have c2' : w8.cell? ⟨w.heap.size + 1 + 1, 0, none⟩ = some (.int .i64 t) := cell_far HF8.out c2 (fun h => h)
                        have c0' : w8.cell? ⟨w.heap.size, 0, none⟩ = some (.slice (some ⟨bk, o, none⟩) l.length cap) := cell_far HF8.out c0 (fun h => h)
                        have d0' : w8.cell? ⟨Bx, 0, none⟩ = some (.int .i64 (k : Int)) := (cell_far HF8.out d0 (fun h => h)).trans (by rw [HKi.out])
                        have HC8 := Lib.hid (fun j (hj : j < (ruleC r).size) => (World.cell?_of_block (w := W) (HF8.out.block bk hbk (fun h => h)) (a := ⟨bk, o + k * 11 + j, none⟩)).trans (HCx.out j hj))
                        have HQ8 := Lib.hid (HF8.out.blk HQ3.out (fun h => h))
                        have HQ8' := Lib.hid (HF8.out.blk HQ4.out (fun h => h))
                        clear hf8)
      all_goals gi_wp2_with (first
        | ((with_reducible refine gi_load4 72 ?_); refine wpListIn_load_at 72 _ bk (o + k * 11) (ruleC r) _ rfl rfl rfl HC8.out Tryz.underlying72 rfl (infoR _) ?_)
        | ((with_reducible refine gi_store4 72 ?_); refine wpListIn_store_blk 72 _ _ (w.heap.size + 1 + 1 + 1) 0 72 (ruleC ruleZ) (ruleC r) (ruleC r) rfl rfl rfl rfl rfl HQ8.out (infoR _) (ruleC_one _) (show 0 + 11 ≤ 11 by decide) (put_ra _ _) ?_
           intro W9 hf9 hb9
           have HF9 := Lib.hid hf9
           have HB9 := Lib.hid hb9
           have HT9 := Lib.hid (hf9.blk HQ8'.out (fun e => by omega))
           have c4 : W9.cell? ⟨w.heap.size + 1 + 1 + 1 + 1, 0, none⟩ = some (.bool false) := cell_at HT9.out 0
           have f4 : W9.frozen? ⟨w.heap.size + 1 + 1 + 1 + 1, 0, none⟩ = false := free_at HT9.out 0
           clear hf9 hb9))
      all_goals exact ⟨((fr_keeps HF8.out _).trans (keeps_cells HF9.out HQ8.out _)).trans ((KeepsOthers.setCell _ _ _).from _), pre, x, ⟨rfl, rfl, HP.out, by rw [HV.out]; exact hle⟩,
        by rw [HR.out]; exact (Fr.set (S := fun i => i = w.heap.size + 1 + 1 + 1 + 1) rfl).blk HB9.out (fun e => by omega), HT9.out.put' 0 _ rfl,
        ((fr_low HFw.out (Nat.le_refl _)).trans ((fr_low HF8.out HFw.out.size).trans (HF9.out.below (Nat.le_trans HFw.out.size HF8.out.size) (fun k e => by omega)))).setCell (by show w.heap.size ≤ w.heap.size + 1 + 1 + 1 + 1; omega) _⟩
    · have hle : t < v := by omega
      gi_wp2
      gi_region_with_o (refine ⟨trivial, ?_⟩
                        gi_at_call 118
                        refine (CallsIn.inRound l5 (callsIn_wide.2 (HI.out _ (Fr.drew _ _)))).mono ?_
                        rintro e w8 ⟨rfl, hf8⟩
                        have HF8 := Lib.hid (ff4 (Fr.drew W (fun _ => False)) hf8)
                        have c2' : w8.cell? ⟨w.heap.size + 1 + 1, 0, none⟩ = some (.int .i64 t) := cell_far HF8.out c2 (fun h => h)
                        clear hf8)
      all_goals gi_wp2
      all_goals exact ⟨fr_keeps HF8.out _, fr_low HF8.out HBe.out.size, fun y hy => by
        rcases List.mem_append.1 hy with hy | hy
        · exact HP.out y hy
        · rw [List.mem_singleton.1 hy, HV.out]; exact hle, HBe.out.trans (fr_low HF8.out HBe.out.size)⟩
  case done =>
    rintro D ys W hD rfl ⟨hp, hB⟩ hK
    have hfW : Fr w5 W (fun _ => False) := ff4 HF0.out (S6.fr_below hB)
    have HFw := Lib.hid (ff4 HF1.out hfW)
    have HQ3w := Lib.hid (hfW.blk HB3.out (fun h => h))
    have HQ4w := Lib.hid (hfW.blk HB4.out (fun h => h))
    have hD2 : w.heap.size + 5 ≤ D := by have := HZ6.out; have := HS7.out; omega
    have HK := Lib.hid hK
    have HNo := Lib.hid (show lastIn l off t F = none from revZ_none fun z hz => by
      rw [← List.attach_map_subtype_val F.zipIdx, ← revZ_map] at hz
      obtain ⟨q, hq, rfl⟩ := List.mem_map.1 hz
      exact hp q hq)
    clear hfW hp hB hK
    gi_wp2_with ((with_reducible refine gi_store4 72 ?_); refine wpListIn_store_blk 72 _ _ (w.heap.size + 1 + 1 + 1) 0 72 (ruleC ruleZ) (ruleC ruleZ) (ruleC ruleZ) rfl rfl rfl rfl rfl HQ3w.out (infoR _) (ruleC_one _) (show 0 + 11 ≤ 11 by decide) (put_ra _ _) ?_
                 intro W9 hf9 hb9
                 have HF9 := Lib.hid hf9
                 have HB9 := Lib.hid hb9
                 have HT9 := Lib.hid (hf9.blk HQ4w.out (fun e => by omega))
                 have c4 : W9.cell? ⟨w.heap.size + 1 + 1 + 1 + 1, 0, none⟩ = some (.bool false) := cell_at HT9.out 0
                 have f4 : W9.frozen? ⟨w.heap.size + 1 + 1 + 1 + 1, 0, none⟩ = false := free_at HT9.out 0
                 clear hf9 hb9)
    have hK9 : W9.heap[D]? = some (.deferred (some [])) := (HF9.out.block D (Array.getElem?_eq_some_iff.1 HK.out).1 (fun e => by omega)).trans HK.out
    have hK' := (KeepsOthers.setCell W9 ⟨w.heap.size + 1 + 1 + 1 + 1, 0, none⟩ (.bool false)).same D _ hK9 rfl
    have hb3 : Blk (W9.setCell ⟨w.heap.size + 1 + 1 + 1 + 1, 0, none⟩ (.bool false)) (w.heap.size + 1 + 1 + 1) 72 (ruleC ruleZ) := (Fr.set (S := fun i => i = w.heap.size + 1 + 1 + 1 + 1) rfl).blk HB9.out (fun e => by omega)
    have hb4 : Blk (W9.setCell ⟨w.heap.size + 1 + 1 + 1 + 1, 0, none⟩ (.bool false)) (w.heap.size + 1 + 1 + 1 + 1) 4 #[.bool false] := HT9.out.put' 0 _ rfl
    have hfin : Below w.heap.size w (W9.setCell ⟨w.heap.size + 1 + 1 + 1 + 1, 0, none⟩ (.bool false)) := ((fr_low HFw.out (Nat.le_refl _)).trans (HF9.out.below HFw.out.size (fun k e => by omega))).setCell (by show w.heap.size ≤ w.heap.size + 1 + 1 + 1 + 1; omega) _
    refine ⟨by simp, .inl ⟨_, _, rfl, run_takeDeferred hK', ?_⟩⟩
    exact ⟨_, results_fired _ _ _ ruleZ false rfl rfl (blk_put hb3 (by omega)) (blk_put hb4 (by omega)), by rw [HNo.out]; rfl, S6.fr_below (hfin.trans (belowK_b (w := w) (Nat.le_refl _) _ D _ _ (by omega) hK' rfl rfl))⟩
  case stop =>
    rintro D c pre W hD ⟨m, hm, rfl⟩ ⟨ini, last, ⟨rfl, e1, e2, e3⟩, h2, h3, h4⟩ hK
    have hD2 : w.heap.size + 5 ≤ D := by have := HZ6.out; have := HS7.out; omega
    have HSo := Lib.hid (show lastIn l off t F = some last.1.1 by
      have h := congrArg (List.map (fun x : InZ F => x.1)) e1
      rw [revZ_map, List.attach_map_subtype_val, List.map_append] at h
      refine revZ_last hm h (fun z hz => ?_) e3
      obtain ⟨q, hq, rfl⟩ := List.mem_map.1 hz
      exact e2 q hq)
    gi_wp2
    refine ⟨by simp, .inl ⟨_, _, rfl, run_takeDeferred hK, ?_⟩⟩
    exact ⟨_, results_fired _ _ _ (l.getD last.1.1.i.toNat ruleZ) true rfl rfl (blk_put h2 (by omega)) (blk_put h3 (by omega)), by rw [HSo.out]; rfl, S6.fr_below (h4.trans (belowK_b (w := w) (Nat.le_refl _) W D _ _ (by omega) hK rfl rfl))⟩
end Go.Proofs.YtghcfmoagkimaaaGreatDoor
namespace Go.Proofs.YtghcfmoagkimaaaGreatDoor
open Go.RowKit Go.Mem Go.Lin Go.Xpd

theorem results_min (tmps : Array Value) (w : World) (q : Nat) (f : FireL) (hp : tmps.getD 4 undef = .pointer (some ⟨q, 0, none⟩)) (hb : Blk w q 166 (fireC f)) : (results Tryz.f122 tmps).run Tryz.prog w = .ok (fireV f) w :=
  results_cell_row (P := Tryz.prog) (fn := Tryz.f122) (p := 4) (ty := 166) rfl tmps _ q 166 (fireC f) (0, 0) _ hp hb Tryz.underlying166 rfl (infoXF f)
theorem min_step {F : List FireL} {i : Nat} {m x : FireL} (hx : F[i]? = some x) (hm : m ∈ F.take i) (ha : ∀ g ∈ F.take i, ¬ ltF g m) :
    (ltF x m → x ∈ F.take (i + 1) ∧ ∀ g ∈ F.take (i + 1), ¬ ltF g x) ∧ (¬ ltF x m → m ∈ F.take (i + 1) ∧ ∀ g ∈ F.take (i + 1), ¬ ltF g m) := by
  have e : F.take (i + 1) = F.take i ++ [x] := by rw [List.take_add_one, hx]; rfl
  rw [e]
  constructor
  · intro h
    refine ⟨by simp, fun g hg => ?_⟩
    rcases List.mem_append.1 hg with hg | hg
    · exact fun h2 => ha g hg (ltF_trans h2 h)
    · rw [show g = x by simpa using hg]; exact ltF_irr x
  · intro h
    refine ⟨by simp [hm], fun g hg => ?_⟩
    rcases List.mem_append.1 hg with hg | hg
    · exact ha g hg
    · rw [show g = x by simpa using hg]; exact h
def MnR (F : List FireL) (w : World) (g : Nat) (v6 : Value) (wr : World) : Prop := ∃ (i : Nat) (m : FireL), v6 = intV i ∧ i + g = F.length ∧ m ∈ F.take i ∧ (∀ g ∈ F.take i, ¬ ltF g m) ∧ Blk wr w.heap.size 166 (fireC f0) ∧ Blk wr (w.heap.size + 1) 166 (fireC m) ∧ Fr w wr (fun _ => False)
set_option maxHeartbeats 3200000 in
set_option maxRecDepth 100000 in
theorem min_any (F : List FireL) (A : Option Addr) (cap : Nat) (w : World) (hF : Rd w 4 A F.length (F.flatMap fireL)) (h0 : 0 < F.length) (hl : F.length ≤ 1000000) :
    Calls Tryz.prog 122 #[.slice A F.length cap, .func (.func 123) #[] #[]] w fun e w' => ∃ m, e = .returned (fireV m) ∧ m ∈ F ∧ (∀ g ∈ F, ¬ ltF g m) ∧ Fr w w' (fun _ => False) := by
  have HR := Lib.hid hF
  obtain ⟨x0, hx0⟩ : ∃ x, F[0]? = some x := ⟨F[0], List.getElem?_eq_getElem h0⟩
  obtain ⟨b, off, hA, hc⟩ := FiresAt.at_ hF hx0
  subst hA
  rw [Nat.zero_mul, Nat.add_zero] at hc
  have hT := Lib.hid (show x0 ∈ F.take 1 ∧ ∀ g ∈ F.take 1, ¬ ltF g x0 by
    have e : F.take 1 = [x0] := by rw [List.take_add_one, hx0]; rfl
    rw [e]
    exact ⟨by simp, fun g hg => by rw [show g = x0 by simpa using hg]; exact ltF_irr _⟩)
  have hl1 : ¬ (F.length : Int) < 1 := by omega
  have hl0 : (0 : Int) < (F.length : Int) := by omega
  have s1 : (w.alloc (.cells (fireC f0) 166)).heap.size = w.heap.size + 1 := by simp
  have n1 := Fr.new w (.cells (fireC f0) 166) (fun _ => False)
  have n2 := Fr.new (w.alloc (.cells (fireC f0) 166)) (.cells (fireC f0) 166) (fun _ => False)
  have b2 := Blk.made (w.alloc (.cells (fireC f0) 166)) 166 (fireC f0)
  rw [s1] at b2
  have HB1 := Lib.hid (n2.blk (Blk.made w 166 (fireC f0)) (fun h => h))
  have HB2 := Lib.hid b2
  have HF2 := Lib.hid (ff4 n1 n2)
  have HC1 := Lib.hid (cells_far n1 hc (Nat.le_refl _) (fun h => h))
  clear s1 n1 n2 b2 hF hx0 hc
  go_enter Tryz.func122, Tryz.ntmps122
  go_wp2_with (first
    | ((with_reducible refine at_load4 166 ?_); refine wpList_load_at 166 _ b off (fireC x0) _ (by rfl) rfl rfl HC1.out Tryz.underlying166 rfl (infoXF _) ?_)
    | ((with_reducible refine at_store4 166 ?_); refine wpList_store_blk 166 _ _ (w.heap.size + 1) 0 166 (fireC f0) (fireC x0) (fireC x0) (by rfl) rfl rfl rfl rfl HB2.out (infoXF _) (fireC_one _) (show 0 + 4 ≤ 4 by decide) (put_fi _ _) ?_
       intro W hf hb
       have HF3 := Lib.hid (HF2.out.fresh hf (fun i e => by have e : i = w.heap.size + 1 := e; omega))
       have HB3 := Lib.hid (hf.blk HB1.out (fun e => by have e : w.heap.size = w.heap.size + 1 := e; omega))
       have HB4 := Lib.hid hb
       clear hf hb HB1 HB2 HF2 HC1))
  go_loopg [6] (F.length - 1) (fun g v6 wr => MnR F w g v6 wr)
  case atStart => exact ⟨1, x0, rfl, by omega, hT.out.1, hT.out.2, HB3.out, HB4.out, HF3.out⟩
  case round =>
    obtain ⟨i, m, rfl, hi, hm, ha, hb0, hb1, hf⟩ := hrel
    have HF := Lib.hid hf
    have HX0 := Lib.hid hb0
    have HX1 := Lib.hid hb1
    by_cases hlt : i < F.length
    · obtain ⟨x, hx⟩ : ∃ x, F[i]? = some x := ⟨F[i], List.getElem?_eq_getElem hlt⟩
      obtain ⟨b', off', hA, hc⟩ := FiresAt.at_ (Rd.fr HR.out hf (fun _ _ _ _ h => h)) hx
      cases hA
      have i1 : (i : Int) < (F.length : Int) := by omega
      have HCx := Lib.hid hc
      obtain ⟨S1, S2⟩ := min_step hx hm ha
      have HS1 := Lib.hid S1
      have HS2 := Lib.hid S2
      have HGt := Lib.hid (cfF_lt (a := x) (b := m))
      obtain ⟨c, hcv⟩ : ∃ c, cfF x m = c := ⟨_, rfl⟩
      have HO := Lib.hid (fun W => xord_any x m W)
      rw [hcv] at HO HGt
      clear hcv S1 S2 hc hx hm ha hb0 hb1 hf
      by_cases hgt : c < 0
      · have HM := Lib.hid (HS1.out (HGt.out.1 hgt))
        have hgt := hgt
        go_wp2_with fail
        refine wp_region_held_drew (S := fun w' => Fr wr w' (fun _ => False)) (by kernel_rfl) (Fr.drew _ _) (fun hHeld => ?_)
        refine wpAnyH_take (i := 0) (v := ?_) rfl (by kernel_rfl) (by kernel_rfl) (by kernel_rfl) (fun _ _ _ h => h) (Or.inl ⟨by rfl, ?_⟩) (by assumption) ?_
        rotate_left
        · intro w' hSw
          go_simp
          try with_reducible rfl
        try simp only [Act.put, List.setIfInBounds_toArray, List.set_cons_zero, List.set_cons_succ, List.getElem_toArray, List.getElem_cons_zero]
        refine wpAnyH_take (i := 1) (v := ?_) rfl (by kernel_rfl) (by kernel_rfl) (by kernel_rfl) (fun _ _ _ h => h) (Or.inl ⟨by rfl, ?_⟩) (by assumption) ?_
        rotate_left
        · intro w' hSw
          go_simp
          try with_reducible rfl
        try simp only [Act.put, List.setIfInBounds_toArray, List.set_cons_zero, List.set_cons_succ, List.getElem_toArray, List.getElem_cons_succ, List.getElem_cons_zero]
        refine wpAnyH_take (i := 2) (v := ?_) rfl (by kernel_rfl) (by kernel_rfl) (by kernel_rfl) (fun _ _ _ h => h) (Or.inl ⟨by rfl, ?_⟩) (by assumption) ?_
        rotate_left
        · intro w' hSw
          go_simp
          try with_reducible rfl
        try simp only [Act.put, List.setIfInBounds_toArray, List.set_cons_zero, List.set_cons_succ, List.getElem_toArray, List.getElem_cons_succ, List.getElem_cons_zero]
        refine wpAnyH_take (i := 3) (v := ?_) rfl (by kernel_rfl) (by kernel_rfl) (by kernel_rfl) (fun _ _ _ h => h) (Or.inl ⟨by rfl, ?_⟩) (by assumption) ?_
        rotate_left
        · intro w' hSw
          go_simp
          try with_reducible rfl
        try simp only [Act.put, List.setIfInBounds_toArray, List.set_cons_zero, List.set_cons_succ, List.getElem_toArray, List.getElem_cons_succ, List.getElem_cons_zero]
        refine wpAnyH_take (i := 4) (v := _) rfl (by kernel_rfl) (by kernel_rfl) (by kernel_rfl) (fun _ _ _ h => h) ((yields_at 166 _ b (off + i * 4) (fireC x) _ (by rfl) rfl rfl (fun w' hSw => cells_far hSw HCx.out (Nat.le_refl _) (fun h => h)) Tryz.underlying166 rfl (infoXF _))) (by assumption) ?_
        try simp only [Act.put, List.setIfInBounds_toArray, List.set_cons_zero, List.set_cons_succ, List.getElem_toArray, List.getElem_cons_succ, List.getElem_cons_zero]
        refine wpAnyH_take (i := 5) (v := _) rfl (by kernel_rfl) (by kernel_rfl) (by kernel_rfl) (fun _ _ _ h => h) ((yields_blk 166 _ (w.heap.size + 1) 0 166 (fireC m) (fireC m) _ (by rfl) rfl rfl (fun w' hSw => hSw.blk HX1.out (fun h => h)) Tryz.underlying166 rfl (infoXF _) (zero_part _))) (by assumption) ?_
        try simp only [Act.put, List.setIfInBounds_toArray, List.set_cons_zero, List.set_cons_succ, List.getElem_toArray, List.getElem_cons_succ, List.getElem_cons_zero]
        refine wpAnyH_ready (rs := [6]) (by kernel_rfl) (by simp) ?_
        refine AllReadyH.cons rfl (fun K hK => ?_) AllReadyH.nil
        go_simp
        refine (HO.out _).mono ?_
        rintro e w6 ⟨rfl, hf6⟩
        refine hK.out _ _ (ff4 hHeld hf6) (fun hHeld2 => ?_)
        clear hK K hHeld hf6
        rename_i hHeld2
        have hHeld := hHeld2
        clear hHeld2
        try simp only [Act.put, List.setIfInBounds_toArray, List.set_cons_zero, List.set_cons_succ, List.getElem_toArray, List.getElem_cons_succ, List.getElem_cons_zero]
        refine wpAnyH_take (i := 7) (v := ?_) rfl (by kernel_rfl) (by kernel_rfl) (by kernel_rfl) (fun _ _ _ h => h) (Or.inl ⟨by rfl, ?_⟩) (by assumption) ?_
        rotate_left
        · intro w' hSw
          go_simp
          try with_reducible rfl
        try simp only [Act.put, List.setIfInBounds_toArray, List.set_cons_zero, List.set_cons_succ, List.getElem_toArray, List.getElem_cons_succ, List.getElem_cons_zero]
        refine wpAnyH_done (by kernel_rfl) ?_ _
        have HFr := Lib.hid hHeld
        clear hHeld
        go_wp2_with (first
          | ((with_reducible refine at_load4 166 ?_); refine wpList_load_at 166 _ b (off + i * 4) (fireC x) _ (by rfl) rfl rfl (cells_far HFr.out HCx.out (Nat.le_refl _) (fun h => h)) Tryz.underlying166 rfl (infoXF _) ?_)
          | ((with_reducible refine at_store4 166 ?_); refine wpList_store_blk 166 _ _ (w.heap.size + 1) 0 166 (fireC m) (fireC x) (fireC x) (by rfl) rfl rfl rfl rfl (HFr.out.blk HX1.out (fun h => h)) (infoXF _) (fireC_one _) (show 0 + 4 ≤ 4 by decide) (put_fi _ _) ?_
             intro W5 hf5 hb5
             have HF5 := Lib.hid ((ff4 HF.out HFr.out).fresh hf5 (fun i e => by have e : i = w.heap.size + 1 := e; omega))
             have HB5 := Lib.hid (hf5.blk (HFr.out.blk HX0.out (fun h => h)) (fun e => by have e : w.heap.size = w.heap.size + 1 := e; omega))
             have HB6 := Lib.hid hb5
             clear hf5 hb5))
        go_roundg (F.length - (i + 1))
        case measure => omega
        case rel => exact ⟨i + 1, x, by go_num, by omega, HM.out.1, HM.out.2, HB5.out, HB6.out, HF5.out⟩
      · have HM := Lib.hid (HS2.out (fun h => hgt (HGt.out.2 h)))
        go_wp2_with fail
        refine wp_region_held_drew (S := fun w' => Fr wr w' (fun _ => False)) (by kernel_rfl) (Fr.drew _ _) (fun hHeld => ?_)
        refine wpAnyH_take (i := 0) (v := ?_) rfl (by kernel_rfl) (by kernel_rfl) (by kernel_rfl) (fun _ _ _ h => h) (Or.inl ⟨by rfl, ?_⟩) (by assumption) ?_
        rotate_left
        · intro w' hSw
          go_simp
          try with_reducible rfl
        try simp only [Act.put, List.setIfInBounds_toArray, List.set_cons_zero, List.set_cons_succ, List.getElem_toArray, List.getElem_cons_zero]
        refine wpAnyH_take (i := 1) (v := ?_) rfl (by kernel_rfl) (by kernel_rfl) (by kernel_rfl) (fun _ _ _ h => h) (Or.inl ⟨by rfl, ?_⟩) (by assumption) ?_
        rotate_left
        · intro w' hSw
          go_simp
          try with_reducible rfl
        try simp only [Act.put, List.setIfInBounds_toArray, List.set_cons_zero, List.set_cons_succ, List.getElem_toArray, List.getElem_cons_succ, List.getElem_cons_zero]
        refine wpAnyH_take (i := 2) (v := ?_) rfl (by kernel_rfl) (by kernel_rfl) (by kernel_rfl) (fun _ _ _ h => h) (Or.inl ⟨by rfl, ?_⟩) (by assumption) ?_
        rotate_left
        · intro w' hSw
          go_simp
          try with_reducible rfl
        try simp only [Act.put, List.setIfInBounds_toArray, List.set_cons_zero, List.set_cons_succ, List.getElem_toArray, List.getElem_cons_succ, List.getElem_cons_zero]
        refine wpAnyH_take (i := 3) (v := ?_) rfl (by kernel_rfl) (by kernel_rfl) (by kernel_rfl) (fun _ _ _ h => h) (Or.inl ⟨by rfl, ?_⟩) (by assumption) ?_
        rotate_left
        · intro w' hSw
          go_simp
          try with_reducible rfl
        try simp only [Act.put, List.setIfInBounds_toArray, List.set_cons_zero, List.set_cons_succ, List.getElem_toArray, List.getElem_cons_succ, List.getElem_cons_zero]
        refine wpAnyH_take (i := 4) (v := _) rfl (by kernel_rfl) (by kernel_rfl) (by kernel_rfl) (fun _ _ _ h => h) ((yields_at 166 _ b (off + i * 4) (fireC x) _ (by rfl) rfl rfl (fun w' hSw => cells_far hSw HCx.out (Nat.le_refl _) (fun h => h)) Tryz.underlying166 rfl (infoXF _))) (by assumption) ?_
        try simp only [Act.put, List.setIfInBounds_toArray, List.set_cons_zero, List.set_cons_succ, List.getElem_toArray, List.getElem_cons_succ, List.getElem_cons_zero]
        refine wpAnyH_take (i := 5) (v := _) rfl (by kernel_rfl) (by kernel_rfl) (by kernel_rfl) (fun _ _ _ h => h) ((yields_blk 166 _ (w.heap.size + 1) 0 166 (fireC m) (fireC m) _ (by rfl) rfl rfl (fun w' hSw => hSw.blk HX1.out (fun h => h)) Tryz.underlying166 rfl (infoXF _) (zero_part _))) (by assumption) ?_
        try simp only [Act.put, List.setIfInBounds_toArray, List.set_cons_zero, List.set_cons_succ, List.getElem_toArray, List.getElem_cons_succ, List.getElem_cons_zero]
        refine wpAnyH_ready (rs := [6]) (by kernel_rfl) (by simp) ?_
        refine AllReadyH.cons rfl (fun K hK => ?_) AllReadyH.nil
        go_simp
        refine (HO.out _).mono ?_
        rintro e w6 ⟨rfl, hf6⟩
        refine hK.out _ _ (ff4 hHeld hf6) (fun hHeld2 => ?_)
        clear hK K hHeld hf6
        rename_i hHeld2
        have hHeld := hHeld2
        clear hHeld2
        try simp only [Act.put, List.setIfInBounds_toArray, List.set_cons_zero, List.set_cons_succ, List.getElem_toArray, List.getElem_cons_succ, List.getElem_cons_zero]
        refine wpAnyH_take (i := 7) (v := ?_) rfl (by kernel_rfl) (by kernel_rfl) (by kernel_rfl) (fun _ _ _ h => h) (Or.inl ⟨by rfl, ?_⟩) (by assumption) ?_
        rotate_left
        · intro w' hSw
          go_simp
          try with_reducible rfl
        try simp only [Act.put, List.setIfInBounds_toArray, List.set_cons_zero, List.set_cons_succ, List.getElem_toArray, List.getElem_cons_succ, List.getElem_cons_zero]
        refine wpAnyH_done (by kernel_rfl) ?_ _
        have HFr := Lib.hid hHeld
        clear hHeld
        go_wp2_with fail
        go_roundg (F.length - (i + 1))
        case measure => omega
        case rel => exact ⟨i + 1, m, by go_num, by omega, HM.out.1, HM.out.2, HFr.out.blk HX0.out (fun h => h), HFr.out.blk HX1.out (fun h => h), ff4 HF.out HFr.out⟩
    · obtain rfl : i = F.length := by omega
      rw [List.take_length] at hm ha
      have HM := Lib.hid hm
      have HAl := Lib.hid ha
      clear hm ha hb0 hb1 hf
      go_wp2_with (first
        | ((with_reducible refine at_load4 166 ?_); refine wpList_load_blk 166 _ (w.heap.size + 1) 0 166 (fireC m) (fireC m) _ (by rfl) rfl rfl HX1.out Tryz.underlying166 rfl (infoXF _) (zero_part _) ?_)
        | ((with_reducible refine at_store4 166 ?_); refine wpList_store_blk 166 _ _ w.heap.size 0 166 (fireC f0) (fireC m) (fireC m) (by rfl) rfl rfl rfl rfl HX0.out (infoXF _) (fireC_one _) (show 0 + 4 ≤ 4 by decide) (put_fi _ _) ?_
           intro W5 hf5 hb5
           have HF5 := Lib.hid (HF.out.fresh hf5 (fun i e => by have e : i = w.heap.size := e; omega))
           have HB5 := Lib.hid hb5
           clear hf5 hb5))
      exact bodyPost_ret (results_min _ _ w.heap.size m rfl HB5.out) rfl ⟨m, rfl, HM.out, HAl.out, HF5.out⟩
end Go.Proofs.YtghcfmoagkimaaaGreatDoor
namespace Go.Proofs.YtghcfmoagkimaaaGreatDoor
open Go.RowKit Go.Mem Go.Lin Go.Xpd

theorem up1_none {r : RuleL} {p y : Int} {n : Nat} (h : fireR r p y = none) : nearD r p y 1 (n + 1) = nearD r p (y + 1) 1 n := by
  show (match fireR r p y with | some f => some f | none => nearD r p (y + 1) 1 n) = _
  rw [h]
theorem up1_some {r : RuleL} {p y : Int} {n : Nat} {f : FireL} (h : fireR r p y = some f) : nearD r p y 1 (n + 1) = some f := by
  show (match fireR r p y with | some f => some f | none => nearD r p (y + 1) 1 n) = _
  rw [h]
set_option maxHeartbeats 3200000 in
set_option maxRecDepth 100000 in
theorem up_any (r : RuleL) (p : Int) (F : List FireL) (v : Value) (y : Int) (w0 w : World) (hw : S6.WOk w0) (hf : Fr w0 w (fun _ => False)) (ho : XFires w w0.heap.size v F) (hF : F.length ≤ 20000) (hs : -700000 ≤ r.at_.s ∧ r.at_.s ≤ 700000)
    (hy : -30000 ≤ y ∧ y ≤ 30000) :
    Calls Tryz.prog 119 #[v, seatM r p, intV y, intV 1] w fun e w' => ∃ v', e = .returned v' ∧ XFires w' w0.heap.size v' (F ++ (nearD r p y 1 8).toList) ∧ TF w0 w w' := by
  have HWk := Lib.hid hw
  have HSe := Lib.hid hs
  have HF0 := Lib.hid hf
  obtain ⟨A0, c0, rfl⟩ := ho.slice
  have HO0 := Lib.hid ho
  obtain ⟨R, hR⟩ : ∃ R, nearD r p y 1 8 = R := ⟨_, rfl⟩
  have HR := Lib.hid hR
  rw [hR]
  clear hf ho hw hs hR
  go_enter Tryz.func119, Tryz.ntmps119
  go_wp2_with fail
  go_loopg [2, 9, 10, 11] 8 (fun g v2 _ _ v11 wr => ∃ i : Nat, i + g = 8 ∧ v11 = intV i ∧ v2 = intV (y + i) ∧ R = nearD r p (y + i) 1 g ∧ XFires wr w0.heap.size (.slice A0 F.length c0) F ∧ Fr w wr (fun _ => False))
  case atStart => exact ⟨0, rfl, rfl, by rw [show y + ((0 : Nat) : Int) = y by omega], by rw [show y + ((0 : Nat) : Int) = y by omega, HR.out], HO0.out, Fr.refl _ _⟩
  case round =>
    obtain ⟨i, hi, rfl, rfl, hn, ho, hf⟩ := hrel
    obtain ⟨G, hGk⟩ : ∃ G, gk = G := ⟨_, rfl⟩
    rw [hGk] at hi hn
    have HT := Lib.hid hf
    have HF := Lib.hid (ff4 HF0.out hf)
    have HO := Lib.hid ho
    obtain ⟨x, hxv⟩ : ∃ x : Int, y + i = x := ⟨_, rfl⟩
    have HXv := Lib.hid hxv
    have hx1 : -30000 ≤ x ∧ x ≤ 30008 := by omega
    rw [hxv] at hn ⊢
    have HN := Lib.hid hn
    clear hf ho hxv hn
    cases G with
    | zero =>
      obtain rfl : i = 8 := by omega
      have HE := Lib.hid (show F ++ R.toList = F by rw [HN.out]; exact List.append_nil _)
      go_wp2_with fail
      go_ret
      exact ⟨_, rfl, by rw [HE.out]; exact HO.out, tf_of HT.out⟩
    | succ G =>
      have hi8 : (i : Int) < 8 := by omega
      cases ho : fireR r p x with
      | none =>
        have HQ := Lib.hid (fire_none ho wr (HWk.out.fr HF.out) HSe.out)
        have HN2 := Lib.hid (show R = nearD r p (x + 1) 1 G by rw [HN.out, up1_none ho])
        clear ho
        go_wp2_with fail
        refine HQ.out.mono ?_
        rintro e w2 ⟨rfl, hf2⟩
        have HF2 := Lib.hid hf2
        have HO2 := Lib.hid (HO.out.kept hf2)
        have n2 := Fr.new w2 (.cells #[.int .i64 0, .int .i64 0, .int .i64 0, .int .i64 0] 166) (fun _ => False)
        have HF3 := Lib.hid (ff4 HF2.out n2)
        have HO3 := Lib.hid (HO2.out.kept n2)
        have HB := Lib.hid (show Blk _ w2.heap.size 166 (fireC f0) from Blk.made w2 166 (fireC f0))
        clear hf2 n2
        go_wp2_with (
          ((with_reducible refine at_store4 166 ?_); refine wpList_store_blk 166 _ _ w2.heap.size 0 166 (fireC f0) (fireC f0) (fireC f0) (by rfl) rfl rfl rfl rfl HB.out (infoXF _) (fireC_one _) (show 0 + 4 ≤ 4 by decide) (put_fi _ _) ?_
           intro W3 hf3 hb3
           have HF4 := Lib.hid (HF3.out.fresh hf3 (fun i e => by have e : i = w2.heap.size := e; have := HF2.out.size; omega))
           have HO4 := Lib.hid (show XFires W3 w0.heap.size _ F from HO3.out.fr hf3 (fun g hg e => by have e : g = w2.heap.size := e; have := (own_block HO2.out hg).2.1; omega))
           clear hf3 hb3))
        go_roundg G
        case measure => omega
        case rel =>
          have hxv := HXv.out
          have e1 : y + ((i + 1 : Nat) : Int) = x + 1 := by omega
          exact ⟨i + 1, by omega, by go_num, by rw [e1], by rw [e1, HN2.out], HO4.out, ff4 HT.out HF4.out⟩
      | some f =>
        have HQ := Lib.hid (fire_some ho wr (HWk.out.fr HF.out) HSe.out)
        have HN2 := Lib.hid (show F ++ R.toList = F ++ [f] by rw [HN.out, up1_some ho]; rfl)
        clear ho
        go_wp2_with fail
        refine HQ.out.mono ?_
        rintro e w2 ⟨rfl, hf2⟩
        have HF2 := Lib.hid hf2
        have HO2 := Lib.hid (HO.out.kept hf2)
        have n2 := Fr.new w2 (.cells #[.int .i64 0, .int .i64 0, .int .i64 0, .int .i64 0] 166) (fun _ => False)
        have HF3 := Lib.hid (ff4 HF2.out n2)
        have HO3 := Lib.hid (HO2.out.kept n2)
        have HB := Lib.hid (show Blk _ w2.heap.size 166 (fireC f0) from Blk.made w2 166 (fireC f0))
        clear hf2 n2
        go_wp2_with (first
          | ((with_reducible refine at_store4 166 ?_); refine wpList_store_blk 166 _ _ w2.heap.size 0 166 (fireC f0) (fireC f) (fireC f) (by rfl) rfl rfl rfl rfl HB.out (infoXF _) (fireC_one _) (show 0 + 4 ≤ 4 by decide) (put_fi _ _) ?_
             intro W3 hf3 hb3
             have HF4 := Lib.hid (HF3.out.fresh hf3 (fun i e => by have e : i = w2.heap.size := e; have := HF2.out.size; omega))
             have HO4 := Lib.hid (show XFires W3 w0.heap.size _ F from HO3.out.fr hf3 (fun g hg e => by have e : g = w2.heap.size := e; have := (own_block HO2.out hg).2.1; omega))
             have HB4 := Lib.hid hb3
             clear hf3 hb3)
          | ((with_reducible refine at_load4 166 ?_); refine wpList_load_blk 166 _ w2.heap.size 0 166 (fireC f) (fireC f) _ (by rfl) rfl rfl HB4.out Tryz.underlying166 rfl (infoXF _) (zero_part _) ?_)
          | ((with_reducible refine at_slice4 (y := .tmp 21) 165 ?_); refine wpList_made (t := 165) (e := 166) (y := .tmp 21) (v := fireV f) (fireC f) (by rfl) rfl rfl (fun _ => by kernel_rfl) ?_
             intro Wm hfm hsm hbm hrm
             have HFm := Lib.hid (ff4 HF4.out hfm)
             have HOm := Lib.hid (HO4.out.kept hfm)
             have HRm := Lib.hid hrm
             clear hfm hsm hbm hrm)
          | ((with_reducible refine at_append4 (.tmp 20) (.tmp 22) ?_); refine wpList_append1 (f := fireL) (.tmp 20) (.tmp 22) 165 rfl rfl w0.heap.size 166 _ 4 32 Tryz.underlying165 info_xfire rfl (by decide) _ rfl HOm.out _ 1 f (fireC f).toList rfl HRm.out rfl (one_made (fireC_one f)) (by omega) (by decide) (Nat.le_trans HF.out.size HFm.out.size) ?_
             intro A2 c2 Wp hop hfp
             have HTp := Lib.hid (tf_trans (tf_of (ff4 HT.out HFm.out)) (tb_own HOm.out hfp))
             have HOp := Lib.hid hop
             clear hop hfp))
        go_ret
        refine ⟨_, rfl, ?_, HTp.out⟩
        rw [HN2.out]
        show Own _ _ _ _ _ _ (F ++ [f])
        exact HOp.out
end Go.Proofs.YtghcfmoagkimaaaGreatDoor
