import Derived.Test.YtffljhieijnakaaEdi
namespace Go.Proofs.Ytffljhieijnakaa
open Go.RowKit Go.Mem Go.Rope

theorem rSlice_any (l : Bs) (x y : Int) (w : World) (_hl : l.length ≤ 20000) (s : Bs) (k : Int) (hs : sliceD l x y = (s, k)) :
    Calls Try.prog 20 #[strV l, .int .i64 x, .int .i64 y] w fun e w' => e = .returned (.tuple #[strV s, .int .i64 k]) ∧ w = w' := by
  unfold sliceD at hs
  have hz := str_size l
  by_cases hr : InR l x y
  · rw [if_pos hr] at hs
    obtain ⟨rfl, rfl⟩ := Prod.mk.inj hs
    obtain ⟨r1, r2, r3⟩ := hr
    obtain ⟨f, rfl⟩ : ∃ f : Nat, x = (f : Int) := ⟨x.toNat, by omega⟩
    obtain ⟨u, rfl⟩ : ∃ u : Nat, y = (u : Int) := ⟨y.toNat, by omega⟩
    simp only [Int.toNat_natCast]
    have t1 : ¬ ((f : Int) < 0) := by omega
    have t2 : ¬ ((f : Int) > (u : Int)) := by omega
    have t3 : ¬ ((u : Int) > (l.length : Int)) := by omega
    have t4 : ¬ (u < f) := by omega
    have t5 : ¬ (l.length < u) := by omega
    have HE := Lib.hid (show strV (cut l f u) = .string ((⟨l.toArray⟩ : ByteArray).extract f u) by rw [str_ext])
    clear hs
    go_enter Try.func20, Try.ntmps20
    go_wp2_with fail
    go_ret2
    exact ⟨by rw [HE.out]; rfl, rfl⟩
  · rw [if_neg hr] at hs
    obtain ⟨rfl, rfl⟩ := Prod.mk.inj hs
    unfold InR at hr
    clear hs
    by_cases h1 : x < 0
    · go_enter Try.func20, Try.ntmps20
      go_wp2_with fail
      go_ret2
      exact ⟨rfl, rfl⟩
    · by_cases h2 : y < x
      · go_enter Try.func20, Try.ntmps20
        go_wp2_with fail
        go_ret2
        exact ⟨rfl, rfl⟩
      · have h3 : (l.length : Int) < y := by omega
        clear hr
        go_enter Try.func20, Try.ntmps20
        go_wp2_with fail
        go_ret2
        exact ⟨rfl, rfl⟩

set_option maxHeartbeats 400000 in
theorem rSplice_any (l : Bs) (x y : Int) (s : Bs) (w : World) (hl : l.length ≤ 20000) (hz : s.length ≤ 20100) (t : Bs) (k : Int) (hs : spliceD l x y s = (t, k)) :
    Calls Try.prog 14 #[strV l, .int .i64 x, .int .i64 y, strV s] w fun e w' => e = .returned (.tuple #[strV t, .int .i64 k]) ∧ Fr w w' (fun _ => False) := by
  unfold spliceD at hs
  have hzl := str_size l
  have hzs := str_size s
  by_cases hr : InR l x y
  · rw [if_pos hr] at hs
    obtain ⟨r1, r2, r3⟩ := hr
    obtain ⟨f, rfl⟩ : ∃ f : Nat, x = (f : Int) := ⟨x.toNat, by omega⟩
    obtain ⟨u, rfl⟩ : ∃ u : Nat, y = (u : Int) := ⟨y.toNat, by omega⟩
    simp only [Int.toNat_natCast] at hs
    have t1 : ¬ ((f : Int) < 0) := by omega
    have t2 : ¬ ((f : Int) > (u : Int)) := by omega
    have t3 : ¬ ((u : Int) > (l.length : Int)) := by omega
    have t4 : ¬ (u < f) := by omega
    have t5 : ¬ (l.length < u) := by omega
    by_cases hbig : l.length - (u - f) + s.length ≤ 20000
    · rw [if_pos hbig] at hs
      obtain ⟨rfl, rfl⟩ := Prod.mk.inj hs
      have e1 : ((⟨l.toArray⟩ : ByteArray).extract 0 f).size = f := by rw [str_ext, str_size, cut_len (by omega) (by omega)]; omega
      have e2 : ((⟨l.toArray⟩ : ByteArray).extract u l.length).size = l.length - u := by rw [str_ext, str_size, cut_len (by omega) (by omega)]
      have a1 := fun w => run_string_add_sum (P := Try.prog) w ((⟨l.toArray⟩ : ByteArray).extract 0 f) ⟨s.toArray⟩ (by rw [e1, hzs]; omega)
      have a2 := fun w => run_string_add_sum (P := Try.prog) w ((⟨l.toArray⟩ : ByteArray).extract 0 f ++ ⟨s.toArray⟩) ((⟨l.toArray⟩ : ByteArray).extract u l.length) (by rw [ByteArray.size_append, e1, e2, hzs]; omega)
      have HE := Lib.hid (show strV (repl l f u s) = .string ((⟨l.toArray⟩ : ByteArray).extract 0 f ++ ⟨s.toArray⟩ ++ (⟨l.toArray⟩ : ByteArray).extract u l.length) by rw [str_ext, str_ext, str_app, str_app]; simp [repl, cut])
      have t6 : ¬ ((s.length : Int) > 20000) := by omega
      have t6' : ¬ (20000 < (s.length : Int)) := by omega
      have t7 : ¬ (20000 - (s.length : Int) < (l.length : Int) - ((u : Int) - (f : Int))) := by omega
      have i0 : (0 : Int) ≤ (f : Int) := by omega
      have i1 : (f : Int) ≤ (l.length : Int) := by omega
      have i2 : (0 : Int) ≤ (u : Int) := by omega
      have i3 : (u : Int) ≤ (l.length : Int) := by omega
      clear hs e1 e2
      go_enter Try.func14, Try.ntmps14
      go_wp2_with fail
      go_quiet (fail)
      go_wp2_with fail
      go_ret2
      exact ⟨by rw [HE.out]; rfl, Fr.drewN _ _ _⟩
    · rw [if_neg hbig] at hs
      obtain ⟨rfl, rfl⟩ := Prod.mk.inj hs
      clear hs
      by_cases h6 : 20000 < (s.length : Int)
      · go_enter Try.func14, Try.ntmps14
        go_wp2_with fail
        go_ret2
        exact ⟨rfl, Fr.refl _ _⟩
      · have t7 : (20000 - (s.length : Int) < (l.length : Int) - ((u : Int) - (f : Int))) := by omega
        go_enter Try.func14, Try.ntmps14
        go_wp2_with fail
        go_ret2
        exact ⟨rfl, Fr.refl _ _⟩
  · rw [if_neg hr] at hs
    obtain ⟨rfl, rfl⟩ := Prod.mk.inj hs
    unfold InR at hr
    clear hs
    by_cases h1 : x < 0
    · go_enter Try.func14, Try.ntmps14
      go_wp2_with fail
      go_ret2
      exact ⟨rfl, Fr.refl _ _⟩
    · by_cases h2 : y < x
      · go_enter Try.func14, Try.ntmps14
        go_wp2_with fail
        go_ret2
        exact ⟨rfl, Fr.refl _ _⟩
      · have h3 : (l.length : Int) < y := by omega
        clear hr
        go_enter Try.func14, Try.ntmps14
        go_wp2_with fail
        go_ret2
        exact ⟨rfl, Fr.refl _ _⟩

theorem World.ownsRow.keepNew {w : World} {base : Nat} {e : TypeId} {size n : Nat} {v : Value} {xs : List Value} (h : w.ownsRow base e size v n xs) (o : Obj) : (w.alloc o).ownsRow base e size v n xs := (Fr.new w o (fun _ => False)).own h (fun _ _ h => h)
/-- the slice v is the call's own and holds these texts -/
def Strs (w : World) (base : Nat) (v : Value) (vs : List Bs) : Prop := w.ownsRow base 9 1 v vs.length (vs.map strV)
theorem strs_next {l : Bs} {f i : Nat} {done : List Bs} (h1 : f ≤ i) (h2 : l[i]? = some 10) (hd : linesL l = done ++ linesL (l.drop f)) (h0 : feeds (cut l f i) = 0) :
    linesL l = (done ++ [cut l f i]) ++ linesL (l.drop (i + 1)) ∧ feeds (cut l (i + 1) (i + 1)) = 0 := by
  obtain ⟨h3, h4⟩ := List.getElem?_eq_some_iff.1 h2
  have e : l.drop f = cut l f i ++ 10 :: l.drop (i + 1) := by
    have e1 := List.take_append_drop (i - f) (l.drop f)
    rw [List.drop_drop, show f + (i - f) = i by omega, ← cut_eq, List.drop_eq_getElem_cons h3, h4] at e1
    exact e1.symm
  refine ⟨?_, by simp [cut_eq, feeds]⟩
  rw [hd, e, lines_cut h0]
  simp
theorem strs_same {l : Bs} {f i : Nat} {c : UInt8} (h1 : f ≤ i) (h2 : l[i]? = some c) (hc : c ≠ 10) (h0 : feeds (cut l f i) = 0) : feeds (cut l f (i + 1)) = 0 := by
  obtain ⟨h3, h4⟩ := List.getElem?_eq_some_iff.1 h2
  have e : cut l f (i + 1) = cut l f i ++ [c] := by
    rw [cut, List.take_succ_eq_append_getElem h3, h4, List.drop_append_of_le_length (by rw [List.length_take]; omega)]
    rfl
  rw [e, feeds_app, h0]
  simp [feeds, hc]
def LinesOf (w : World) (l : Bs) (e : Ending) (w' : World) : Prop := ∃ v, e = .returned v ∧ Strs w' w.heap.size v (linesL l) ∧ Fr w w' (fun _ => False)
def LInv (w : World) (l : Bs) (v3 v4 v5 : Value) (wr : World) : Prop := ∃ (i f : Nat) (done : List Bs), f ≤ i ∧ i ≤ l.length ∧ v5 = .int .i64 (i : Int) ∧ v4 = .int .i64 (f : Int) ∧ Strs wr w.heap.size v3 done ∧
  linesL l = done ++ linesL (l.drop f) ∧ feeds (cut l f i) = 0 ∧ done.length ≤ i ∧ Fr w wr (fun _ => False)
set_option maxHeartbeats 1000000 in
theorem rLines_any (l : Bs) (w : World) (hl : l.length ≤ 20000) : Calls Try.prog 17 #[strV l] w (LinesOf w l) := by
  have hz := str_size l
  go_enter Try.func17, Try.ntmps17
  go_wp2_with fail
  go_loopw [3, 4, 5] (fun v3 v4 v5 wr => LInv w l v3 v4 v5 wr) (fun _ _ v5 _ => l.length - (intOf v5).toNat)
  case atStart => exact ⟨0, 0, [], Nat.le_refl _, Nat.zero_le _, rfl, rfl, ⟨rfl, .inr ⟨w.heap.size, 0, #[], rfl, Nat.le_refl _, heap_alloc_new w _, Nat.le_refl _, by unfold maxLen; omega, rfl, rfl⟩⟩, by simp, by simp [cut, feeds], by simp, Fr.new _ _ _⟩
  case round =>
    obtain ⟨i, f, done, hfi, hil, rfl, rfl, hown, hd, h0, hdl, hf⟩ := hrel
    obtain ⟨i0, hi0, hz0, hz1, hz2⟩ := info_parts infoS
    have HO := Lib.hid hown
    have HF := Lib.hid hf
    have HD := Lib.hid hd
    have H0 := Lib.hid h0
    have hws := hf.size
    obtain ⟨A3, c3, rfl⟩ := own_slice hown
    clear hown hd h0 hf
    have b0 : (0 : Int) ≤ (f : Int) := by omega
    have b1 : (f : Int) ≤ (i : Int) := by omega
    have b2 : (i : Int) ≤ (l.length : Int) := by omega
    by_cases hlt : i < l.length
    · have hlt' : i < (⟨l.toArray⟩ : ByteArray).size := by rw [hz]; exact hlt
      have hget : (⟨l.toArray⟩ : ByteArray)[i]'hlt' = l[i]'hlt := rfl
      have hget? : l[i]? = some (l[i]'hlt) := List.getElem?_eq_getElem hlt
      obtain ⟨c, hc⟩ : ∃ c, l[i]'hlt = c := ⟨_, rfl⟩
      rw [hc] at hget hget?
      by_cases hc10 : c = 10
      · subst hc10
        have e10 : (((((⟨l.toArray⟩ : ByteArray)[i]'hlt').toNat : Nat) : Int) == 10) = true := by rw [hget]; rfl
        have HS := Lib.hid (strs_next hfi hget? HD.out H0.out)
        have HS5 := Lib.hid (World.ownsRow.keepNew HO.out (.cells #[.string ((⟨l.toArray⟩ : ByteArray).extract f i)] 9))
        have HCE := Lib.hid (show Value.string ((⟨l.toArray⟩ : ByteArray).extract f i) = strV (cut l f i) by rw [str_ext])
        clear hget hget? hc
        go_wp2_with (at_builtin; refine wpList_append_rd _ rfl (.tmp 17) (.tmp 22) 36 rfl w.heap.size 9 i0 _ 1 16 Try.underlying36 hi0 hz0 hz1 hz2 rfl (by decide) _ _ _ rfl HS5.out _ 1 1 [.string ((⟨l.toArray⟩ : ByteArray).extract f i)] rfl (rd_new wr 9 (0, 0) [.string ((⟨l.toArray⟩ : ByteArray).extract f i)]) (by intro u hu; simp at hu; subst hu; rfl) (by simp only [maxLen]; omega) (by omega) (by simp; omega) ?_; intro v6 w6 hown6 hg6 _)
        have hf6 := ((Fr.new wr (.cells #[.string ((⟨l.toArray⟩ : ByteArray).extract f i)] 9) (fun _ => False))).trans (Fr.ofGrown hg6) (U := fun k => w.heap.size ≤ k) (fun _ _ h => h.elim) (fun k _ e => (HS5.out.lt k e.symm).1)
        have HF6 := Lib.hid (HF.out.fresh hf6 (fun k hk => hk))
        have HO6 := Lib.hid hown6
        clear hf6 hown6 hg6
        go_wp2_with fail
        go_roundw
        case measure => simp [intOf]; omega
        case rel =>
          refine ⟨i + 1, i + 1, done ++ [cut l f i], Nat.le_refl _, by omega, by go_num, by go_num, ?_, HS.out.1, HS.out.2, by simp; omega, HF6.out⟩
          have := HO6.out
          rw [HCE.out] at this
          show World.ownsRow _ _ _ _ _ _ _
          simpa using this
      · have e10 : (((((⟨l.toArray⟩ : ByteArray)[i]'hlt').toNat : Nat) : Int) == 10) = false := by
          rw [hget, beq_eq_false_iff_ne]
          intro e
          exact hc10 (UInt8.toNat_inj.1 (by have : (10 : UInt8).toNat = 10 := rfl; omega))
        have HS := Lib.hid (strs_same hfi hget? hc10 H0.out)
        clear hget hget? hc
        go_wp2_with fail
        go_roundw
        case measure => simp [intOf]; omega
        case rel => exact ⟨i + 1, f, done, by omega, by omega, by go_num, rfl, HO.out, HD.out, HS.out, by omega, HF.out⟩
    · have hil' : i = l.length := by omega
      have HS := Lib.hid (show linesL l = done ++ [l.drop f] by
        rw [HD.out, lines_one (x := l.drop f)]
        have := H0.out
        rw [hil', cut_eq] at this
        rwa [List.take_of_length_le (by rw [List.length_drop]; omega)] at this)
      have HS5 := Lib.hid (World.ownsRow.keepNew HO.out (.cells #[.string ((⟨l.toArray⟩ : ByteArray).extract f l.length)] 9))
      have HCE := Lib.hid (show Value.string ((⟨l.toArray⟩ : ByteArray).extract f l.length) = strV (l.drop f) by rw [str_ext, cut_eq, List.take_of_length_le (by rw [List.length_drop]; omega)])
      go_wp2_with (at_builtin; refine wpList_append_rd _ rfl (.tmp 26) (.tmp 30) 36 rfl w.heap.size 9 i0 _ 1 16 Try.underlying36 hi0 hz0 hz1 hz2 rfl (by decide) _ _ _ rfl HS5.out _ 1 1 [.string ((⟨l.toArray⟩ : ByteArray).extract f l.length)] rfl (rd_new wr 9 (0, 0) [.string ((⟨l.toArray⟩ : ByteArray).extract f l.length)]) (by intro u hu; simp at hu; subst hu; rfl) (by simp only [maxLen]; omega) (by omega) (by simp; omega) ?_; intro v6 w6 hown6 hg6 _)
      have hf6 := ((Fr.new wr (.cells #[.string ((⟨l.toArray⟩ : ByteArray).extract f l.length)] 9) (fun _ => False))).trans (Fr.ofGrown hg6) (U := fun k => w.heap.size ≤ k) (fun _ _ h => h.elim) (fun k _ e => (HS5.out.lt k e.symm).1)
      have HF6 := Lib.hid (HF.out.fresh hf6 (fun k hk => hk))
      have HO6 := Lib.hid hown6
      clear hf6 hown6 hg6
      go_wp2_with fail
      go_ret
      refine ⟨_, rfl, ?_, HF6.out⟩
      have := HO6.out
      rw [HCE.out] at this
      show World.ownsRow _ _ _ _ _ _ _
      rw [HS.out]
      simpa using this
end Go.Proofs.Ytffljhieijnakaa
