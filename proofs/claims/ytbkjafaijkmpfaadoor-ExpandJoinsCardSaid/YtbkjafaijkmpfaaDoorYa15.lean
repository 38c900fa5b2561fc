import Derived.Test.YtbkjafaijkmpfaaDoorYa13
import Derived.Test.YtbkjafaijkmpfaaDoorYa09
import Derived.Shelf.SlSortCmp.NoneTotal
import Derived.Test.YtbkjafaijkmpfaaDoorYa14
import Derived.Laws.StructEq
namespace Go.Mem
open Go.Sort
/- a row of the call's own as the library's sort has it -/
theorem flatK_list {X : Type} [Inhabited X] {f : X → List Value} {k : Nat} (hf : ∀ x, (f x).length = k) (l : List X) : (flatK f k l.toArray).toList = l.flatMap f := by
  apply List.ext_getElem
  · simp only [Array.length_toList, size_flatK, List.size_toArray]
    rw [Go.Mem.flat_len f k hf]
  · intro t h1 h2
    have ht : t < l.length * k := by
      simp only [Array.length_toList, size_flatK, List.size_toArray] at h1; exact h1
    have hk : 0 < k := by
      rcases Nat.eq_zero_or_pos k with h | h
      · rw [h] at ht; omega
      · exact h
    have hi : t / k < l.length := (Nat.div_lt_iff_lt_mul hk).2 ht
    have h3 := get_flatK f k l.toArray t (by simpa using ht)
    have h4 := flat_get f k hf (List.getElem?_eq_getElem hi) (t % k) (Nat.mod_lt _ hk)
    rw [show t / k * k + t % k = t from Nat.div_add_mod' t k] at h4
    have h5 : (flatK f k l.toArray)[t]! = (flatK f k l.toArray)[t]'(by simpa using ht) := getElem!_pos _ _ _
    rw [Array.getElem_toList, ← h5, h3, getElem!_pos l.toArray (t / k) (by simpa using hi)]
    have h6 : t % k < (f l[t / k]).length := by rw [hf]; exact Nat.mod_lt _ hk
    have h7 : l.toArray[t / k]'(by simpa using hi) = l[t / k] := by simp
    rw [h7, getElem!_pos (f l[t / k]) (t % k) h6]
    rw [List.getElem?_eq_getElem h2, List.getElem?_eq_getElem h6] at h4
    exact (Option.some.inj h4).symm
theorem put_take (c X : Array Value) (h : X.size ≤ c.size) : (putCells id 0 X c).toList.take X.size = X.toList := by
  apply List.ext_getElem?
  intro i
  unfold putCells
  rw [List.getElem?_take]
  split
  · rename_i hi
    rw [Array.getElem?_toList, Array.getElem?_mapIdx, Array.getElem?_eq_getElem (show i < c.size by omega), Array.getElem?_toList, Array.getElem?_eq_getElem hi]
    simp only [Option.map_some, Nat.zero_le, true_and, Nat.zero_add, hi, if_true, Nat.sub_zero, id]
    rw [getElem!_pos X i hi]
  · rename_i hi
    rw [List.getElem?_eq_none (by simpa using hi)]
theorem blk_put {w : World} {g : Nat} {t : TypeId} {cur : Array Value} (h : Blk w g t cur) (n : Nat) (X : Array Value) (os : Array Obj) : Blk (grow (putRow id (Go.Sort.ahead w n) g 0 X) os) g t (putCells id 0 X cur) := by
  unfold Blk at h ⊢
  have hl := (Array.getElem?_eq_some_iff.1 h).1
  show (w.heap.modify g (onCells (putCells id 0 X)) ++ os)[g]? = _
  rw [Array.getElem?_append_left (by simpa using hl), Array.getElem?_modify, if_pos rfl, h]
  rfl
theorem fr_put (w : World) (g n : Nat) (X : Array Value) (os : Array Obj) : Fr w (grow (putRow id (Go.Sort.ahead w n) g 0 X) os) (fun i => i = g) :=
  ⟨rfl, rfl, rfl, by
    show w.heap.size ≤ (w.heap.modify g (onCells (putCells id 0 X)) ++ os).size
    simp, fun i hi hn => by
    show (w.heap.modify g (onCells (putCells id 0 X)) ++ os)[i]? = _
    rw [Array.getElem?_append_left (by simpa using hi), Array.getElem?_modify, if_neg (fun e => hn e.symm)]⟩
end Go.Mem
namespace Go.Proofs.YtbkjafaijkmpfaaDoor
open Go.RowKit Go.Mem Go.Lin Go.Xpd

theorem ltOf_F (x y : FireL) : Go.Proofs.ltOf cfF x y = decide (ltF x y) := by
  unfold Go.Proofs.ltOf
  exact decide_eq_decide.2 cfF_lt
theorem swoF : Go.Sort.SWO (Go.Proofs.ltOf cfF) where
  irrefl x := by rw [ltOf_F]; exact decide_eq_false (ltF_irr x)
  trans x y z h1 h2 := by
    rw [ltOf_F] at *
    exact decide_eq_true (ltF_trans (of_decide_eq_true h1) (of_decide_eq_true h2))
  ntrans x y z h1 h2 := by
    rw [ltOf_F] at *
    exact decide_eq_false (ltF_ntrans (of_decide_eq_false h1) (of_decide_eq_false h2))
theorem sort_any (F : List FireL) (v : Value) (B : Nat) (w : World) (ho : XFires w B v F) (hF : F.length ≤ 1000000) :
    Calls Tryd.prog 20 #[v, .func (.func 21) #[] #[]] w fun e w' => e = .returned (.tuple #[]) ∧ ∃ d : List FireL, d.Perm F ∧ (d.Pairwise fun x y => ¬ ltF y x) ∧ XFires w' B v d ∧ Fr w w' (fun i => some i = v.ownBlock) := by
  have hlen := ho.1
  rcases ho.2 with ⟨h1, h2⟩ | ⟨g, cap, cur, rfl, hg, hb, hn, hm, hs, ht⟩
  · subst h1
    have hF0 : F = [] := by simpa using h2
    subst hF0
    have h := AnyF.slices_SortFunc_none Tryd.sortFi none 0 (.func (.func 21) #[] #[]) w
    change Calls Tryd.prog 20 _ _ _ at h
    refine h.mono ?_
    rintro e w' ⟨rfl, rfl⟩
    exact ⟨rfl, [], List.Perm.refl _, List.Pairwise.nil, own_none _ _ _ _ _, Fr.refl _ _⟩
  · have hb : Blk w g 36 cur := hb
    have hX : (Go.Sort.flatK fireL 4 F.toArray).size = F.length * 4 := by simp
    have hle : F.length * 4 ≤ cur.size := by rw [hs]; exact Nat.mul_le_mul_right 4 hn
    have hH : Go.Sort.HoldsK fireL 4 w g 0 F.toArray := by
      intro j hj
      rw [hX] at hj
      rw [Nat.zero_add]
      refine ⟨?_, free_at hb _⟩
      rw [cell_at hb]
      have h1 : (cur.toList.take (F.length * 4))[j]? = (F.flatMap fireL)[j]? := by rw [ht]
      rw [List.getElem?_take, if_pos hj, ← flatK_list fireL_len, Array.getElem?_toList, Array.getElem?_toList, Array.getElem?_eq_getElem (xs := Go.Sort.flatK fireL 4 F.toArray) (i := j) (by rw [hX]; exact hj)] at h1
      rw [h1, getElem!_pos _ _ (by rw [hX]; exact hj)]
      rfl
    have eg : ∀ args w, (callFunc 21 args).run Tryd.prog w = .ok (.enter 21 args) w := enters_of Tryd.func21 (by kernel_rfl) rfl
    have h := AnyQ.slices_SortFunc Tryd.sortFi 4 Tryd.isAgg36 Tryd.sizeOf36 fireL fireL_len (fun x u hu => by simp [fireL, fireC] at hu; rcases hu with rfl | rfl | rfl | rfl <;> rfl) cfF swoF 21 #[] g 0 cap F.toArray w eg
      (fun m os dk _ x y => order_grw x y _) hH hb.lt (by simp; omega)
    change Calls Tryd.prog 20 _ _ _ at h
    rw [List.size_toArray] at h
    refine h.mono ?_
    rintro e w' ⟨rfl, d', n, os, hp, hso, rfl⟩
    obtain ⟨hd1, -, hd2⟩ := hp
    have hsz : d'.size = F.length := by simpa using hd1
    have e1 : d'.extract 0 F.length = d' := by rw [← hsz]; exact Array.extract_size
    have e2 : F.toArray.extract 0 F.length = F.toArray := by rw [show F.length = F.toArray.size by simp]; exact Array.extract_size
    rw [e1, e2] at hd2
    have hpm : d'.toList.Perm F := by simpa using hd2
    refine ⟨rfl, d'.toList, hpm, ?_, ?_, ?_⟩
    · rw [List.pairwise_iff_getElem]
      intro i j hi hj hij
      have hi' : i < d'.size := by simpa using hi
      have hj' : j < d'.size := by simpa using hj
      have := hso i j (Nat.zero_le _) hij (by omega)
      rw [getElem!_pos d' j hj', getElem!_pos d' i hi', ltOf_F] at this
      simpa using of_decide_eq_false this
    · have hl : d'.toList.length = F.length := by simpa using hsz
      have hk := flatK_list fireL_len d'.toList
      have hX2 : (Go.Sort.flatK fireL 4 d').size = F.length * 4 := by simp [hsz]
      refine ⟨flat_len fireL 4 fireL_len _, .inr ⟨g, cap, _, by rw [hl], hg, blk_put hb n (Go.Sort.flatK fireL 4 d') os, by rw [hl]; exact hn, hm, by unfold Go.Sort.putCells; rw [Array.size_mapIdx]; exact hs, ?_⟩⟩
      rw [hl, ← hX2, put_take _ _ (by rw [hX2]; exact hle)]
      exact hk
    · exact (fr_put w g n _ os).mono fun i _ e => by rw [show i = g from e]; rfl
end Go.Proofs.YtbkjafaijkmpfaaDoor
namespace Go.Proofs.YtbkjafaijkmpfaaDoor
open Go.RowKit Go.Mem Go.Lin Go.Xpd

theorem markH_from {l : List RuleL} {a b : Int} {d : List FireL} (h : d = yearsN l (max a 1) (min b 9999 + 1 - max a 1).toNat) : markH l d = fromD l a b := by
  unfold fromD
  cases d with
  | nil =>
    have := mark_years l (max a 1) (min b 9999 + 1 - max a 1).toNat
    rw [← h] at this
    exact this
  | cons f t =>
    rw [← mark_first h.symm, ← h]
    rfl
set_option maxHeartbeats 3200000 in
set_option maxRecDepth 100000 in
theorem xFrom_any (l : List RuleL) (A : Option Addr) (cap : Nat) (a b : Int) (w : World) (hw : S6.WOk w) (hl : RusAt w A l) (hn : l.length ≤ 8) (hr : ∀ r ∈ l, OkF r ∧ RuR r) (ha : -20000 ≤ a ∧ a ≤ 20001) (hb : -20000 ≤ b ∧ b ≤ 20000) (hab : b - a ≤ 30) :
    Calls Tryd.prog 11 #[.slice A l.length cap, intV a, intV b] w fun e w' => ∃ v, e = .returned v ∧ XFires w' w.heap.size v (fromD l a b) ∧ Fr w w' (fun _ => False) := by
  have HW := Lib.hid hw
  have HL := Lib.hid hl
  have HRr := Lib.hid (fun r h => (hr r h).1)
  clear hw hl hr
  go_enter Tryd.func11, Tryd.ntmps11
  go_wp2_with fail
  go_loopg [7, 8, 9, 12] l.length (fun g v7 _ _ v12 wr => ∃ i : Nat, i + g = l.length ∧ v12 = intV i ∧ XFires wr w.heap.size v7 (allG l a b i) ∧ Fr w wr (fun _ => False))
  case atStart => exact ⟨0, by simp, rfl, own_none _ _ _ _ _, Fr.refl _ _⟩
  case round =>
    obtain ⟨i, hi, rfl, ho, hf⟩ := hrel
    obtain ⟨A5, c5, rfl⟩ := ho.slice
    have HF := Lib.hid hf
    have HO := Lib.hid ho
    have hll : (allG l a b i).length ≤ 400 := Nat.le_trans (allG_len (m := 31) (by omega) i) (by omega)
    obtain ⟨L, hL⟩ : ∃ L, allG l a b i = L := ⟨_, rfl⟩
    have HLv := Lib.hid hL
    rw [hL] at HO hll ⊢
    clear hf ho hL
    by_cases hlt : i < l.length
    · obtain ⟨r, hri⟩ : ∃ r, l[i]? = some r := ⟨l[i], List.getElem?_eq_getElem hlt⟩
      obtain ⟨b5, off, hA, hc⟩ := (HL.out.kept HF.out).at_ hri
      subst hA
      have hok := HRr.out r (List.mem_of_getElem? hri)
      have hto := hok.okR.to
      have hfr := hok.okR.fr
      have HSr := Lib.hid hok.okR.s
      have HCx := Lib.hid hc
      have HN := Lib.hid (show allG l a b (i + 1) = L ++ gathD r i (max a (withD r.fr)) (cntY (max a (withD r.fr)) (min b (withD r.to))) by rw [allG_some hri, HLv.out]; rfl)
      have i0 : (i : Int) < (l.length : Int) := by omega
      have n2 := Fr.new wr (.cells #[.string ⟨#[]⟩, .int .i64 0, .int .i64 0, .int .i64 0, .int .i64 0, .int .i64 0, .int .i64 0, .int .i64 0, .int .i64 0, .int .i64 0, .string ⟨#[]⟩] 42) (fun _ => False)
      have HF2 := Lib.hid n2
      have HB2 := Lib.hid (show Blk _ wr.heap.size 42 (ruleC ruleZ) from Blk.made wr 42 (ruleC ruleZ))
      have hwd : 1 ≤ withD r.to ∧ withD r.to ≤ 9999 := by unfold withD; omega
      have hwf : 1 ≤ withD r.fr ∧ withD r.fr ≤ 9999 := by unfold withD; omega
      obtain ⟨t1, t2⟩ := hto
      obtain ⟨t3, t4⟩ := hfr
      clear hc hri hok n2
      go_wp2_with (first
        | ((with_reducible refine at_load4 42 ?_); refine wpList_load_at 42 _ b5 (off + i * 11) (ruleC r) _ (by rfl) rfl rfl HCx.out Tryd.underlying42 rfl (infoR _) ?_)
        | ((with_reducible refine at_store4 42 ?_); refine wpList_store_blk 42 _ _ wr.heap.size 0 42 (ruleC ruleZ) (ruleC r) (ruleC r) (by rfl) rfl rfl rfl rfl HB2.out (infoR _) (ruleC_one _) (show 0 + 11 ≤ 11 by decide) (put_ra _ _) ?_
           intro W3 hf3 hb3
           have HF3 := Lib.hid (HF2.out.fresh hf3 (fun i e => by have e : i = wr.heap.size := e; omega))
           have HB3 := Lib.hid hb3
           clear hf3 hb3 HF2 HB2))
      refine wp_region_held_drew (S := fun w' => TF w W3 w') (by kernel_rfl) (tf_of (Fr.drew _ _)) (fun hHeld => ?_)
      refine wpAnyH_take (i := 0) (v := ?_) rfl (by kernel_rfl) (by kernel_rfl) (by kernel_rfl) (fun _ _ _ h => h) (Or.inl ⟨by rfl, ?_⟩) (by assumption) ?_
      rotate_left
      · intro w' hSw
        go_simp
        try with_reducible rfl
      try simp only [Act.put, List.setIfInBounds_toArray, List.set_cons_zero, List.set_cons_succ, List.getElem_toArray, List.getElem_cons_zero]
      refine wpAnyH_take (i := 1) (v := _) rfl (by kernel_rfl) (by kernel_rfl) (by kernel_rfl) (fun _ _ _ h => h) ((yields_blk 42 _ wr.heap.size 0 42 (ruleC r) (ruleC r) _ (by rfl) rfl rfl (fun w' hSw => tf_far hSw HB3.out (by decide)) Tryd.underlying42 rfl (infoR _) (zero_part _))) (by assumption) ?_
      try simp only [Act.put, List.setIfInBounds_toArray, List.set_cons_zero, List.set_cons_succ, List.getElem_toArray, List.getElem_cons_succ, List.getElem_cons_zero]
      refine wpAnyH_take (i := 2) (v := ?_) rfl (by kernel_rfl) (by kernel_rfl) (by kernel_rfl) (fun _ _ _ h => h) (Or.inl ⟨by rfl, ?_⟩) (by assumption) ?_
      rotate_left
      · intro w' hSw
        go_simp
        try with_reducible rfl
      try simp only [Act.put, List.setIfInBounds_toArray, List.set_cons_zero, List.set_cons_succ, List.getElem_toArray, List.getElem_cons_succ, List.getElem_cons_zero]
      refine wpAnyH_take (i := 3) (v := _) rfl (by kernel_rfl) (by kernel_rfl) (by kernel_rfl) (fun _ _ _ h => h) ((yields_build 51 #[(0, .tmp 18), (1, .tmp 19)] (.agg (seatC r (i : Int))) (by rfl) rfl (fun w => by kernel_rfl))) (by assumption) ?_
      try simp only [Act.put, List.setIfInBounds_toArray, List.set_cons_zero, List.set_cons_succ, List.getElem_toArray, List.getElem_cons_succ, List.getElem_cons_zero]
      refine wpAnyH_take (i := 4) (v := ?_) rfl (by kernel_rfl) (by kernel_rfl) (by kernel_rfl) (fun _ _ _ h => h) (Or.inl ⟨by rfl, ?_⟩) (by assumption) ?_
      rotate_left
      · intro w' hSw
        go_simp
        try with_reducible rfl
      try simp only [Act.put, List.setIfInBounds_toArray, List.set_cons_zero, List.set_cons_succ, List.getElem_toArray, List.getElem_cons_succ, List.getElem_cons_zero]
      refine wpAnyH_take (i := 5) (v := ?_) rfl (by kernel_rfl) (by kernel_rfl) (by kernel_rfl) (fun _ _ _ h => h) (Or.inl ⟨by rfl, ?_⟩) (by assumption) ?_
      rotate_left
      · intro w' hSw
        go_simp
        try with_reducible rfl
      try simp only [Act.put, List.setIfInBounds_toArray, List.set_cons_zero, List.set_cons_succ, List.getElem_toArray, List.getElem_cons_succ, List.getElem_cons_zero]
      refine wpAnyH_take (i := 6) (v := ?_) rfl (by kernel_rfl) (by kernel_rfl) (by kernel_rfl) (fun _ _ _ h => h) (Or.inl ⟨by rfl, ?_⟩) (by assumption) ?_
      rotate_left
      · intro w' hSw
        go_simp
        try with_reducible rfl
      try simp only [Act.put, List.setIfInBounds_toArray, List.set_cons_zero, List.set_cons_succ, List.getElem_toArray, List.getElem_cons_succ, List.getElem_cons_zero]
      refine wpAnyH_take (i := 7) (v := ?_) rfl (by kernel_rfl) (by kernel_rfl) (by kernel_rfl) (fun _ _ _ h => h) (Or.inl ⟨by rfl, ?_⟩) (by assumption) ?_
      rotate_left
      · intro w' hSw
        have c1 : w'.cell? ⟨wr.heap.size, 1, none⟩ = some (.int .i64 r.fr) := blkc (tf_far hSw HB3.out (by decide)) 1 _ rfl
        go_simp
        try with_reducible rfl
      try simp only [Act.put, List.setIfInBounds_toArray, List.set_cons_zero, List.set_cons_succ, List.getElem_toArray, List.getElem_cons_succ, List.getElem_cons_zero]
      refine wpAnyH_take (i := 10) (v := ?_) rfl (by kernel_rfl) (by kernel_rfl) (by kernel_rfl) (fun _ _ _ h => h) (Or.inl ⟨by rfl, ?_⟩) (by assumption) ?_
      rotate_left
      · intro w' hSw
        go_simp
        try with_reducible rfl
      try simp only [Act.put, List.setIfInBounds_toArray, List.set_cons_zero, List.set_cons_succ, List.getElem_toArray, List.getElem_cons_succ, List.getElem_cons_zero]
      refine wpAnyH_take (i := 11) (v := ?_) rfl (by kernel_rfl) (by kernel_rfl) (by kernel_rfl) (fun _ _ _ h => h) (Or.inl ⟨by rfl, ?_⟩) (by assumption) ?_
      rotate_left
      · intro w' hSw
        go_simp
        try with_reducible rfl
      try simp only [Act.put, List.setIfInBounds_toArray, List.set_cons_zero, List.set_cons_succ, List.getElem_toArray, List.getElem_cons_succ, List.getElem_cons_zero]
      refine wpAnyH_take (i := 12) (v := ?_) rfl (by kernel_rfl) (by kernel_rfl) (by kernel_rfl) (fun _ _ _ h => h) (Or.inl ⟨by rfl, ?_⟩) (by assumption) ?_
      rotate_left
      · intro w' hSw
        have c2 : w'.cell? ⟨wr.heap.size, 2, none⟩ = some (.int .i64 r.to) := blkc (tf_far hSw HB3.out (by decide)) 2 _ rfl
        go_simp
        try with_reducible rfl
      try simp only [Act.put, List.setIfInBounds_toArray, List.set_cons_zero, List.set_cons_succ, List.getElem_toArray, List.getElem_cons_succ, List.getElem_cons_zero]
      refine wpAnyH_ready (rs := [8]) (by kernel_rfl) (by simp) ?_
      refine AllReadyH.cons rfl (fun K hK => ?_) AllReadyH.nil
      go_simp
      refine (within_any r.fr _ (by omega)).mono ?_
      rintro e w6 ⟨rfl, rfl⟩
      refine hK.out _ _ (hHeld) (fun hHeld2 => ?_)
      clear hK K hHeld
      rename_i hHeld2
      have hHeld := hHeld2
      clear hHeld2
      try simp only [Act.put, List.setIfInBounds_toArray, List.set_cons_zero, List.set_cons_succ, List.getElem_toArray, List.getElem_cons_succ, List.getElem_cons_zero]
      refine wpAnyH_take (i := 9) (v := ?_) rfl (by kernel_rfl) (by kernel_rfl) (by kernel_rfl) (fun _ _ _ h => h) (Or.inl ⟨by rfl, ?_⟩) (by assumption) ?_
      rotate_left
      · intro w' hSw
        go_simp
        try with_reducible rfl
      try simp only [Act.put, List.setIfInBounds_toArray, List.set_cons_zero, List.set_cons_succ, List.getElem_toArray, List.getElem_cons_succ, List.getElem_cons_zero]
      refine wpAnyH_ready (rs := [13]) (by kernel_rfl) (by simp) ?_
      refine AllReadyH.cons rfl (fun K hK => ?_) AllReadyH.nil
      go_simp
      refine (within_any r.to _ (by omega)).mono ?_
      rintro e w6 ⟨rfl, rfl⟩
      refine hK.out _ _ (hHeld) (fun hHeld2 => ?_)
      clear hK K hHeld
      rename_i hHeld2
      have hHeld := hHeld2
      clear hHeld2
      try simp only [Act.put, List.setIfInBounds_toArray, List.set_cons_zero, List.set_cons_succ, List.getElem_toArray, List.getElem_cons_succ, List.getElem_cons_zero]
      refine wpAnyH_take (i := 14) (v := ?_) rfl (by kernel_rfl) (by kernel_rfl) (by kernel_rfl) (fun _ _ _ h => h) (Or.inl ⟨by rfl, ?_⟩) (by assumption) ?_
      rotate_left
      · intro w' hSw
        go_simp
        try with_reducible rfl
      try simp only [Act.put, List.setIfInBounds_toArray, List.set_cons_zero, List.set_cons_succ, List.getElem_toArray, List.getElem_cons_succ, List.getElem_cons_zero]
      refine wpAnyH_ready (rs := [15]) (by kernel_rfl) (by simp) ?_
      refine AllReadyH.cons rfl (fun K hK => ?_) AllReadyH.nil
      go_simp
      refine (gather_any r (i : Int) L (.slice A5 L.length c5) (max a (withD r.fr)) (min b (withD r.to)) w _ HW.out (ff4 HF.out (ff4 HF3.out (Fr.drew _ _))) (HO.out.kept (ff4 HF3.out (Fr.drew _ _))) (by omega) HSr.out (by omega) (by omega) (by omega)).mono ?_
      rintro e w7 ⟨v9, rfl, ho9, ht9⟩
      obtain ⟨A9, c9, rfl⟩ := ho9.slice
      refine hK.out _ _ (tf_trans hHeld ht9) (fun hHeld2 => ?_)
      clear hK K hHeld
      rename_i hHeld2
      have hHeld := hHeld2
      clear hHeld2
      have HO9 := Lib.hid ho9
      clear ho9 ht9
      try simp only [Act.put, List.setIfInBounds_toArray, List.set_cons_zero, List.set_cons_succ, List.getElem_toArray, List.getElem_cons_succ, List.getElem_cons_zero]
      refine wpAnyH_take (i := 16) (v := ?_) rfl (by kernel_rfl) (by kernel_rfl) (by kernel_rfl) (fun _ _ _ h => h) (Or.inl ⟨by rfl, ?_⟩) (by assumption) ?_
      rotate_left
      · intro w' hSw
        go_simp
        try with_reducible rfl
      try simp only [Act.put, List.setIfInBounds_toArray, List.set_cons_zero, List.set_cons_succ, List.getElem_toArray, List.getElem_cons_succ, List.getElem_cons_zero]
      refine wpAnyH_done (by kernel_rfl) ?_ _
      have HF9 := Lib.hid (tf_low (ff4 HF.out HF3.out) hHeld)
      clear hHeld
      go_wp2_with fail
      go_roundg (l.length - (i + 1))
      case measure => omega
      case rel => exact ⟨i + 1, by omega, by go_num, by rw [HN.out, ← List.length_append]; exact HO9.out, HF9.out⟩
    · obtain rfl : i = l.length := by omega
      have HQ := Lib.hid (sort_any L (.slice A5 L.length c5) w.heap.size wr HO.out (by omega))
      go_wp2_with fail
      refine HQ.out.mono ?_
      rintro e w2 ⟨rfl, d, hp, hs, ho2, hf2⟩
      have hdl : d.length = L.length := hp.length_eq
      have HF2 := Lib.hid (HF.out.fresh hf2 fun i e => (own_block HO.out e.symm).1)
      rw [← HLv.out] at hp
      have HE := Lib.hid (markH_from (sort_years hp hs))
      have HB := Lib.hid (setB_any l A cap d (.slice A5 L.length c5) w w2 HW.out HF2.out HL.out (by omega) HRr.out ho2 (by omega) (fun f hf => by
        obtain ⟨k, r, -, h1, -, -, h4, h5⟩ := allG_mem.1 (hp.mem_iff.1 hf)
        have hla := atR_lasts h4
        unfold lasts at hla
        exact ⟨⟨hla.2.2.1, hla.2.2.2⟩, k, r, h1, by rw [h5]⟩))
      clear hp hs ho2 hf2 hdl
      go_wp2_with fail
      refine HB.out.mono ?_
      rintro e w3 ⟨rfl, ho3, hf3⟩
      have HO3 := Lib.hid ho3
      have HF3 := Lib.hid hf3
      clear ho3 hf3
      go_wp2_with fail
      go_ret
      exact ⟨_, rfl, by rw [← HE.out]; exact HO3.out, HF3.out⟩
end Go.Proofs.YtbkjafaijkmpfaaDoor
namespace Go.Proofs.YtbkjafaijkmpfaaDoor
open Go.RowKit Go.Mem Go.Lin Go.Xpd

theorem xYear_any (l : List RuleL) (A : Option Addr) (cap : Nat) (y : Int) (w : World) (hw : S6.WOk w) (hl : RusAt w A l) (hn : l.length ≤ 8) (hr : ∀ r ∈ l, OkF r ∧ RuR r) (hy : -20000 ≤ y ∧ y ≤ 20000) :
    Calls Tryd.prog 13 #[.slice A l.length cap, intV y] w fun e w' => ∃ v, e = .returned v ∧ XFires w' w.heap.size v (fromD l y y) ∧ Fr w w' (fun _ => False) := by
  have HQ := Lib.hid (xFrom_any l A cap y y w hw hl hn hr (by omega) hy (by omega))
  clear hw hl hr
  go_enter Tryd.func13, Tryd.ntmps13
  go_wp2_with fail
  refine HQ.out.mono ?_
  rintro e w2 ⟨v, rfl, ho, hf⟩
  obtain ⟨A2, c2, rfl⟩ := ho.slice
  have HO := Lib.hid ho
  have HF := Lib.hid hf
  clear ho hf
  go_wp2_with fail
  go_ret
  exact ⟨_, rfl, HO.out, HF.out⟩
set_option maxHeartbeats 1600000 in
theorem xInst_any (l : List RuleL) (A : Option Addr) (cap : Nat) (f : FireL) (off : Int) (w : World) (hl : RusAt w A l) (_hn : l.length ≤ 8) (hf : -1000000000000000 ≤ f.at_ ∧ f.at_ ≤ 1000000000000000) (ho : -100000 ≤ off ∧ off ≤ 100000) (hb : -100000 ≤ f.bef ∧ f.bef ≤ 100000) :
    Calls Tryd.prog 16 #[.slice A l.length cap, fireV f, intV off] w fun e w' => e = .returned (intV (instD l f off)) ∧ Fr w w' (fun _ => False) := by
  obtain ⟨i, y, a, b⟩ := f
  obtain ⟨f1, f2⟩ : -1000000000000000 ≤ a ∧ a ≤ 1000000000000000 := hf
  obtain ⟨b1, b2⟩ : -100000 ≤ b ∧ b ≤ 100000 := hb
  have HF := Lib.hid (Fr.new w (.cells #[intV i, intV y, intV a, intV b] 36) (fun _ => False))
  have HL := Lib.hid (hl.kept HF.out)
  unfold fireV fireC
  dsimp only
  clear hl
  by_cases hi : i < 0
  · have HE := Lib.hid (show instD l ⟨i, y, a, b⟩ off = 0 from if_neg (by show ¬ (0 ≤ i); omega))
    go_enter Tryd.func16, Tryd.ntmps16
    go_wp2_with fail
    go_ret
    exact ⟨by rw [HE.out]; rfl, HF.out⟩
  · by_cases hg : (l.length : Int) ≤ i
    · have HE := Lib.hid (show instD l ⟨i, y, a, b⟩ off = 0 by
        unfold instD
        rw [if_pos (by show 0 ≤ i; omega)]
        show (match l[i.toNat]? with | none => _ | some r => _) = _
        rw [List.getElem?_eq_none (by omega)])
      go_enter Tryd.func16, Tryd.ntmps16
      go_wp2_with fail
      go_ret
      exact ⟨by rw [HE.out]; rfl, HF.out⟩
    · obtain ⟨k, rfl⟩ : ∃ k : Nat, i = k := ⟨i.toNat, by omega⟩
      have hk : k < l.length := by omega
      obtain ⟨r, hri⟩ : ∃ r, l[k]? = some r := ⟨l[k], List.getElem?_eq_getElem hk⟩
      obtain ⟨bk, o, hA, hc⟩ := HL.out.at_ hri
      subst hA
      have k0 : (k : Int) < (l.length : Int) := by omega
      have HE := Lib.hid (show instD l ⟨k, y, a, b⟩ off = if r.at_.k = 0 then a - off - b else if r.at_.k = 1 then a - off else a by
        unfold instD
        rw [if_pos (by show (0 : Int) ≤ (k : Int); omega)]
        show (match l[(k : Int).toNat]? with | none => _ | some r => _) = _
        rw [Int.toNat_natCast, hri])
      have c8 : (w.alloc (.cells #[intV k, intV y, intV a, intV b] 36)).cell? ⟨bk, o + k * 11 + 8, none⟩ = some (.int .i64 r.at_.k) := hc 8 (show 8 < 11 by decide)
      have hbk : bk < w.heap.size + 1 := by
        have := World.block_lt_of_cell? _ _ c8
        simpa using this
      clear hc hri hi hg
      by_cases h0 : r.at_.k = 0
      · rw [if_pos h0] at HE
        rw [h0] at c8
        go_enter Tryd.func16, Tryd.ntmps16
        go_wp2_with fail
        go_ret
        exact ⟨by rw [HE.out]; rfl, HF.out⟩
      · rw [if_neg h0] at HE
        by_cases h1 : r.at_.k = 1
        · rw [if_pos h1] at HE
          rw [h1] at c8
          go_enter Tryd.func16, Tryd.ntmps16
          go_wp2_with fail
          go_ret
          exact ⟨by rw [HE.out]; rfl, HF.out⟩
        · rw [if_neg h1] at HE
          have h0 : (r.at_.k == 0) = false := beq_eq_false_iff_ne.2 h0
          have h1 : (r.at_.k == 1) = false := beq_eq_false_iff_ne.2 h1
          go_enter Tryd.func16, Tryd.ntmps16
          go_wp2_with fail
          go_ret
          exact ⟨by rw [HE.out]; rfl, HF.out⟩
end Go.Proofs.YtbkjafaijkmpfaaDoor
namespace Go.Mem
open Go.RowKit
section
variable {P : Program} {ops : Array Oper} {rest : List Oper} {o : Oper} {a : Act} {w : World} {Q : Exit → Act → World → Prop}
/-- two structs are told apart: in a region that draws its order, and in a plain one -/
theorem yields_neq {S : World → Prop} {t : TypeId} {x y : Operand} {z : TypeId} {cs ds : Array Value} {b : Bool} (hgd : Region.wanted o (yielded ops a.tmps) = true) (ho : o.op = .binOp .neq t x y z) (hx : a.eval x = .agg cs) (hy : a.eval y = .agg ds)
    (hg : ∀ w, (eqGuard .neq t x y (.agg cs) (.agg ds)).run P w = .ok () w) (h : ∀ w, (binOp .neq t (.agg cs) (.agg ds)).run P w = .ok (.bool b) w) : YieldsIf P ops S o (.bool b) a :=
  .inl ⟨hgd, fun w _ => by
    unfold execOp
    simp only [ho, hx, hy, Sem.run_bind, hg, h, Result.andThen_ok, Sem.run_pure]⟩
end
end Go.Mem
namespace Go.Proofs.YtbkjafaijkmpfaaDoor
open Go.RowKit Go.Mem Go.Lin Go.Dcm
end Go.Proofs.YtbkjafaijkmpfaaDoor
namespace Go.Proofs.YtbkjafaijkmpfaaDoor
open Go.RowKit Go.Mem Go.Lin Go.Xpd

theorem yYear_any (l : List RuleL) (A : Option Addr) (cap : Nat) (y : Int) (w : World) (hl : RusAt w A l) (hn : l.length ≤ 1000) (hr : ∀ r ∈ l, OkR r) (hy : -1000000 ≤ y ∧ y ≤ 1000000) :
    Calls Tryd.prog 14 #[.slice A l.length cap, intV y] w fun e w' => ∃ v, e = .returned v ∧ FiresAt w' w.heap.size v (fromD l y y) ∧ Fr w w' (fun _ => False) := by
  have HF := Lib.hid (from_any l A cap y y w hl hn hr hy hy (by omega))
  clear hl hr
  go_enter Tryd.func14, Tryd.ntmps14
  go_wp2_with fail
  refine HF.out.mono ?_
  rintro e w2 ⟨v, rfl, ho, hf⟩
  have HO := Lib.hid ho
  have HF2 := Lib.hid hf
  clear ho hf
  go_wp2_with fail
  go_ret
  exact ⟨_, rfl, HO.out, HF2.out⟩
theorem eqI64 (d : Nat) (a b : Int) (w : World) : (Op.equalIn (d + 1) 2 (intV a) (intV b)).run Tryd.prog w = .ok (decide (a = b)) w := run_equalIn_int w d 2 .i64 .i64 a b Tryd.underlying2
theorem eq_fire (d : Nat) (a b : FireL) (w : World) : (Op.equalIn (d + 2) 47 (fireV a) (fireV b)).run Tryd.prog w = .ok (decide (a = b)) w := by
  have hS : Tryd.prog.underlying 47 = some (.struct (Tryd.prog.fieldsOf 47)) := by kernel_rfl
  have hp : Tryd.prog.stoodInHeld 47 = false := by kernel_rfl
  rw [run_equalIn_agg w (d + 1) 47 _ _ hS hp]
  simp only [Program.fieldsOf, Tryd.underlying47]
  refine Eq.trans (eqF_cons (x := intV a.i) (y := intV b.i) (by decide) (by kernel_rfl) (by kernel_rfl) (eqI d a.i b.i w) (eqF_cons (x := intV a.y) (y := intV b.y) (by decide) (by kernel_rfl) (by kernel_rfl) (eqI d a.y b.y w) (eqF_cons (x := intV a.at_) (y := intV b.at_) (by decide) (by kernel_rfl) (by kernel_rfl) (eqI64 d a.at_ b.at_ w) (eqF_cons (x := intV a.bef) (y := intV b.bef) (by decide) (by kernel_rfl) (by kernel_rfl) (eqI d a.bef b.bef w) eqF_nil)))) ?_
  rcases a with ⟨a0, a1, a2, a3⟩
  rcases b with ⟨b0, b1, b2, b3⟩
  simp [FireL.mk.injEq]
theorem neq_fire (a b : FireL) (w : World) : (binOp .neq 47 (fireV a) (fireV b)).run Tryd.prog w = .ok (.bool (decide (a ≠ b))) w := by
  have h := eq_fire 9998 a b w
  simp only [binOp]
  simp [Op.equal, Op.maxDepth, h]
theorem guard_fire (x y : Operand) (cs ds : Array Value) : ∀ w, (eqGuard .neq 47 x y (.agg cs) (.agg ds)).run Tryd.prog w = .ok () w := fun _ => by kernel_rfl
set_option maxRecDepth 100000 in
theorem Same_any (F G : List FireL) (A B : Option Addr) (c d : Nat) (w : World) (hF : Rd w 4 A F.length (F.flatMap fireL)) (hG : Rd w 4 B G.length (G.flatMap fireL)) (hb : F.length ≤ 1000000) :
    Calls Tryd.prog 9 #[.slice A F.length c, .slice B G.length d] w fun e w' => e = .returned (.bool (decide (F = G))) ∧ Fr w w' (fun _ => False) := by
  have HRF := Lib.hid hF
  have HRG := Lib.hid hG
  clear hF hG
  by_cases hl : F.length = G.length
  · have e0 : ((F.length : Int) == (G.length : Int)) = true := by rw [hl]; exact beq_self_eq_true _
    have HL := Lib.hid hl
    clear hl
    go_enter Tryd.func9, Tryd.ntmps9
    go_wp2_with fail
    clear e0
    have hl := HL.out
    go_loopg [5] F.length (fun k v5 wr => ∃ i : Nat, i + k = F.length ∧ v5 = intV i ∧ F.take i = G.take i ∧ Fr w wr (fun _ => False))
    case atStart => exact ⟨0, by simp, rfl, rfl, Fr.refl _ _⟩
    case round =>
      obtain ⟨i, hi, rfl, hp, hf⟩ := hrel
      have HF := Lib.hid hf
      have HP := Lib.hid hp
      by_cases hlt : i < F.length
      · have hlt2 : i < G.length := by omega
        obtain ⟨f, hfv⟩ : ∃ f, F[i]? = some f := ⟨F[i], List.getElem?_eq_getElem hlt⟩
        obtain ⟨g, hgv⟩ : ∃ g, G[i]? = some g := ⟨G[i], List.getElem?_eq_getElem hlt2⟩
        obtain ⟨b1, o1, hA, hc1⟩ := FiresAt.at_ (Rd.fr HRF.out hf (fun _ _ _ _ h => h)) hfv
        obtain ⟨b2, o2, hB, hc2⟩ := FiresAt.at_ (Rd.fr HRG.out hf (fun _ _ _ _ h => h)) hgv
        subst hA hB
        have HC1 := Lib.hid hc1
        have HC2 := Lib.hid hc2
        have i1 : (i : Int) < (F.length : Int) := by omega
        have i2 : (i : Int) < (G.length : Int) := by omega
        clear hf hp hc1 hc2
        by_cases hfg : f = g
        · have HQ := Lib.hid (fun w => (neq_fire f g w).trans (by rw [decide_eq_false (not_not_intro hfg)]))
          have HN := Lib.hid (show F.take (i + 1) = G.take (i + 1) by rw [List.take_add_one, List.take_add_one, hfv, hgv, HP.out, hfg])
          clear hfv hgv hfg
          go_wp2_with fail
          refine wp_region_held_drew (S := fun w' => Fr wr w' (fun _ => False)) (by kernel_rfl) (Fr.drew wr _) (fun hHeld => ?_)
          refine wpAnyH_take (i := 0) (v := ?_) rfl (by kernel_rfl) (by kernel_rfl) (by kernel_rfl) (fun _ _ _ h => h) (Or.inl ⟨by rfl, ?_⟩) (by assumption) ?_
          rotate_left
          · intro w' hSw
            go_simp
            try with_reducible rfl
          try simp only [Act.put, List.setIfInBounds_toArray, List.set_cons_zero, List.set_cons_succ, List.getElem_toArray, List.getElem_cons_zero]
          refine wpAnyH_take (i := 1) (v := ?_) rfl (by kernel_rfl) (by kernel_rfl) (by kernel_rfl) (fun _ _ _ h => h) (Or.inl ⟨by rfl, ?_⟩) (by assumption) ?_
          rotate_left
          · intro w' hSw
            go_simp
            try with_reducible rfl
          try simp only [Act.put, List.setIfInBounds_toArray, List.set_cons_zero, List.set_cons_succ, List.getElem_toArray, List.getElem_cons_succ, List.getElem_cons_zero]
          refine wpAnyH_take (i := 2) (v := ?_) rfl (by kernel_rfl) (by kernel_rfl) (by kernel_rfl) (fun _ _ _ h => h) (Or.inl ⟨by rfl, ?_⟩) (by assumption) ?_
          rotate_left
          · intro w' hSw
            go_simp
            try with_reducible rfl
          try simp only [Act.put, List.setIfInBounds_toArray, List.set_cons_zero, List.set_cons_succ, List.getElem_toArray, List.getElem_cons_succ, List.getElem_cons_zero]
          refine wpAnyH_take (i := 3) (v := _) rfl (by kernel_rfl) (by kernel_rfl) (by kernel_rfl) (fun _ _ _ h => h) (yields_at 47 _ b1 (o1 + i * 4) (fireC f) _ (by rfl) rfl (by rfl) (fun w' h => cells_far h HC1.out (Nat.le_refl _) (fun h => h)) Tryd.underlying47 rfl (infoRF _)) (by assumption) ?_
          try simp only [Act.put, List.setIfInBounds_toArray, List.set_cons_zero, List.set_cons_succ, List.getElem_toArray, List.getElem_cons_succ, List.getElem_cons_zero]
          refine wpAnyH_take (i := 4) (v := ?_) rfl (by kernel_rfl) (by kernel_rfl) (by kernel_rfl) (fun _ _ _ h => h) (Or.inl ⟨by rfl, ?_⟩) (by assumption) ?_
          rotate_left
          · intro w' hSw
            go_simp
            try with_reducible rfl
          try simp only [Act.put, List.setIfInBounds_toArray, List.set_cons_zero, List.set_cons_succ, List.getElem_toArray, List.getElem_cons_succ, List.getElem_cons_zero]
          refine wpAnyH_take (i := 5) (v := ?_) rfl (by kernel_rfl) (by kernel_rfl) (by kernel_rfl) (fun _ _ _ h => h) (Or.inl ⟨by rfl, ?_⟩) (by assumption) ?_
          rotate_left
          · intro w' hSw
            go_simp
            try with_reducible rfl
          try simp only [Act.put, List.setIfInBounds_toArray, List.set_cons_zero, List.set_cons_succ, List.getElem_toArray, List.getElem_cons_succ, List.getElem_cons_zero]
          refine wpAnyH_take (i := 6) (v := ?_) rfl (by kernel_rfl) (by kernel_rfl) (by kernel_rfl) (fun _ _ _ h => h) (Or.inl ⟨by rfl, ?_⟩) (by assumption) ?_
          rotate_left
          · intro w' hSw
            go_simp
            try with_reducible rfl
          try simp only [Act.put, List.setIfInBounds_toArray, List.set_cons_zero, List.set_cons_succ, List.getElem_toArray, List.getElem_cons_succ, List.getElem_cons_zero]
          refine wpAnyH_take (i := 7) (v := _) rfl (by kernel_rfl) (by kernel_rfl) (by kernel_rfl) (fun _ _ _ h => h) (yields_at 47 _ b2 (o2 + i * 4) (fireC g) _ (by rfl) rfl (by rfl) (fun w' h => cells_far h HC2.out (Nat.le_refl _) (fun h => h)) Tryd.underlying47 rfl (infoRF _)) (by assumption) ?_
          try simp only [Act.put, List.setIfInBounds_toArray, List.set_cons_zero, List.set_cons_succ, List.getElem_toArray, List.getElem_cons_succ, List.getElem_cons_zero]
          refine wpAnyH_take (i := 8) (v := _) rfl (by kernel_rfl) (by kernel_rfl) (by kernel_rfl) (fun _ _ _ h => h) (yields_neq (by rfl) rfl (by rfl) (by rfl) (guard_fire _ _ _ _) HQ.out) (by assumption) ?_
          try simp only [Act.put, List.setIfInBounds_toArray, List.set_cons_zero, List.set_cons_succ, List.getElem_toArray, List.getElem_cons_succ, List.getElem_cons_zero]
          refine wpAnyH_done (by kernel_rfl) ?_ _
          go_wp2_with fail
          go_roundg (F.length - (i + 1))
          case measure => omega
          case rel => exact ⟨i + 1, by omega, by go_num, HN.out, ff4 HF.out hHeld⟩
        · have HQ := Lib.hid (fun w => (neq_fire f g w).trans (by rw [decide_eq_true hfg]))
          have HN := Lib.hid (show F ≠ G from fun e => hfg (by rw [e, hgv] at hfv; exact (Option.some.inj hfv).symm))
          clear hfv hgv hfg
          go_wp2_with fail
          refine wp_region_held_drew (S := fun w' => Fr wr w' (fun _ => False)) (by kernel_rfl) (Fr.drew wr _) (fun hHeld => ?_)
          refine wpAnyH_take (i := 0) (v := ?_) rfl (by kernel_rfl) (by kernel_rfl) (by kernel_rfl) (fun _ _ _ h => h) (Or.inl ⟨by rfl, ?_⟩) (by assumption) ?_
          rotate_left
          · intro w' hSw
            go_simp
            try with_reducible rfl
          try simp only [Act.put, List.setIfInBounds_toArray, List.set_cons_zero, List.set_cons_succ, List.getElem_toArray, List.getElem_cons_zero]
          refine wpAnyH_take (i := 1) (v := ?_) rfl (by kernel_rfl) (by kernel_rfl) (by kernel_rfl) (fun _ _ _ h => h) (Or.inl ⟨by rfl, ?_⟩) (by assumption) ?_
          rotate_left
          · intro w' hSw
            go_simp
            try with_reducible rfl
          try simp only [Act.put, List.setIfInBounds_toArray, List.set_cons_zero, List.set_cons_succ, List.getElem_toArray, List.getElem_cons_succ, List.getElem_cons_zero]
          refine wpAnyH_take (i := 2) (v := ?_) rfl (by kernel_rfl) (by kernel_rfl) (by kernel_rfl) (fun _ _ _ h => h) (Or.inl ⟨by rfl, ?_⟩) (by assumption) ?_
          rotate_left
          · intro w' hSw
            go_simp
            try with_reducible rfl
          try simp only [Act.put, List.setIfInBounds_toArray, List.set_cons_zero, List.set_cons_succ, List.getElem_toArray, List.getElem_cons_succ, List.getElem_cons_zero]
          refine wpAnyH_take (i := 3) (v := _) rfl (by kernel_rfl) (by kernel_rfl) (by kernel_rfl) (fun _ _ _ h => h) (yields_at 47 _ b1 (o1 + i * 4) (fireC f) _ (by rfl) rfl (by rfl) (fun w' h => cells_far h HC1.out (Nat.le_refl _) (fun h => h)) Tryd.underlying47 rfl (infoRF _)) (by assumption) ?_
          try simp only [Act.put, List.setIfInBounds_toArray, List.set_cons_zero, List.set_cons_succ, List.getElem_toArray, List.getElem_cons_succ, List.getElem_cons_zero]
          refine wpAnyH_take (i := 4) (v := ?_) rfl (by kernel_rfl) (by kernel_rfl) (by kernel_rfl) (fun _ _ _ h => h) (Or.inl ⟨by rfl, ?_⟩) (by assumption) ?_
          rotate_left
          · intro w' hSw
            go_simp
            try with_reducible rfl
          try simp only [Act.put, List.setIfInBounds_toArray, List.set_cons_zero, List.set_cons_succ, List.getElem_toArray, List.getElem_cons_succ, List.getElem_cons_zero]
          refine wpAnyH_take (i := 5) (v := ?_) rfl (by kernel_rfl) (by kernel_rfl) (by kernel_rfl) (fun _ _ _ h => h) (Or.inl ⟨by rfl, ?_⟩) (by assumption) ?_
          rotate_left
          · intro w' hSw
            go_simp
            try with_reducible rfl
          try simp only [Act.put, List.setIfInBounds_toArray, List.set_cons_zero, List.set_cons_succ, List.getElem_toArray, List.getElem_cons_succ, List.getElem_cons_zero]
          refine wpAnyH_take (i := 6) (v := ?_) rfl (by kernel_rfl) (by kernel_rfl) (by kernel_rfl) (fun _ _ _ h => h) (Or.inl ⟨by rfl, ?_⟩) (by assumption) ?_
          rotate_left
          · intro w' hSw
            go_simp
            try with_reducible rfl
          try simp only [Act.put, List.setIfInBounds_toArray, List.set_cons_zero, List.set_cons_succ, List.getElem_toArray, List.getElem_cons_succ, List.getElem_cons_zero]
          refine wpAnyH_take (i := 7) (v := _) rfl (by kernel_rfl) (by kernel_rfl) (by kernel_rfl) (fun _ _ _ h => h) (yields_at 47 _ b2 (o2 + i * 4) (fireC g) _ (by rfl) rfl (by rfl) (fun w' h => cells_far h HC2.out (Nat.le_refl _) (fun h => h)) Tryd.underlying47 rfl (infoRF _)) (by assumption) ?_
          try simp only [Act.put, List.setIfInBounds_toArray, List.set_cons_zero, List.set_cons_succ, List.getElem_toArray, List.getElem_cons_succ, List.getElem_cons_zero]
          refine wpAnyH_take (i := 8) (v := _) rfl (by kernel_rfl) (by kernel_rfl) (by kernel_rfl) (fun _ _ _ h => h) (yields_neq (by rfl) rfl (by rfl) (by rfl) (guard_fire _ _ _ _) HQ.out) (by assumption) ?_
          try simp only [Act.put, List.setIfInBounds_toArray, List.set_cons_zero, List.set_cons_succ, List.getElem_toArray, List.getElem_cons_succ, List.getElem_cons_zero]
          refine wpAnyH_done (by kernel_rfl) ?_ _
          go_wp2_with fail
          go_ret
          exact ⟨by rw [decide_eq_false HN.out]; rfl, ff4 HF.out hHeld⟩
      · obtain rfl : i = F.length := by omega
        have HN := Lib.hid (show F = G by rw [List.take_length, hl, List.take_length] at hp; exact hp)
        clear hf hp
        go_wp2_with fail
        go_ret
        exact ⟨by rw [decide_eq_true HN.out]; rfl, HF.out⟩
  · have e0 : ((F.length : Int) == (G.length : Int)) = false := by rw [beq_eq_false_iff_ne]; omega
    have HN := Lib.hid (show F ≠ G from fun e => hl (by rw [e]))
    clear hl
    go_enter Tryd.func9, Tryd.ntmps9
    go_wp2_with fail
    go_ret
    exact ⟨by rw [decide_eq_false HN.out]; rfl, Fr.refl _ _⟩
end Go.Proofs.YtbkjafaijkmpfaaDoor
namespace Go.Proofs.YtbkjafaijkmpfaaDoor
open Go.RowKit Go.Mem Go.Lin Go.Xpd

set_option maxHeartbeats 1600000 in
set_option maxRecDepth 100000 in
/-- fires as the document's -/
theorem Back_any (F : List FireL) (A : Option Addr) (c : Nat) (w : World) (hF : Rd w 4 A F.length (F.flatMap fireL)) (hb : F.length ≤ 1000000) :
    Calls Tryd.prog 10 #[.slice A F.length c] w fun e w' => ∃ v, e = .returned v ∧ FiresAt w' w.heap.size v F ∧ Fr w w' (fun _ => False) := by
  have HR := Lib.hid hF
  clear hF
  go_enter Tryd.func10, Tryd.ntmps10
  go_wp2_with fail
  go_loopg [3, 4] F.length (fun k v3 v4 wr => ∃ i : Nat, i + k = F.length ∧ v4 = intV i ∧ FiresAt wr w.heap.size v3 (F.take i) ∧ Fr w wr (fun _ => False))
  case atStart => exact ⟨0, by simp, rfl, own_none _ _ _ _ _, Fr.refl _ _⟩
  case round =>
    obtain ⟨i, hi, rfl, ho, hf⟩ := hrel
    have HF := Lib.hid hf
    have HO := Lib.hid ho
    by_cases hlt : i < F.length
    · obtain ⟨f, hfv⟩ : ∃ f, F[i]? = some f := ⟨F[i], List.getElem?_eq_getElem hlt⟩
      obtain ⟨b, off, hA, hc⟩ := FiresAt.at_ HR.out hfv
      subst hA
      have hbw : b < w.heap.size := by
        have := hc 0 (show 0 < 4 by decide)
        exact World.block_lt_of_cell? w _ (u := intV f.i) this
      have i1 : (i : Int) < (F.length : Int) := by omega
      have hcr := cells_far hf hc (Nat.le_refl _) (fun h => h)
      have c0 : wr.cell? ⟨b, off + i * 4, none⟩ = some (.int .i64 f.i) := hcr 0 (show 0 < 4 by decide)
      have c1 : wr.cell? ⟨b, off + i * 4 + 1, none⟩ = some (.int .i64 f.y) := hcr 1 (show 1 < 4 by decide)
      have c2 : wr.cell? ⟨b, off + i * 4 + 2, none⟩ = some (.int .i64 f.at_) := hcr 2 (show 2 < 4 by decide)
      have c3 : wr.cell? ⟨b, off + i * 4 + 3, none⟩ = some (.int .i64 f.bef) := hcr 3 (show 3 < 4 by decide)
      have HT := Lib.hid (show F.take (i + 1) = F.take i ++ [f] by rw [List.take_add_one, hfv]; rfl)
      clear hfv hc hcr hf ho
      go_wp2_with fail
      refine wp_region_held_drew (S := fun w' => Fr wr w' (fun i => w.heap.size ≤ i)) (by kernel_rfl) (Fr.drew wr _) (fun hHeld => ?_)
      refine wpAnyH_take (i := 0) (v := ?_) rfl (by kernel_rfl) (by kernel_rfl) (by kernel_rfl) (fun _ _ _ h => h) (Or.inl ⟨by rfl, ?_⟩) (by assumption) ?_
      rotate_left
      · intro w' hSw
        go_simp
        try with_reducible rfl
      try simp only [Act.put, List.setIfInBounds_toArray, List.set_cons_zero, List.set_cons_succ, List.getElem_toArray, List.getElem_cons_zero]
      refine wpAnyH_take (i := 1) (v := ?_) rfl (by kernel_rfl) (by kernel_rfl) (by kernel_rfl) (fun _ _ _ h => h) (Or.inl ⟨by rfl, ?_⟩) (by assumption) ?_
      rotate_left
      · intro w' hSw
        go_simp
        try with_reducible rfl
      try simp only [Act.put, List.setIfInBounds_toArray, List.set_cons_zero, List.set_cons_succ, List.getElem_toArray, List.getElem_cons_succ, List.getElem_cons_zero]
      refine wpAnyH_take (i := 2) (v := ?_) rfl (by kernel_rfl) (by kernel_rfl) (by kernel_rfl) (fun _ _ _ h => h) (Or.inl ⟨by rfl, ?_⟩) (by assumption) ?_
      rotate_left
      · intro w' hSw
        go_simp
        try with_reducible rfl
      try simp only [Act.put, List.setIfInBounds_toArray, List.set_cons_zero, List.set_cons_succ, List.getElem_toArray, List.getElem_cons_succ, List.getElem_cons_zero]
      refine wpAnyH_take (i := 3) (v := ?_) rfl (by kernel_rfl) (by kernel_rfl) (by kernel_rfl) (fun _ _ _ h => h) (Or.inl ⟨by rfl, ?_⟩) (by assumption) ?_
      rotate_left
      · intro w' hSw
        go_simp
        try with_reducible rfl
      try simp only [Act.put, List.setIfInBounds_toArray, List.set_cons_zero, List.set_cons_succ, List.getElem_toArray, List.getElem_cons_succ, List.getElem_cons_zero]
      refine wpAnyH_take (i := 4) (v := ?_) rfl (by kernel_rfl) (by kernel_rfl) (by kernel_rfl) (fun _ _ _ h => h) (Or.inl ⟨by rfl, ?_⟩) (by assumption) ?_
      rotate_left
      · intro w' hSw
        go_simp
        try with_reducible rfl
      try simp only [Act.put, List.setIfInBounds_toArray, List.set_cons_zero, List.set_cons_succ, List.getElem_toArray, List.getElem_cons_succ, List.getElem_cons_zero]
      refine wpAnyH_take (i := 5) (v := ?_) rfl (by kernel_rfl) (by kernel_rfl) (by kernel_rfl) (fun _ _ _ h => h) (Or.inl ⟨by rfl, ?_⟩) (by assumption) ?_
      rotate_left
      · intro w' hSw
        have k0 := cell_far hSw c0 (by omega)
        go_simp
        try with_reducible rfl
      try simp only [Act.put, List.setIfInBounds_toArray, List.set_cons_zero, List.set_cons_succ, List.getElem_toArray, List.getElem_cons_succ, List.getElem_cons_zero]
      refine wpAnyH_take (i := 6) (v := ?_) rfl (by kernel_rfl) (by kernel_rfl) (by kernel_rfl) (fun _ _ _ h => h) (Or.inl ⟨by rfl, ?_⟩) (by assumption) ?_
      rotate_left
      · intro w' hSw
        go_simp
        try with_reducible rfl
      try simp only [Act.put, List.setIfInBounds_toArray, List.set_cons_zero, List.set_cons_succ, List.getElem_toArray, List.getElem_cons_succ, List.getElem_cons_zero]
      refine wpAnyH_take (i := 7) (v := ?_) rfl (by kernel_rfl) (by kernel_rfl) (by kernel_rfl) (fun _ _ _ h => h) (Or.inl ⟨by rfl, ?_⟩) (by assumption) ?_
      rotate_left
      · intro w' hSw
        go_simp
        try with_reducible rfl
      try simp only [Act.put, List.setIfInBounds_toArray, List.set_cons_zero, List.set_cons_succ, List.getElem_toArray, List.getElem_cons_succ, List.getElem_cons_zero]
      refine wpAnyH_take (i := 8) (v := ?_) rfl (by kernel_rfl) (by kernel_rfl) (by kernel_rfl) (fun _ _ _ h => h) (Or.inl ⟨by rfl, ?_⟩) (by assumption) ?_
      rotate_left
      · intro w' hSw
        go_simp
        try with_reducible rfl
      try simp only [Act.put, List.setIfInBounds_toArray, List.set_cons_zero, List.set_cons_succ, List.getElem_toArray, List.getElem_cons_succ, List.getElem_cons_zero]
      refine wpAnyH_take (i := 9) (v := ?_) rfl (by kernel_rfl) (by kernel_rfl) (by kernel_rfl) (fun _ _ _ h => h) (Or.inl ⟨by rfl, ?_⟩) (by assumption) ?_
      rotate_left
      · intro w' hSw
        go_simp
        try with_reducible rfl
      try simp only [Act.put, List.setIfInBounds_toArray, List.set_cons_zero, List.set_cons_succ, List.getElem_toArray, List.getElem_cons_succ, List.getElem_cons_zero]
      refine wpAnyH_take (i := 10) (v := ?_) rfl (by kernel_rfl) (by kernel_rfl) (by kernel_rfl) (fun _ _ _ h => h) (Or.inl ⟨by rfl, ?_⟩) (by assumption) ?_
      rotate_left
      · intro w' hSw
        have k0 := cell_far hSw c1 (by omega)
        go_simp
        try with_reducible rfl
      try simp only [Act.put, List.setIfInBounds_toArray, List.set_cons_zero, List.set_cons_succ, List.getElem_toArray, List.getElem_cons_succ, List.getElem_cons_zero]
      refine wpAnyH_take (i := 11) (v := ?_) rfl (by kernel_rfl) (by kernel_rfl) (by kernel_rfl) (fun _ _ _ h => h) (Or.inl ⟨by rfl, ?_⟩) (by assumption) ?_
      rotate_left
      · intro w' hSw
        go_simp
        try with_reducible rfl
      try simp only [Act.put, List.setIfInBounds_toArray, List.set_cons_zero, List.set_cons_succ, List.getElem_toArray, List.getElem_cons_succ, List.getElem_cons_zero]
      refine wpAnyH_take (i := 12) (v := ?_) rfl (by kernel_rfl) (by kernel_rfl) (by kernel_rfl) (fun _ _ _ h => h) (Or.inl ⟨by rfl, ?_⟩) (by assumption) ?_
      rotate_left
      · intro w' hSw
        go_simp
        try with_reducible rfl
      try simp only [Act.put, List.setIfInBounds_toArray, List.set_cons_zero, List.set_cons_succ, List.getElem_toArray, List.getElem_cons_succ, List.getElem_cons_zero]
      refine wpAnyH_take (i := 13) (v := ?_) rfl (by kernel_rfl) (by kernel_rfl) (by kernel_rfl) (fun _ _ _ h => h) (Or.inl ⟨by rfl, ?_⟩) (by assumption) ?_
      rotate_left
      · intro w' hSw
        go_simp
        try with_reducible rfl
      try simp only [Act.put, List.setIfInBounds_toArray, List.set_cons_zero, List.set_cons_succ, List.getElem_toArray, List.getElem_cons_succ, List.getElem_cons_zero]
      refine wpAnyH_take (i := 14) (v := ?_) rfl (by kernel_rfl) (by kernel_rfl) (by kernel_rfl) (fun _ _ _ h => h) (Or.inl ⟨by rfl, ?_⟩) (by assumption) ?_
      rotate_left
      · intro w' hSw
        go_simp
        try with_reducible rfl
      try simp only [Act.put, List.setIfInBounds_toArray, List.set_cons_zero, List.set_cons_succ, List.getElem_toArray, List.getElem_cons_succ, List.getElem_cons_zero]
      refine wpAnyH_take (i := 15) (v := ?_) rfl (by kernel_rfl) (by kernel_rfl) (by kernel_rfl) (fun _ _ _ h => h) (Or.inl ⟨by rfl, ?_⟩) (by assumption) ?_
      rotate_left
      · intro w' hSw
        have k0 := cell_far hSw c2 (by omega)
        go_simp
        try with_reducible rfl
      try simp only [Act.put, List.setIfInBounds_toArray, List.set_cons_zero, List.set_cons_succ, List.getElem_toArray, List.getElem_cons_succ, List.getElem_cons_zero]
      refine wpAnyH_take (i := 16) (v := ?_) rfl (by kernel_rfl) (by kernel_rfl) (by kernel_rfl) (fun _ _ _ h => h) (Or.inl ⟨by rfl, ?_⟩) (by assumption) ?_
      rotate_left
      · intro w' hSw
        go_simp
        try with_reducible rfl
      try simp only [Act.put, List.setIfInBounds_toArray, List.set_cons_zero, List.set_cons_succ, List.getElem_toArray, List.getElem_cons_succ, List.getElem_cons_zero]
      refine wpAnyH_take (i := 17) (v := ?_) rfl (by kernel_rfl) (by kernel_rfl) (by kernel_rfl) (fun _ _ _ h => h) (Or.inl ⟨by rfl, ?_⟩) (by assumption) ?_
      rotate_left
      · intro w' hSw
        go_simp
        try with_reducible rfl
      try simp only [Act.put, List.setIfInBounds_toArray, List.set_cons_zero, List.set_cons_succ, List.getElem_toArray, List.getElem_cons_succ, List.getElem_cons_zero]
      refine wpAnyH_take (i := 18) (v := ?_) rfl (by kernel_rfl) (by kernel_rfl) (by kernel_rfl) (fun _ _ _ h => h) (Or.inl ⟨by rfl, ?_⟩) (by assumption) ?_
      rotate_left
      · intro w' hSw
        go_simp
        try with_reducible rfl
      try simp only [Act.put, List.setIfInBounds_toArray, List.set_cons_zero, List.set_cons_succ, List.getElem_toArray, List.getElem_cons_succ, List.getElem_cons_zero]
      refine wpAnyH_take (i := 19) (v := ?_) rfl (by kernel_rfl) (by kernel_rfl) (by kernel_rfl) (fun _ _ _ h => h) (Or.inl ⟨by rfl, ?_⟩) (by assumption) ?_
      rotate_left
      · intro w' hSw
        go_simp
        try with_reducible rfl
      try simp only [Act.put, List.setIfInBounds_toArray, List.set_cons_zero, List.set_cons_succ, List.getElem_toArray, List.getElem_cons_succ, List.getElem_cons_zero]
      refine wpAnyH_take (i := 20) (v := ?_) rfl (by kernel_rfl) (by kernel_rfl) (by kernel_rfl) (fun _ _ _ h => h) (Or.inl ⟨by rfl, ?_⟩) (by assumption) ?_
      rotate_left
      · intro w' hSw
        have k0 := cell_far hSw c3 (by omega)
        go_simp
        try with_reducible rfl
      try simp only [Act.put, List.setIfInBounds_toArray, List.set_cons_zero, List.set_cons_succ, List.getElem_toArray, List.getElem_cons_succ, List.getElem_cons_zero]
      refine wpAnyH_take (i := 21) (v := _) rfl (by kernel_rfl) (by kernel_rfl) (by kernel_rfl) (fun _ _ _ h => h) ((Or.inl ⟨by rfl, fun w' _ => by kernel_rfl⟩ : YieldsIf _ _ _ _ (.agg (fireC f)) _)) (by assumption) ?_
      try simp only [Act.put, List.setIfInBounds_toArray, List.set_cons_zero, List.set_cons_succ, List.getElem_toArray, List.getElem_cons_succ, List.getElem_cons_zero]
      refine wpAnyH_add (f := fireL) (x := f) 22 23 _ _ rfl rfl (by kernel_rfl) (by kernel_rfl) rfl rfl rfl rfl rfl (by decide) (by decide : 33 < 36) w.heap.size _ (.agg (fireC f)) (fireC f) rfl (HO.out.kept (Fr.drew wr _)) rfl (fun w => by kernel_rfl) rfl (fireL_one f) _ 32 Tryd.underlying26 info_rfire rfl (by decide) rfl (by rw [List.length_take]; omega) (by decide) (Fr.drew wr (fun _ => False) |> fun h => Nat.le_trans HF.out.size h.size) (fun W hf => (Fr.drew wr _).trans hf (fun _ _ h => h) (fun g _ h => (own_block HO.out h.symm).1)) ?_
      intro v9 v0 W9 hS9 ho9 hf9
      clear hHeld
      try simp only [Act.put, List.setIfInBounds_toArray, List.set_cons_zero, List.set_cons_succ, List.getElem_toArray, List.getElem_cons_succ, List.getElem_cons_zero]
      refine wpAnyH_take (i := 24) (v := ?_) rfl (by kernel_rfl) (by kernel_rfl) (by kernel_rfl) (fun _ _ _ h => h) (Or.inl ⟨by rfl, ?_⟩) (by assumption) ?_
      rotate_left
      · intro w' hSw
        go_simp
        try with_reducible rfl
      try simp only [Act.put, List.setIfInBounds_toArray, List.set_cons_zero, List.set_cons_succ, List.getElem_toArray, List.getElem_cons_succ, List.getElem_cons_zero]
      refine wpAnyH_done (by kernel_rfl) ?_ _
      go_wp2_with fail
      go_roundg (F.length - (i + 1))
      case measure => omega
      case rel => exact ⟨i + 1, by omega, by go_num, by rw [HT.out]; exact ho9, HF.out.fresh hS9 fun _ h => h⟩
    · obtain rfl : i = F.length := by omega
      clear hf ho
      go_wp2_with fail
      go_ret
      exact ⟨_, rfl, by have := HO.out; rwa [List.take_length] at this, HF.out⟩
end Go.Proofs.YtbkjafaijkmpfaaDoor
namespace Go.Proofs.YtbkjafaijkmpfaaDoor
open Go.RowKit Go.Mem Go.Lin Go.Xpd

/-- the chapter's example -/
def rEU : RuleL := ⟨[69, 85], 1981, 10000, 3, ⟨1, 0, 0⟩, ⟨3600, 2⟩, 3600, [83]⟩
def fEU : FireL := ⟨0, 2024, 1711846800, 3600⟩
theorem eu_at : atR rEU 2024 = some 1711846800 ∧ ∃ a, atR rEU 2023 = some a := ⟨by decide, _, rfl⟩
theorem eu_ok : OkF rEU ∧ RuR rEU := ⟨by decide, ⟨by unfold maxLen; decide, by unfold inR; decide, by unfold inR; decide, by unfold inR; decide, by unfold inR; decide, by unfold inR; decide, by unfold inR; decide, by unfold inR; decide, by unfold inR; decide, by unfold inR; decide, by unfold maxLen; decide⟩⟩
theorem eu_2024 : fromD [rEU] 2024 2024 = [fEU] := by
  obtain ⟨h1, a, h2⟩ := eu_at
  have y1 : yearD [rEU] 2023 = [⟨0, 2023, a, 0⟩] := by rw [year_one, h2]
  have y2 : yearD [rEU] 2024 = [⟨0, 2024, 1711846800, 0⟩] := by rw [year_one, h1]
  rw [from_year (by omega), y2]
  have hb : befY [rEU] 2024 = savD [rEU] 0 := befY_some (l := [rEU]) (y := 2023) (f := ⟨0, 2023, a, 0⟩) (by rw [y1]; rfl)
  rw [hb]
  rfl
theorem eu_1980 : fromD [rEU] 1980 1980 = [] := by
  rw [from_year (by omega), show yearD [rEU] 1980 = [] by rw [year_one]; decide]
  rfl
set_option maxHeartbeats 1600000 in
set_option maxRecDepth 100000 in
theorem alive_any (w : World) (hw : S6.WOk w) : Calls Tryd.prog 8 #[] w fun e w' => e = .returned (.bool true) ∧ Fr w w' (fun _ => False) := by
  have HW := Lib.hid hw
  have HF1 := Lib.hid (Fr.new w (.cells (ruleC rEU) 42) (fun _ => False))
  have HD := Lib.hid (fun W (f : Fr w W (fun _ => False)) => Go.Proofs.YtbkjafaijkmpfaaDoor.S6.Days_any 2024 3 31 W (hw.fr f).lok)
  have hrd : RusAt (w.alloc (.cells (ruleC rEU) 42)) (some ⟨w.heap.size, 0, none⟩) [rEU] := rd_made w 42 (ruleC rEU)
  have HR1 := Lib.hid hrd
  have HY := Lib.hid (xYear_any [rEU] (some ⟨w.heap.size, 0, none⟩) 1 2024 _ (hw.fr HF1.out) hrd (by decide) (fun r hr => by rw [List.mem_singleton.1 hr]; exact eu_ok) (by decide))
  rw [eu_2024] at HY
  clear hw hrd
  go_enter Tryd.func8, Tryd.ntmps8
  go_wp2_with fail
  refine HY.out.mono ?_
  rintro e w2 ⟨v, rfl, ho, hf⟩
  obtain ⟨A2, k2, hv, -, -, hrd2⟩ := ho.rd
  have hv : v = .slice A2 1 k2 := hv
  subst hv
  obtain ⟨b2, o2, hA, hc⟩ := FiresAt.at_ hrd2 (i := 0) (f := fEU) rfl
  subst hA
  have HF2 := Lib.hid (ff4 HF1.out hf)
  have HR2 := Lib.hid (HR1.out.kept hf)
  have c0 : w2.cell? ⟨b2, o2, none⟩ = some (.int .i64 0) := hc 0 (show 0 < 4 by decide)
  have c1 : w2.cell? ⟨b2, o2 + 1, none⟩ = some (.int .i64 2024) := hc 1 (show 1 < 4 by decide)
  have c2 : w2.cell? ⟨b2, o2 + 2, none⟩ = some (.int .i64 1711846800) := hc 2 (show 2 < 4 by decide)
  have c3 : w2.cell? ⟨b2, o2 + 3, none⟩ = some (.int .i64 3600) := hc 3 (show 3 < 4 by decide)
  have HC := Lib.hid (show w2.cell? ⟨b2, o2, none⟩ = some (.int .i64 0) ∧ w2.cell? ⟨b2, o2 + 1, none⟩ = some (.int .i64 2024) ∧ w2.cell? ⟨b2, o2 + 2, none⟩ = some (.int .i64 1711846800) ∧ w2.cell? ⟨b2, o2 + 3, none⟩ = some (.int .i64 3600) from ⟨c0, c1, c2, c3⟩)
  clear hf ho hrd2 hc c0 c1 c2 c3
  go_wp2_with fail
  refine (HD.out w2 HF2.out).mono ?_
  rintro e w3 ⟨rfl, hf3⟩
  have HS0 := Lib.hid (show Fr w3 w3 (fun _ => False) ∧ w3.cell? ⟨b2, o2, none⟩ = some (.int .i64 0) ∧ w3.cell? ⟨b2, o2 + 1, none⟩ = some (.int .i64 2024) ∧ w3.cell? ⟨b2, o2 + 2, none⟩ = some (.int .i64 1711846800) ∧ w3.cell? ⟨b2, o2 + 3, none⟩ = some (.int .i64 3600) from
    ⟨Fr.refl _ _, cell_far hf3 HC.out.1 (fun h => h), cell_far hf3 HC.out.2.1 (fun h => h), cell_far hf3 HC.out.2.2.1 (fun h => h), cell_far hf3 HC.out.2.2.2 (fun h => h)⟩)
  have HF3 := Lib.hid (ff4 HF2.out hf3)
  have HR3 := Lib.hid (HR2.out.kept hf3)
  have HI := Lib.hid (fun W (f : Fr w3 W (fun _ => False)) => xInst_any [rEU] (some ⟨w.heap.size, 0, none⟩) 1 fEU 3600 W (HR3.out.kept f) (by decide) (by decide) (by decide) (by decide))
  have HZ := Lib.hid (fun W (f : Fr w3 W (fun _ => False)) => xYear_any [rEU] (some ⟨w.heap.size, 0, none⟩) 1 1980 W (HW.out.fr (ff4 HF3.out f)) (HR3.out.kept f) (by decide) (fun r hr => by rw [List.mem_singleton.1 hr]; exact eu_ok) (by decide))
  rw [eu_1980] at HZ
  rw [show instD [rEU] fEU 3600 = 1711846800 by decide] at HI
  rw [show S6.daysK 2024 3 31 = 19813 by decide, show S6.daysE 2024 3 31 = 0 by decide]
  clear hf3 HC
  go_wp2_with fail
  have hw1 : IntKind.i64.wrap 1711843200 = 1711843200 := by decide
  have hw2 : IntKind.i64.wrap 1711846800 = 1711846800 := by decide
  go_region_held3 (fun w' => Fr w3 w' (fun _ => False) ∧ w'.cell? ⟨b2, o2, none⟩ = some (.int .i64 0) ∧ w'.cell? ⟨b2, o2 + 1, none⟩ = some (.int .i64 2024) ∧ w'.cell? ⟨b2, o2 + 2, none⟩ = some (.int .i64 1711846800) ∧ w'.cell? ⟨b2, o2 + 3, none⟩ = some (.int .i64 3600))
    (first | with_reducible exact kq4 HS0.out (Fr.drew _ _) | (rename_i hS _ _; with_reducible exact kq4 hS hf5) | with_reducible exact kq4 hS hf5 | with_reducible assumption)
    (first
      | ((go_at_call 16); rename_i hS _ _; refine (HI.out _ hS.1).mono ?_; rintro e w5 ⟨rfl, hf5⟩)
      | ((go_at_call 13); rename_i hS _ _; refine (HZ.out _ hS.1).mono ?_; rintro e w5 ⟨v5, rfl, ho5, hf5⟩; obtain ⟨A5, k5, hv5, -, -, -⟩ := ho5.rd; have hv5 : v5 = .slice A5 0 k5 := hv5; subst hv5; clear ho5))
  rename_i hS
  have HE := Lib.hid (ff4 HF3.out hS.1)
  clear hS
  go_wp2_with fail
  go_ret
  exact ⟨rfl, HE.out⟩
end Go.Proofs.YtbkjafaijkmpfaaDoor
