import Derived.Test.YtgfmodfakcbgfaaDoorRti
import Derived.Test.YtgfmodfakcbgfaaDoorRea
namespace Go.Proofs.YtgfmodfakcbgfaaDoor
open Go.RowKit Go.Mem Go.Clk

theorem results_rParse (tmps : Array Value) (w : World) (q : Nat) (x y : Value) (k : Int) (h2 : tmps.getD 2 undef = .pointer (some ⟨q, 0, none⟩)) (h3 : tmps.getD 3 undef = .int .i64 k)
    (hb : Blk w q 24 #[x, y]) : (results Tryd.f10 tmps).run Tryd.prog w = .ok (.tuple #[.agg #[x, y], .int .i64 k]) w := by
  have h2' : tmps[2]?.getD undef = .pointer (some ⟨q, 0, none⟩) := by simpa using h2
  have h3' : tmps[3]?.getD undef = .int .i64 k := by simpa using h3
  have hL := load_at hb
  simp [results, Tryd.results10, h2', h3', asAddr, hL]
theorem u8_neq {c k : UInt8} {m : Int} (h : c ≠ k) (hk : (k.toNat : Int) = m) : ((c.toNat : Int) == m) = false := by
  rw [beq_eq_false_iff_ne]
  intro e
  exact h (UInt8.toNat_inj.1 (by omega))
theorem put_two {w w2 : World} (hf : Fr w w2 (fun _ => False)) {q : Nat} (hq : w.heap.size ≤ q) (x y : Value) : Fr w ((w2.setCell ⟨q, 0, none⟩ x).setCell ⟨q, 1, none⟩ y) (fun _ => False) :=
  (hf.fresh (Fr.set (S := (· = q)) (a := ⟨q, 0, none⟩) rfl) (fun i e => by omega)).fresh (Fr.set (S := (· = q)) (a := ⟨q, 1, none⟩) rfl) (fun i e => by omega)
theorem blk_two {w : World} {q : Nat} {a b : Value} (h : Blk w q 24 #[a, b]) (x y : Value) : Blk ((w.setCell ⟨q, 0, none⟩ x).setCell ⟨q, 1, none⟩ y) q 24 #[x, y] :=
  (h.put' (cs' := #[x, b]) 0 x (by simp)).put' 1 y (by simp)
theorem read_some {n : Int} {k : Nat} {j : Int} (hj : j = (k : Int)) {w w' : World} (h : Fr w w' (fun _ => False)) : ReadA (some (n, k)) w (.returned (.tuple #[.agg #[.int .i64 n, .int .i64 j], .int .i64 0])) w' := by
  subst hj
  exact ⟨h, rfl⟩
set_option maxHeartbeats 2000000 in
theorem rParse_short (l : Bs) (w : World) (hl : l.length ≤ 1) : Calls Tryd.prog 10 #[strV l] w (ReadA (rparseD l) w) := by
  have hsz := str_size l
  have hk : lastK l = none := by rw [lastK, if_neg (by omega)]
  rw [rparseD, hk]
  have HT := Lib.hid (fun W => rtime_any l W (by omega))
  have hf0 := Fr.new w (.cells #[.int .i64 0, .int .i64 0] 24) (fun _ => False)
  have HB := Lib.hid (Blk.made w 24 #[.int .i64 0, .int .i64 0])
  have HF := Lib.hid hf0
  clear hf0
  clear hk
  simp only
  generalize rtimeD l = T at HT ⊢
  have t1 : ¬ (1 : Int) < (l.length : Int) := by omega
  cases T with
  | none =>
    go_enter Tryd.func10, Tryd.ntmps10
    go_wp2_with fail
    refine (HT.out _).mono ?_
    rintro e w2 ⟨hf2, rfl⟩
    have hb2 := hf2.blk HB.out (fun h => h)
    have c0 := cell_at hb2 0
    have c1 := cell_at hb2 1
    have f0 := free_at hb2 0
    have f1 := free_at hb2 1
    simp at c0 c1
    have HF2 := Lib.hid (ff HF.out hf2)
    have HB2 := Lib.hid hb2
    clear hf2 hb2
    go_wp2_with fail
    (try simp only [Exit.inBlock, Exit.then])
    exact bodyPost_ret (results_rParse _ _ w.heap.size _ _ 7 rfl rfl (blk_two HB2.out _ _)) rfl ⟨put_two HF2.out (Nat.le_refl _) _ _, rfl⟩
  | some n =>
    go_enter Tryd.func10, Tryd.ntmps10
    go_wp2_with fail
    refine (HT.out _).mono ?_
    rintro e w2 ⟨hf2, rfl⟩
    have hb2 := hf2.blk HB.out (fun h => h)
    have c0 := cell_at hb2 0
    have c1 := cell_at hb2 1
    have f0 := free_at hb2 0
    have f1 := free_at hb2 1
    simp at c0 c1
    have HF2 := Lib.hid (ff HF.out hf2)
    have HB2 := Lib.hid hb2
    clear hf2 hb2
    go_wp2_with fail
    (try simp only [Exit.inBlock, Exit.then])
    exact bodyPost_ret (results_rParse _ _ w.heap.size _ _ 0 rfl rfl (blk_two HB2.out _ _)) rfl (read_some (k := 0) rfl (put_two HF2.out (Nat.le_refl _) _ _))
theorem last_snoc (q : Bs) (c : UInt8) (hq : q ≠ []) : lastK (q ++ [c]) = sufK c := by
  have := List.length_pos_iff.2 hq
  rw [lastK, if_pos (by simp; omega)]
  simp
set_option maxHeartbeats 4000000 in
theorem rParse_long (q : Bs) (c : UInt8) (w : World) (hq0 : q ≠ []) (hl : q.length ≤ 900) : Calls Tryd.prog 10 #[strV (q ++ [c])] w (ReadA (rparseD (q ++ [c])) w) := by
  obtain ⟨L, hL⟩ : ∃ L, L = q ++ [c] := ⟨_, rfl⟩
  rw [← hL]
  have hq1 := List.length_pos_iff.2 hq0
  have hlen : L.length = q.length + 1 := by rw [hL]; simp
  have hsz : (⟨L.toArray⟩ : ByteArray).size = q.length + 1 := by rw [str_size, hlen]
  have HLK : Hid (lastK L = sufK c) := Lib.hid (by rw [hL]; exact last_snoc q c hq0)
  have HDL : Hid (L.dropLast = q) := Lib.hid (by rw [hL]; simp)
  have e0 : (L == [45]) = false := by
    rw [beq_eq_false_iff_ne, hL]
    intro e
    have := congrArg List.length e
    simp at this
    exact hq0 this
  have hp : q.length < (⟨L.toArray⟩ : ByteArray).size := by rw [hsz]; omega
  have hget : (⟨L.toArray⟩ : ByteArray)[q.length]'hp = c := by
    subst hL
    show (q ++ [c])[q.length]'_ = c
    simp
  have hcut : (⟨L.toArray⟩ : ByteArray).extract 0 q.length = ⟨q.toArray⟩ := by
    rw [str_ext, hL]
    simp [cut]
  have t1 : (1 : Int) < (L.length : Int) := by omega
  have i0 : (0 : Int) ≤ (q.length : Int) := by omega
  have hLl : L.length ≤ 1000 := by omega
  have hf0 := Fr.new w (.cells #[.int .i64 0, .int .i64 0] 24) (fun _ => False)
  have HB := Lib.hid (Blk.made w 24 #[.int .i64 0, .int .i64 0])
  have HF := Lib.hid hf0
  clear hf0
  clear hL hq0
  by_cases h1 : c = 119
  · subst h1
    have g1 : ((((⟨L.toArray⟩ : ByteArray)[q.length]'hp).toNat : Int) == 119) = true := by rw [hget]; rfl
    clear hget
    have hk : lastK L = some 0 := by rw [HLK.out]; exact rfl
    rw [rparseD, hk]
    simp only [HDL.out]
    clear hk HLK HDL
    by_cases hq : q = [45]
    · have eq0 : (q == [45]) = true := by simpa using hq
      rw [if_pos hq]
      clear hq
      have c0 := cell_at HB.out 0
      have c1 := cell_at HB.out 1
      have f0 := free_at HB.out 0
      have f1 := free_at HB.out 1
      simp at c0 c1
      go_enter Tryd.func10, Tryd.ntmps10
      go_wp2_with fail
      (try simp only [Exit.inBlock, Exit.then])
      exact bodyPost_ret (results_rParse _ _ w.heap.size _ _ 7 rfl rfl HB.out) rfl ⟨HF.out, rfl⟩
    · have eq0 : (q == [45]) = false := by simpa using hq
      rw [if_neg hq]
      have HT := Lib.hid (fun W => rtime_any q W (by omega))
      clear hq
      generalize rtimeD q = T at HT ⊢
      cases T with
      | none =>
        go_enter Tryd.func10, Tryd.ntmps10
        go_wp2_with fail
        refine (HT.out _).mono ?_
        rintro e w2 ⟨hf2, rfl⟩
        have hb2 := hf2.blk HB.out (fun h => h)
        have c0 := cell_at hb2 0
        have c1 := cell_at hb2 1
        have f0 := free_at hb2 0
        have f1 := free_at hb2 1
        simp at c0 c1
        have HF2 := Lib.hid (ff HF.out hf2)
        have HB2 := Lib.hid hb2
        clear hf2 hb2
        go_wp2_with fail
        (try simp only [Exit.inBlock, Exit.then])
        exact bodyPost_ret (results_rParse _ _ w.heap.size _ _ 7 rfl rfl (blk_two HB2.out _ _)) rfl ⟨put_two HF2.out (Nat.le_refl _) _ _, rfl⟩
      | some n =>
        go_enter Tryd.func10, Tryd.ntmps10
        go_wp2_with fail
        refine (HT.out _).mono ?_
        rintro e w2 ⟨hf2, rfl⟩
        have hb2 := hf2.blk HB.out (fun h => h)
        have c0 := cell_at hb2 0
        have c1 := cell_at hb2 1
        have f0 := free_at hb2 0
        have f1 := free_at hb2 1
        simp at c0 c1
        have HF2 := Lib.hid (ff HF.out hf2)
        have HB2 := Lib.hid hb2
        clear hf2 hb2
        go_wp2_with fail
        (try simp only [Exit.inBlock, Exit.then])
        exact bodyPost_ret (results_rParse _ _ w.heap.size _ _ 0 rfl rfl (blk_two HB2.out _ _)) rfl (read_some (k := 0) rfl (put_two HF2.out (Nat.le_refl _) _ _))
  · by_cases h2 : c = 115
    · subst h2
      have g1 : ((((⟨L.toArray⟩ : ByteArray)[q.length]'hp).toNat : Int) == 119) = false := by rw [hget]; rfl
      have g2 : ((((⟨L.toArray⟩ : ByteArray)[q.length]'hp).toNat : Int) == 115) = true := by rw [hget]; rfl
      clear hget h1
      have hk : lastK L = some 1 := by rw [HLK.out]; exact rfl
      rw [rparseD, hk]
      simp only [HDL.out]
      clear hk HLK HDL
      by_cases hq : q = [45]
      · have eq0 : (q == [45]) = true := by simpa using hq
        rw [if_pos hq]
        clear hq
        have c0 := cell_at HB.out 0
        have c1 := cell_at HB.out 1
        have f0 := free_at HB.out 0
        have f1 := free_at HB.out 1
        simp at c0 c1
        go_enter Tryd.func10, Tryd.ntmps10
        go_wp2_with fail
        (try simp only [Exit.inBlock, Exit.then])
        exact bodyPost_ret (results_rParse _ _ w.heap.size _ _ 7 rfl rfl HB.out) rfl ⟨HF.out, rfl⟩
      · have eq0 : (q == [45]) = false := by simpa using hq
        rw [if_neg hq]
        have HT := Lib.hid (fun W => rtime_any q W (by omega))
        clear hq
        generalize rtimeD q = T at HT ⊢
        cases T with
        | none =>
          go_enter Tryd.func10, Tryd.ntmps10
          go_wp2_with fail
          refine (HT.out _).mono ?_
          rintro e w2 ⟨hf2, rfl⟩
          have hb2 := hf2.blk HB.out (fun h => h)
          have c0 := cell_at hb2 0
          have c1 := cell_at hb2 1
          have f0 := free_at hb2 0
          have f1 := free_at hb2 1
          simp at c0 c1
          have HF2 := Lib.hid (ff HF.out hf2)
          have HB2 := Lib.hid hb2
          clear hf2 hb2
          go_wp2_with fail
          (try simp only [Exit.inBlock, Exit.then])
          exact bodyPost_ret (results_rParse _ _ w.heap.size _ _ 7 rfl rfl (blk_two HB2.out _ _)) rfl ⟨put_two HF2.out (Nat.le_refl _) _ _, rfl⟩
        | some n =>
          go_enter Tryd.func10, Tryd.ntmps10
          go_wp2_with fail
          refine (HT.out _).mono ?_
          rintro e w2 ⟨hf2, rfl⟩
          have hb2 := hf2.blk HB.out (fun h => h)
          have c0 := cell_at hb2 0
          have c1 := cell_at hb2 1
          have f0 := free_at hb2 0
          have f1 := free_at hb2 1
          simp at c0 c1
          have HF2 := Lib.hid (ff HF.out hf2)
          have HB2 := Lib.hid hb2
          clear hf2 hb2
          go_wp2_with fail
          (try simp only [Exit.inBlock, Exit.then])
          exact bodyPost_ret (results_rParse _ _ w.heap.size _ _ 0 rfl rfl (blk_two HB2.out _ _)) rfl (read_some (k := 1) rfl (put_two HF2.out (Nat.le_refl _) _ _))
    · have g1 : ((((⟨L.toArray⟩ : ByteArray)[q.length]'hp).toNat : Int) == 119) = false := by rw [hget]; exact u8_neq h1 rfl
      have g2 : ((((⟨L.toArray⟩ : ByteArray)[q.length]'hp).toNat : Int) == 115) = false := by rw [hget]; exact u8_neq h2 rfl
      by_cases h3 : c = 117
      · subst h3
        have g3 : ((((⟨L.toArray⟩ : ByteArray)[q.length]'hp).toNat : Int) == 117) = true := by rw [hget]; rfl
        clear hget h1 h2
        have hk : lastK L = some 2 := by rw [HLK.out]; exact rfl
        rw [rparseD, hk]
        simp only [HDL.out]
        clear hk HLK HDL
        by_cases hq : q = [45]
        · have eq0 : (q == [45]) = true := by simpa using hq
          rw [if_pos hq]
          clear hq
          have c0 := cell_at HB.out 0
          have c1 := cell_at HB.out 1
          have f0 := free_at HB.out 0
          have f1 := free_at HB.out 1
          simp at c0 c1
          go_enter Tryd.func10, Tryd.ntmps10
          go_wp2_with fail
          (try simp only [Exit.inBlock, Exit.then])
          exact bodyPost_ret (results_rParse _ _ w.heap.size _ _ 7 rfl rfl HB.out) rfl ⟨HF.out, rfl⟩
        · have eq0 : (q == [45]) = false := by simpa using hq
          rw [if_neg hq]
          have HT := Lib.hid (fun W => rtime_any q W (by omega))
          clear hq
          generalize rtimeD q = T at HT ⊢
          cases T with
          | none =>
            go_enter Tryd.func10, Tryd.ntmps10
            go_wp2_with fail
            refine (HT.out _).mono ?_
            rintro e w2 ⟨hf2, rfl⟩
            have hb2 := hf2.blk HB.out (fun h => h)
            have c0 := cell_at hb2 0
            have c1 := cell_at hb2 1
            have f0 := free_at hb2 0
            have f1 := free_at hb2 1
            simp at c0 c1
            have HF2 := Lib.hid (ff HF.out hf2)
            have HB2 := Lib.hid hb2
            clear hf2 hb2
            go_wp2_with fail
            (try simp only [Exit.inBlock, Exit.then])
            exact bodyPost_ret (results_rParse _ _ w.heap.size _ _ 7 rfl rfl (blk_two HB2.out _ _)) rfl ⟨put_two HF2.out (Nat.le_refl _) _ _, rfl⟩
          | some n =>
            go_enter Tryd.func10, Tryd.ntmps10
            go_wp2_with fail
            refine (HT.out _).mono ?_
            rintro e w2 ⟨hf2, rfl⟩
            have hb2 := hf2.blk HB.out (fun h => h)
            have c0 := cell_at hb2 0
            have c1 := cell_at hb2 1
            have f0 := free_at hb2 0
            have f1 := free_at hb2 1
            simp at c0 c1
            have HF2 := Lib.hid (ff HF.out hf2)
            have HB2 := Lib.hid hb2
            clear hf2 hb2
            go_wp2_with fail
            (try simp only [Exit.inBlock, Exit.then])
            exact bodyPost_ret (results_rParse _ _ w.heap.size _ _ 0 rfl rfl (blk_two HB2.out _ _)) rfl (read_some (k := 2) rfl (put_two HF2.out (Nat.le_refl _) _ _))
      · have g3 : ((((⟨L.toArray⟩ : ByteArray)[q.length]'hp).toNat : Int) == 117) = false := by rw [hget]; exact u8_neq h3 rfl
        by_cases h4 : c = 103
        · subst h4
          have g4 : ((((⟨L.toArray⟩ : ByteArray)[q.length]'hp).toNat : Int) == 103) = true := by rw [hget]; rfl
          clear hget h1 h2 h3
          have hk : lastK L = some 2 := by rw [HLK.out]; exact rfl
          rw [rparseD, hk]
          simp only [HDL.out]
          clear hk HLK HDL
          by_cases hq : q = [45]
          · have eq0 : (q == [45]) = true := by simpa using hq
            rw [if_pos hq]
            clear hq
            have c0 := cell_at HB.out 0
            have c1 := cell_at HB.out 1
            have f0 := free_at HB.out 0
            have f1 := free_at HB.out 1
            simp at c0 c1
            go_enter Tryd.func10, Tryd.ntmps10
            go_wp2_with fail
            (try simp only [Exit.inBlock, Exit.then])
            exact bodyPost_ret (results_rParse _ _ w.heap.size _ _ 7 rfl rfl HB.out) rfl ⟨HF.out, rfl⟩
          · have eq0 : (q == [45]) = false := by simpa using hq
            rw [if_neg hq]
            have HT := Lib.hid (fun W => rtime_any q W (by omega))
            clear hq
            generalize rtimeD q = T at HT ⊢
            cases T with
            | none =>
              go_enter Tryd.func10, Tryd.ntmps10
              go_wp2_with fail
              refine (HT.out _).mono ?_
              rintro e w2 ⟨hf2, rfl⟩
              have hb2 := hf2.blk HB.out (fun h => h)
              have c0 := cell_at hb2 0
              have c1 := cell_at hb2 1
              have f0 := free_at hb2 0
              have f1 := free_at hb2 1
              simp at c0 c1
              have HF2 := Lib.hid (ff HF.out hf2)
              have HB2 := Lib.hid hb2
              clear hf2 hb2
              go_wp2_with fail
              (try simp only [Exit.inBlock, Exit.then])
              exact bodyPost_ret (results_rParse _ _ w.heap.size _ _ 7 rfl rfl (blk_two HB2.out _ _)) rfl ⟨put_two HF2.out (Nat.le_refl _) _ _, rfl⟩
            | some n =>
              go_enter Tryd.func10, Tryd.ntmps10
              go_wp2_with fail
              refine (HT.out _).mono ?_
              rintro e w2 ⟨hf2, rfl⟩
              have hb2 := hf2.blk HB.out (fun h => h)
              have c0 := cell_at hb2 0
              have c1 := cell_at hb2 1
              have f0 := free_at hb2 0
              have f1 := free_at hb2 1
              simp at c0 c1
              have HF2 := Lib.hid (ff HF.out hf2)
              have HB2 := Lib.hid hb2
              clear hf2 hb2
              go_wp2_with fail
              (try simp only [Exit.inBlock, Exit.then])
              exact bodyPost_ret (results_rParse _ _ w.heap.size _ _ 0 rfl rfl (blk_two HB2.out _ _)) rfl (read_some (k := 2) rfl (put_two HF2.out (Nat.le_refl _) _ _))
        · have g4 : ((((⟨L.toArray⟩ : ByteArray)[q.length]'hp).toNat : Int) == 103) = false := by rw [hget]; exact u8_neq h4 rfl
          by_cases h5 : c = 122
          · subst h5
            have g5 : ((((⟨L.toArray⟩ : ByteArray)[q.length]'hp).toNat : Int) == 122) = true := by rw [hget]; rfl
            clear hget h1 h2 h3 h4
            have hk : lastK L = some 2 := by rw [HLK.out]; exact rfl
            rw [rparseD, hk]
            simp only [HDL.out]
            clear hk HLK HDL
            by_cases hq : q = [45]
            · have eq0 : (q == [45]) = true := by simpa using hq
              rw [if_pos hq]
              clear hq
              have c0 := cell_at HB.out 0
              have c1 := cell_at HB.out 1
              have f0 := free_at HB.out 0
              have f1 := free_at HB.out 1
              simp at c0 c1
              go_enter Tryd.func10, Tryd.ntmps10
              go_wp2_with fail
              (try simp only [Exit.inBlock, Exit.then])
              exact bodyPost_ret (results_rParse _ _ w.heap.size _ _ 7 rfl rfl HB.out) rfl ⟨HF.out, rfl⟩
            · have eq0 : (q == [45]) = false := by simpa using hq
              rw [if_neg hq]
              have HT := Lib.hid (fun W => rtime_any q W (by omega))
              clear hq
              generalize rtimeD q = T at HT ⊢
              cases T with
              | none =>
                go_enter Tryd.func10, Tryd.ntmps10
                go_wp2_with fail
                refine (HT.out _).mono ?_
                rintro e w2 ⟨hf2, rfl⟩
                have hb2 := hf2.blk HB.out (fun h => h)
                have c0 := cell_at hb2 0
                have c1 := cell_at hb2 1
                have f0 := free_at hb2 0
                have f1 := free_at hb2 1
                simp at c0 c1
                have HF2 := Lib.hid (ff HF.out hf2)
                have HB2 := Lib.hid hb2
                clear hf2 hb2
                go_wp2_with fail
                (try simp only [Exit.inBlock, Exit.then])
                exact bodyPost_ret (results_rParse _ _ w.heap.size _ _ 7 rfl rfl (blk_two HB2.out _ _)) rfl ⟨put_two HF2.out (Nat.le_refl _) _ _, rfl⟩
              | some n =>
                go_enter Tryd.func10, Tryd.ntmps10
                go_wp2_with fail
                refine (HT.out _).mono ?_
                rintro e w2 ⟨hf2, rfl⟩
                have hb2 := hf2.blk HB.out (fun h => h)
                have c0 := cell_at hb2 0
                have c1 := cell_at hb2 1
                have f0 := free_at hb2 0
                have f1 := free_at hb2 1
                simp at c0 c1
                have HF2 := Lib.hid (ff HF.out hf2)
                have HB2 := Lib.hid hb2
                clear hf2 hb2
                go_wp2_with fail
                (try simp only [Exit.inBlock, Exit.then])
                exact bodyPost_ret (results_rParse _ _ w.heap.size _ _ 0 rfl rfl (blk_two HB2.out _ _)) rfl (read_some (k := 2) rfl (put_two HF2.out (Nat.le_refl _) _ _))
          · have g5 : ((((⟨L.toArray⟩ : ByteArray)[q.length]'hp).toNat : Int) == 122) = false := by rw [hget]; exact u8_neq h5 rfl
            have hk : lastK L = none := by
              rw [HLK.out, sufK, if_neg h1, if_neg h2, if_neg]
              rintro (h | h | h)
              · exact h3 h
              · exact h4 h
              · exact h5 h
            rw [rparseD, hk]
            have HT := Lib.hid (fun W => rtime_any L W hLl)
            clear hk HLK HDL hget h1 h2 h3 h4 h5 hcut
            simp only
            generalize rtimeD L = T at HT ⊢
            cases T with
            | none =>
              go_enter Tryd.func10, Tryd.ntmps10
              go_wp2_with fail
              refine (HT.out _).mono ?_
              rintro e w2 ⟨hf2, rfl⟩
              have hb2 := hf2.blk HB.out (fun h => h)
              have c0 := cell_at hb2 0
              have c1 := cell_at hb2 1
              have f0 := free_at hb2 0
              have f1 := free_at hb2 1
              simp at c0 c1
              have HF2 := Lib.hid (ff HF.out hf2)
              have HB2 := Lib.hid hb2
              clear hf2 hb2
              go_wp2_with fail
              (try simp only [Exit.inBlock, Exit.then])
              exact bodyPost_ret (results_rParse _ _ w.heap.size _ _ 7 rfl rfl (blk_two HB2.out _ _)) rfl ⟨put_two HF2.out (Nat.le_refl _) _ _, rfl⟩
            | some n =>
              go_enter Tryd.func10, Tryd.ntmps10
              go_wp2_with fail
              refine (HT.out _).mono ?_
              rintro e w2 ⟨hf2, rfl⟩
              have hb2 := hf2.blk HB.out (fun h => h)
              have c0 := cell_at hb2 0
              have c1 := cell_at hb2 1
              have f0 := free_at hb2 0
              have f1 := free_at hb2 1
              simp at c0 c1
              have HF2 := Lib.hid (ff HF.out hf2)
              have HB2 := Lib.hid hb2
              clear hf2 hb2
              go_wp2_with fail
              (try simp only [Exit.inBlock, Exit.then])
              exact bodyPost_ret (results_rParse _ _ w.heap.size _ _ 0 rfl rfl (blk_two HB2.out _ _)) rfl (read_some (k := 0) rfl (put_two HF2.out (Nat.le_refl _) _ _))
theorem rParse_any (l : Bs) (w : World) (hl : l.length ≤ 900) : Calls Tryd.prog 10 #[strV l] w (ReadA (parseD l) w) := by
  rw [← rparse_eq]
  by_cases h1 : l.length ≤ 1
  · exact rParse_short l w h1
  · have hne : l ≠ [] := fun e => by rw [e] at h1; simp at h1
    obtain ⟨q, c, rfl⟩ : ∃ q c, l = q ++ [c] := ⟨l.dropLast, l.getLast hne, (List.dropLast_concat_getLast hne).symm⟩
    simp at h1 hl
    exact rParse_long q c w h1 (by omega)
theorem rAmount_any (l : Bs) (w : World) (hl : l.length ≤ 900) : Calls Tryd.prog 12 #[strV l] w (ReadI (amtD l) w) := by
  rw [← ramt_eq]
  have HT := Lib.hid (rtime_any l w (by omega))
  unfold ramtD
  generalize rtimeD l = T at HT ⊢
  cases T with
  | none =>
    go_enter Tryd.func12, Tryd.ntmps12
    go_wp2_with fail
    refine HT.out.mono ?_
    rintro e w2 ⟨hf2, rfl⟩
    have HF2 := Lib.hid hf2
    clear hf2
    go_wp2_with fail
    go_ret2
    exact ⟨HF2.out, rfl⟩
  | some n =>
    by_cases h1 : 86400 < n
    · simp only
      rw [if_neg (by omega)]
      go_enter Tryd.func12, Tryd.ntmps12
      go_wp2_with fail
      refine HT.out.mono ?_
      rintro e w2 ⟨hf2, rfl⟩
      have HF2 := Lib.hid hf2
      clear hf2
      go_wp2_with fail
      go_ret2
      exact ⟨HF2.out, rfl⟩
    · by_cases h2 : n < -86400
      · simp only
        rw [if_neg (by omega)]
        go_enter Tryd.func12, Tryd.ntmps12
        go_wp2_with fail
        refine HT.out.mono ?_
        rintro e w2 ⟨hf2, rfl⟩
        have HF2 := Lib.hid hf2
        clear hf2
        go_wp2_with fail
        go_ret2
        exact ⟨HF2.out, rfl⟩
      · simp only
        rw [if_pos (by omega)]
        go_enter Tryd.func12, Tryd.ntmps12
        go_wp2_with fail
        refine HT.out.mono ?_
        rintro e w2 ⟨hf2, rfl⟩
        have HF2 := Lib.hid hf2
        clear hf2
        go_wp2_with fail
        go_ret2
        exact ⟨HF2.out, rfl⟩
end Go.Proofs.YtgfmodfakcbgfaaDoor
