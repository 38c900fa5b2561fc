import Derived.Test.YtgfmodfakcbgfaaDoorSec
namespace Go.Proofs.YtgfmodfakcbgfaaDoor
open Go.RowKit Go.Mem Go.Clk

theorem within_any (w : World) (n m : Int) (hm : 0 ≤ m) (hm2 : m ≤ 1000000) (x : Bool) (hx : x = true ↔ -m ≤ n ∧ n ≤ m) :
    Calls Tryd.prog 23 #[.int .i64 n, .int .i64 m] w fun e w' => e = .returned (.bool x) ∧ w = w' := by
  have hxx : x = (decide (-m ≤ n) && decide (n ≤ m)) := by
    rw [Bool.eq_iff_iff, hx]
    simp
  have HX := Lib.hid hxx
  clear hx hxx
  by_cases h1 : -m ≤ n
  all_goals by_cases h2 : n ≤ m
  all_goals
    go_enter Tryd.func23, Tryd.ntmps23
    go_wp2_with fail
    go_ret
    exact ⟨by rw [HX.out]; simp [h1, h2], rfl⟩
theorem end_none (w : World) (b : Nat) (s : ByteArray) (h : RdAt w b s []) (hz : s.size ≤ 1000000) :
    Calls Tryd.prog 28 #[.pointer (some ⟨b, 0, none⟩)] w fun e w' => e = .returned (.tuple #[]) ∧ ∃ n, w' = w.drewN n := by
  have HE := Lib.hid (ended_any w b s [] true h rfl hz)
  clear h
  go_enter Tryd.func28, Tryd.ntmps28
  go_wp2_with fail
  refine HE.out.mono ?_
  rintro e w1 ⟨rfl, n, rfl⟩
  go_wp2_with fail
  go_end0
  exact ⟨rfl, _, rfl⟩
theorem end_some (w : World) (b : Nat) (s : ByteArray) (l : Bs) (hl : l ≠ []) (h : RdAt w b s l) (hz : s.size ≤ 1000000) :
    Calls Tryd.prog 28 #[.pointer (some ⟨b, 0, none⟩)] w fun e w' => e = Raised ∧ ∃ n, w' = w.drewN n := by
  have HE := Lib.hid (ended_any w b s l false h (by simpa using hl) hz)
  clear h
  go_enter Tryd.func28, Tryd.ntmps28
  go_wp2_with fail
  refine HE.out.mono ?_
  rintro e w1 ⟨rfl, n, rfl⟩
  go_wp2_with fail
  exact ⟨rfl, rfl, _, rfl⟩
theorem u8_ne {c k : UInt8} {m : Int} (h : c ≠ k) (hk : (k.toNat : Int) = m) : ((c.toNat : Int) == m) = false := by
  rw [beq_eq_false_iff_ne]
  intro e
  exact h (UInt8.toNat_inj.1 (by omega))
set_option maxHeartbeats 800000 in
theorem suffix_any (w : World) (b : Nat) (s : ByteArray) (l : Bs) (h : RdAt w b s l) (hz : s.size ≤ 1000000) :
    Calls Tryd.prog 30 #[.pointer (some ⟨b, 0, none⟩)] w (Ran (suffixD l) natV b s w) := by
  cases l with
  | nil =>
    have HE := Lib.hid (ended_any w b s [] true h rfl hz)
    have HR := Lib.hid h
    clear h
    go_enter Tryd.func30, Tryd.ntmps30
    go_wp2_with fail
    refine HE.out.mono ?_
    rintro e w1 ⟨rfl, n, rfl⟩
    go_wp2_with fail
    go_ret
    exact ⟨rfl, HR.out, Fr.drewN _ _ _⟩
  | cons c r =>
    have HE := Lib.hid (ended_any w b s (c :: r) false h rfl hz)
    have HN := Lib.hid (fun n => next_got (w.drewN n) b s c r h hz)
    clear h
    by_cases h1 : c = 119
    · subst h1
      have hs : suffixD (119 :: r) = some (0, r) := by simp [suffixD, sufK]
      rw [hs]
      clear hs
      go_enter Tryd.func30, Tryd.ntmps30
      go_wp2_with fail
      refine HE.out.mono ?_
      rintro e w1 ⟨rfl, n, rfl⟩
      have HN1 := Lib.hid (HN.out n)
      go_wp2_with fail
      refine HN1.out.mono ?_
      rintro e w2 ⟨rfl, hr, hf⟩
      have HR := Lib.hid hr
      have HF := Lib.hid hf
      clear hr hf
      go_wp2_with fail
      go_ret
      exact ⟨rfl, HR.out, fbn HF.out⟩
    · by_cases h2 : c = 115
      · subst h2
        have hs : suffixD (115 :: r) = some (1, r) := by simp [suffixD, sufK]
        rw [hs]
        clear hs
        go_enter Tryd.func30, Tryd.ntmps30
        go_wp2_with fail
        refine HE.out.mono ?_
        rintro e w1 ⟨rfl, n, rfl⟩
        have HN1 := Lib.hid (HN.out n)
        go_wp2_with fail
        refine HN1.out.mono ?_
        rintro e w2 ⟨rfl, hr, hf⟩
        have HR := Lib.hid hr
        have HF := Lib.hid hf
        clear hr hf
        go_wp2_with fail
        go_ret
        exact ⟨rfl, HR.out, fbn HF.out⟩
      · by_cases h3 : c = 117 ∨ c = 103 ∨ c = 122
        · have hs : suffixD (c :: r) = some (2, r) := by simp only [suffixD, sufK, if_neg h1, if_neg h2, if_pos h3]
          rw [hs]
          clear hs h1 h2
          rcases h3 with rfl | rfl | rfl
          all_goals
            go_enter Tryd.func30, Tryd.ntmps30
            go_wp2_with fail
            refine HE.out.mono ?_
            rintro e w1 ⟨rfl, n, rfl⟩
            have HN1 := Lib.hid (HN.out n)
            go_wp2_with fail
            refine HN1.out.mono ?_
            rintro e w2 ⟨rfl, hr, hf⟩
            have HR := Lib.hid hr
            have HF := Lib.hid hf
            clear hr hf
            go_wp2_with fail
            go_ret
            exact ⟨rfl, HR.out, fbn HF.out⟩
        · have hs : suffixD (c :: r) = none := by simp only [suffixD, sufK, if_neg h1, if_neg h2, if_neg h3]
          rw [hs]
          have e1 := u8_ne (m := 119) h1 rfl
          have e2 := u8_ne (m := 115) h2 rfl
          have e3 := u8_ne (m := 117) (fun h => h3 (.inl h)) rfl
          have e4 := u8_ne (m := 103) (fun h => h3 (.inr (.inl h))) rfl
          have e5 := u8_ne (m := 122) (fun h => h3 (.inr (.inr h))) rfl
          clear hs h1 h2 h3
          generalize (c.toNat : Int) = nc at HN e1 e2 e3 e4 e5
          go_enter Tryd.func30, Tryd.ntmps30
          go_wp2_with fail
          refine HE.out.mono ?_
          rintro e w1 ⟨rfl, n, rfl⟩
          have HN1 := Lib.hid (HN.out n)
          go_wp2_with fail
          refine HN1.out.mono ?_
          rintro e w2 ⟨rfl, hr, hf⟩
          have HF := Lib.hid hf
          clear hr hf
          go_wp2_with fail
          exact ⟨rfl, rfl, fbn HF.out⟩
theorem infoAt : (Tryd.prog.info? 24).map (·.size) = some 2 := by kernel_rfl
abbrev atV (v : Int × Nat) : Value := .agg #[.int .i64 v.1, .int .i64 (v.2 : Int)]
theorem fbf {a c d : World} {b : Nat} (h : Fr a c (fun _ => False)) (h2 : Fr c d (· = b)) : Fr a d (· = b) := h.trans h2 (fun _ _ h => h.elim) (fun _ _ h => h)
set_option maxHeartbeats 800000 in
theorem time_any (w : World) (b : Nat) (s : ByteArray) (l : Bs) (h : RdAt w b s l) (hz : s.size ≤ 1000000) :
    Calls Tryd.prog 19 #[.pointer (some ⟨b, 0, none⟩)] w (Ran (timeD l) atV b s w) := by
  have hbw := h.lt
  have hf0 := Fr.new w (.cells #[.int .i64 0, .int .i64 0] 24) (fun _ => False)
  have h0 := h.fr hf0 (fun h => h)
  have S1 := Lib.hid (signed_any _ b s l h0 hz)
  have HF0 := Lib.hid hf0
  have HB0 := Lib.hid (Blk.made w 24 #[.int .i64 0, .int .i64 0])
  clear h h0 hf0
  rcases hg : signedD l with _ | ⟨n, r⟩
  · have hs : timeD l = none := by simp [timeD, hg]
    rw [hs]
    rw [hg] at S1
    clear hg hs
    go_enter Tryd.func19, Tryd.ntmps19
    go_wp2_with fail
    refine S1.out.mono ?_
    rintro e w1 ⟨rfl, hf1⟩
    have HF1 := Lib.hid hf1
    clear hf1
    go_wp2_with fail
    exact ⟨rfl, rfl, fbf HF0.out HF1.out⟩
  · have S2 := Lib.hid (fun (W : World) (h : RdAt W b s r) => suffix_any W b s r h hz)
    rcases hg2 : suffixD r with _ | ⟨k, r2⟩
    · have hs : timeD l = none := by simp [timeD, hg, hg2]
      rw [hs]
      rw [hg] at S1
      rw [hg2] at S2
      clear hg hg2 hs
      go_enter Tryd.func19, Tryd.ntmps19
      go_wp2_with fail
      refine S1.out.mono ?_
      rintro e w1 ⟨rfl, hr1, hf1⟩
      have HF1 := Lib.hid hf1
      have S3 := Lib.hid (S2.out _ hr1)
      clear hf1 hr1
      go_wp2_with fail
      refine S3.out.mono ?_
      rintro e w2 ⟨rfl, hf2⟩
      have HF2 := Lib.hid hf2
      clear hf2
      go_wp2_with fail
      exact ⟨rfl, rfl, fb (fbf HF0.out HF1.out) HF2.out⟩
    · have hs : timeD l = some ((n, k), r2) := by simp [timeD, hg, hg2]
      rw [hs]
      rw [hg] at S1
      rw [hg2] at S2
      clear hg hg2 hs
      go_enter Tryd.func19, Tryd.ntmps19
      go_wp2_with fail
      refine S1.out.mono ?_
      rintro e w1 ⟨rfl, hr1, hf1⟩
      have HF1 := Lib.hid hf1
      have S3 := Lib.hid (S2.out _ hr1)
      clear hf1 hr1
      go_wp2_with fail
      refine S3.out.mono ?_
      rintro e w2 ⟨rfl, hr2, hf2⟩
      have HB2 := Lib.hid (hf2.blk (HF1.out.blk HB0.out (by omega)) (by omega))
      have HF2 := Lib.hid hf2
      have HR2 := Lib.hid hr2
      have c0 := cell_at HB2.out 0
      have c1 := cell_at HB2.out 1
      have f0 := free_at HB2.out 0
      have f1 := free_at HB2.out 1
      simp at c0 c1
      clear hf2 hr2
      go_wp2_with fail
      have hb4 : Blk ((w2.setCell ⟨w.heap.size, 0, none⟩ (.int .i64 n)).setCell ⟨w.heap.size, 1, none⟩ (.int .i64 (k : Int))) w.heap.size 24 #[.int .i64 n, .int .i64 (k : Int)] :=
        ((HB2.out.put' (cs' := #[.int .i64 n, .int .i64 0]) 0 (.int .i64 n) (by simp)).put' 1 (.int .i64 (k : Int)) (by simp))
      have hres := fun (tmps : Array Value) (hp : tmps.getD 2 undef = .pointer (some ⟨w.heap.size, 0, none⟩)) => results_cell_row (P := Tryd.prog) (fn := Tryd.f19) (p := 2) (ty := 24) rfl tmps _ w.heap.size 24 #[.int .i64 n, .int .i64 (k : Int)] (0, 0) _ hp hb4 Tryd.underlying24 rfl infoAt
      refine bodyPost_ret (hres _ rfl) rfl ⟨rfl, ?_, ?_⟩
      · exact (HR2.out.fr (Fr.set (S := (· = w.heap.size)) rfl) (by omega)).fr (Fr.set (S := (· = w.heap.size)) rfl) (by omega)
      · exact (fb (fbf HF0.out HF1.out) HF2.out).trans ((Fr.set (S := (· = w.heap.size)) rfl).trans (Fr.set (S := (· = w.heap.size)) rfl) (U := (· = w.heap.size)) (fun _ _ h => h) (fun _ _ h => h)) (fun _ _ h => h) (fun i hi h => by omega)
theorem amount_any (w : World) (b : Nat) (s : ByteArray) (l : Bs) (h : RdAt w b s l) (hz : s.size ≤ 1000000) :
    Calls Tryd.prog 22 #[.pointer (some ⟨b, 0, none⟩)] w (Ran (amountD l) intV b s w) := by
  have S1 := Lib.hid (signed_any w b s l h hz)
  clear h
  rcases hg : signedD l with _ | ⟨n, r⟩
  · have hs : amountD l = none := by simp [amountD, hg]
    rw [hs]
    rw [hg] at S1
    clear hg hs
    go_enter Tryd.func22, Tryd.ntmps22
    go_wp2_with fail
    refine S1.out.mono ?_
    rintro e w1 ⟨rfl, hf1⟩
    have HF1 := Lib.hid hf1
    clear hf1
    go_wp2_with fail
    exact ⟨rfl, rfl, HF1.out⟩
  · by_cases hin : -86400 ≤ n ∧ n ≤ 86400
    · have hs : amountD l = some (n, r) := by simp [amountD, hg, hin]
      rw [hs]
      rw [hg] at S1
      have HW := Lib.hid (fun w => within_any w n 86400 (by omega) (by omega) true (by simpa using hin))
      clear hg hs hin
      go_enter Tryd.func22, Tryd.ntmps22
      go_wp2_with fail
      refine S1.out.mono ?_
      rintro e w1 ⟨rfl, hr1, hf1⟩
      have HF1 := Lib.hid hf1
      have HR1 := Lib.hid hr1
      clear hf1 hr1
      go_wp2_with fail
      refine (HW.out _).mono ?_
      rintro e w2 ⟨rfl, rfl⟩
      go_wp2_with fail
      go_ret
      exact ⟨rfl, HR1.out, HF1.out⟩
    · have hs : amountD l = none := by simp [amountD, hg, hin]
      rw [hs]
      rw [hg] at S1
      have HW := Lib.hid (fun w => within_any w n 86400 (by omega) (by omega) false (by simpa using hin))
      clear hg hs hin
      go_enter Tryd.func22, Tryd.ntmps22
      go_wp2_with fail
      refine S1.out.mono ?_
      rintro e w1 ⟨rfl, hr1, hf1⟩
      have HF1 := Lib.hid hf1
      have HR1 := Lib.hid hr1
      clear hf1 hr1
      go_wp2_with fail
      refine (HW.out _).mono ?_
      rintro e w2 ⟨rfl, rfl⟩
      go_wp2_with fail
      exact ⟨rfl, rfl, HF1.out⟩
end Go.Proofs.YtgfmodfakcbgfaaDoor
