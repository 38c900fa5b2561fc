import Derived.Test.YtbolgodoifbnnaaDoorQuo
import Derived.Deep.RegionHeld3
namespace Go.Proofs.YtbolgodoifbnnaaDoor
open Go.RowKit Go.Mem Go.Esc

theorem clone_any (s : ByteArray) (w : World) (hlim : s.size ≤ 1000000) :
    Calls Tryd.prog 73 #[.string s] w fun e w' => e = .returned (.string s) ∧ Fr w w' (fun _ => False) := by
  have HC := Lib.hid (Tryd.stringslite_Clone s w (by omega))
  go_enter Tryd.func73, Tryd.ntmps73
  go_wp2_with fail
  refine HC.out.mono ?_
  rintro e w1 ⟨rfl, hb⟩
  have HB := Lib.hid hb
  clear hb
  go_wp2_with fail
  go_ret
  exact ⟨rfl, (Fr.ofBelow HB.out).trans (Fr.refl _ (fun _ => False)) (fun i hi h => absurd h (by omega)) (fun _ _ h => h)⟩
theorem _root_.Go.Mem.Fr.cell0 {a c : World} {b o : Nat} {v : Value} (h : Fr a c (fun _ => False)) (hc : a.cell? ⟨b, o, none⟩ = some v) : c.cell? ⟨b, o, none⟩ = some v :=
  (World.cell?_of_block (w := a) (h.block b (World.block_lt_of_cell? a _ hc) (fun h => h))).trans hc
theorem extract_str (s : ByteArray) (a k : Nat) : s.extract a (a + k) = ⟨((s.data.toList.drop a).take k).toArray⟩ := by
  apply ByteArray.ext
  apply Array.toList_inj.1
  simp [List.drop_take, List.extract]
theorem plain_state {l : Bs} {k : Nat} (hk : k ≤ (l.takeWhile plainB).length) :
    (k < (l.takeWhile plainB).length ∧ ∃ c r, l.drop k = c :: r ∧ plainB c = true) ∨
    (k = (l.takeWhile plainB).length ∧ (l.drop k = [] ∨ ∃ c r, l.drop k = c :: r ∧ plainB c = false)) := by
  induction l generalizing k with
  | nil => right; simp at hk; subst hk; simp
  | cons x l ih =>
    by_cases hx : plainB x = true
    · rw [List.takeWhile_cons, if_pos hx] at hk ⊢
      cases k with
      | zero => left; exact ⟨by simp, x, l, rfl, hx⟩
      | succ k =>
        rcases ih (k := k) (by simpa using hk) with ⟨h1, h2⟩ | ⟨h1, h2⟩
        · left; exact ⟨by simpa using h1, by simpa using h2⟩
        · right; exact ⟨by simp [h1], by simpa using h2⟩
    · rw [List.takeWhile_cons, if_neg hx] at hk ⊢
      simp at hk
      subst hk
      right
      exact ⟨rfl, .inr ⟨x, l, rfl, by simpa using hx⟩⟩
theorem take_while (l : Bs) : l.take (l.takeWhile plainB).length = l.takeWhile plainB ∧ l.drop (l.takeWhile plainB).length = l.dropWhile plainB := by
  have e := List.takeWhile_append_dropWhile (p := plainB) (l := l)
  have h1 := List.take_left (l₁ := l.takeWhile plainB) (l₂ := l.dropWhile plainB)
  have h2 := List.drop_left (l₁ := l.takeWhile plainB) (l₂ := l.dropWhile plainB)
  rw [e] at h1 h2
  exact ⟨h1, h2⟩

set_option maxHeartbeats 800000 in
theorem plain_any (w : World) (b : Nat) (s : ByteArray) (l : Bs) (h : RdAt w b s l) (hz : s.size ≤ 999990) :
    Calls Tryd.prog 58 #[.pointer (some ⟨b, 0, none⟩)] w (Ran (plainD l) strV b s w) := by
  obtain ⟨a, ha, hd, hb⟩ := h
  have hl : l.length = s.size - a := (drop_empty ha hd).2
  obtain ⟨T, hT⟩ : ∃ T, plainD l = T := ⟨_, rfl⟩
  rw [hT]
  obtain ⟨p, hp⟩ : ∃ p, (l.takeWhile plainB).length = p := ⟨_, rfl⟩
  have hpl : p ≤ l.length := by rw [← hp]; have := congrArg List.length (List.takeWhile_append_dropWhile (p := plainB) (l := l)); rw [List.length_append] at this; omega
  have HB := Lib.hid hb
  have HD := Lib.hid hd
  have HP := Lib.hid hp
  have HT := Lib.hid hT
  have c1 := cell_at hb 1
  simp at c1
  clear hT hp hd hb
  go_enter Tryd.func58, Tryd.ntmps58
  go_wp2_with fail
  go_loopg [] p (fun g wr => ∃ q : Nat, a ≤ q ∧ q + g = a + p ∧ Blk wr b 66 #[.string s, .int .i64 (q : Int)] ∧ Fr w wr (· = b))
  case atStart => exact ⟨a, by omega, by omega, HB.out, Fr.refl _ _⟩
  case round =>
    obtain ⟨q, hq1, hq2, hblk, hfr⟩ := hrel
    have HFR := Lib.hid hfr
    have HBL := Lib.hid hblk
    have d0 := cell_at hblk 0
    have d1 := cell_at hblk 1
    have f1 := free_at hblk 1
    simp at d0 d1
    have hdk : s.data.toList.drop q = l.drop (q - a) := by rw [← HD.out, List.drop_drop]; congr 1; omega
    clear c1 hblk hfr
    have hst := plain_state (l := l) (k := q - a) (by rw [HP.out]; omega)
    rw [HP.out] at hst
    rcases hst with ⟨hlt, c, r, hcr, hpc⟩ | ⟨hke, hrest⟩
    · have hdc := drop_cons (hdk.trans hcr)
      obtain ⟨hsz, hsc, -⟩ := hdc
      have HE := Lib.hid (fun W => fun (e : ∃ m, W = wr.drewN m) => ended_any W b s (c :: r) false (by obtain ⟨m, rfl⟩ := e; exact ⟨q, by omega, hdk.trans hcr, HBL.out⟩) rfl (by omega))
      have HI := Lib.hid (fun W => isPlain_any W s[q] _ rfl)
      rw [hsc, hpc, ← hsc] at HI
      have h1 : (q : Int) < (s.size : Int) := by omega
      have h2 : (0 : Int) ≤ (q : Int) := by omega
      have HK := Lib.hid hq2
      clear hdk hcr hpc hsc hq2
      go_wp2_with fail
      go_quiet ((first | (go_at_call 42; exact Calls.quiet_of (HE.out _ ⟨_, rfl⟩)) | (go_at_call 40; exact Calls.quiet_of_same ((HI.out _).mono fun _ _ h => ⟨h.1, h.2.symm⟩))))
      go_wp2_with fail
      go_roundg (gk - 1)
      case measure => have := HK.out; omega
      case rel => exact ⟨q + 1, by omega, by have := HK.out; omega, Blk.put' (HBL.out : Blk (wr.drewN _) b _ _) 1 _ (by simp), HFR.out.trans (fr_put _ _ _ _ _) (fun _ _ h => h) (fun _ _ h => h)⟩
    · have hqp : q = a + p := by omega
      have htw := take_while l
      rw [HP.out] at htw
      have hre : RdAt wr b s (l.dropWhile plainB) := ⟨q, by omega, by rw [hdk, ← htw.2]; congr 1, HBL.out⟩
      have HRE := Lib.hid hre
      have h2 : (0 : Int) ≤ (q : Int) := by omega
      have hext : s.extract a q = ⟨(l.takeWhile plainB).toArray⟩ := by rw [hqp, extract_str, HD.out, htw.1]
      have HEX := Lib.hid hext
      have HFD := Lib.hid (show p = 0 → T = .err 3 from fun e => by
        rw [← HT.out, plainD, if_pos (List.length_eq_zero_iff.1 (by rw [HP.out]; exact e))])
      have HGD := Lib.hid (show p ≠ 0 → T = .got (l.takeWhile plainB) (l.dropWhile plainB) from fun e => by
        rw [← HT.out, plainD, if_neg (fun h => e (by rw [← HP.out, h]; rfl))])
      have hex2 : (s.extract a q).size ≤ 1000000 := by
        rw [hext]
        show ((l.takeWhile plainB).toArray).size ≤ _
        rw [List.size_toArray, HP.out]
        omega
      have heq : ((q : Int) == (a : Int)) = decide (p = 0) := by
        by_cases e : p = 0
        · simp [e]; omega
        · simp [e]; omega
      clear htw hre hext
      have HQP := Lib.hid hqp
      have step : Hid (∃ x : Bool, (x = true ∧ (l.dropWhile plainB = []) ∨ x = false ∧ ∃ c r, l.dropWhile plainB = c :: r ∧ plainB c = false)) := by
        have : l.drop (q - a) = l.dropWhile plainB := by
          have := (take_while l).2
          rw [HP.out] at this
          rw [← this]
          congr 1
        rw [this] at hrest
        rcases hrest with h | h
        · exact ⟨true, .inl ⟨rfl, h⟩⟩
        · exact ⟨false, .inr ⟨rfl, h⟩⟩
      clear hrest hdk hqp
      obtain ⟨x, hx⟩ := step.out
      rcases hx with ⟨rfl, h0⟩ | ⟨rfl, c, r, hcr, hpc⟩
      · have HE := Lib.hid (fun W => fun (e : ∃ m, W = wr.drewN m) => ended_any W b s [] true (by obtain ⟨m, rfl⟩ := e; have := HRE.out; rw [h0] at this; exact this) rfl (by omega))
        clear h0 step
        by_cases hp0 : p = 0
        · have heq' : ((q : Int) == (a : Int)) = true := by rw [heq]; simp [hp0]
          have HPP := Lib.hid (HFD.out hp0)
          clear heq hp0
          go_wp2_with fail
          go_quiet ((go_at_call 42; exact Calls.quiet_of (HE.out _ ⟨_, rfl⟩)))
          go_wp2_with fail
          refine ⟨rfl, ?_⟩
          rw [HPP.out]
          exact ⟨rfl, HFR.out.trans (Fr.drewN _ _ _) (fun _ _ h => h) (fun _ _ h => h)⟩
        · have heq' : ((q : Int) == (a : Int)) = false := by rw [heq]; simp [hp0]
          have HPP := Lib.hid (HGD.out hp0)
          have h3 : (a : Int) ≤ (q : Int) := by omega
          have h4 : (q : Int) ≤ (s.size : Int) := by omega
          have h5 : (0 : Int) ≤ (a : Int) := by omega
          have HHP := Lib.hid hp0
          clear heq hp0
          go_wp2_with fail
          go_quiet ((go_at_call 42; exact Calls.quiet_of (HE.out _ ⟨_, rfl⟩)))
          go_wp2_with fail
          go_region_held3 (fun w' => w'.cell? ⟨b, 0, none⟩ = some (.string s) ∧ w'.cell? ⟨b, 1, none⟩ = some (.int .i64 (q : Int))) (first | go_keep | (go_split_ands; exact ⟨hf5.cell0 d0, hf5.cell0 d1⟩)) ((go_at_call 73; refine (clone_any _ _ hex2).mono ?_; rintro e w5 ⟨rfl, hf5⟩))
          have HF5 := Lib.hid hf5
          clear hf5
          go_wp2_with fail
          go_ret
          rw [HPP.out]
          exact ⟨by show Ending.returned (.string (s.extract a q)) = _; rw [HEX.out], HRE.out.fr ((Fr.drewN wr _ _).trans HF5.out (fun _ _ h => h) (fun _ _ h => h)) (fun h => h), (HFR.out.trans (Fr.drewN _ _ (fun _ => False)) (fun _ _ h => h) (fun _ _ h => h.elim)).trans HF5.out (fun _ _ h => h) (fun _ _ h => h.elim)⟩
      · have hre2 := HRE.out
        rw [hcr] at hre2
        have hre3 := hre2
        obtain ⟨q', hq', hdq, hbq⟩ := hre2
        have hqq : q' = q := by
          have h1 : (Value.int .i64 (q' : Int)) = .int .i64 (q : Int) := by
            have := (cell_at hbq 1).symm.trans (cell_at HBL.out 1)
            simpa using this
          injection h1 with _ h1
          omega
        subst hqq
        obtain ⟨hsz, hsc, -⟩ := drop_cons hdq
        have HE := Lib.hid (fun W => fun (e : ∃ m, W = wr.drewN m) => ended_any W b s (c :: r) false (by obtain ⟨m, rfl⟩ := e; exact hre3) rfl (by omega))
        have HI := Lib.hid (fun W => isPlain_any W s[q'] _ rfl)
        rw [hsc, hpc, ← hsc] at HI
        have h1 : (q' : Int) < (s.size : Int) := by omega
        clear hcr hpc step hdq hbq hsc hre3
        by_cases hp0 : p = 0
        · have heq' : ((q' : Int) == (a : Int)) = true := by rw [heq]; simp [hp0]
          have HPP := Lib.hid (HFD.out hp0)
          clear heq hp0
          go_wp2_with fail
          go_quiet ((first | (go_at_call 42; exact Calls.quiet_of (HE.out _ ⟨_, rfl⟩)) | (go_at_call 40; exact Calls.quiet_of_same ((HI.out _).mono fun _ _ h => ⟨h.1, h.2.symm⟩))))
          go_wp2_with fail
          refine ⟨rfl, ?_⟩
          rw [HPP.out]
          exact ⟨rfl, HFR.out.trans (Fr.drewN _ _ _) (fun _ _ h => h) (fun _ _ h => h)⟩
        · have heq' : ((q' : Int) == (a : Int)) = false := by rw [heq]; simp [hp0]
          have HPP := Lib.hid (HGD.out hp0)
          have h3 : (a : Int) ≤ (q' : Int) := by omega
          have h4 : (q' : Int) ≤ (s.size : Int) := by omega
          have h5 : (0 : Int) ≤ (a : Int) := by omega
          have HHP := Lib.hid hp0
          clear heq hp0
          go_wp2_with fail
          go_quiet ((first | (go_at_call 42; exact Calls.quiet_of (HE.out _ ⟨_, rfl⟩)) | (go_at_call 40; exact Calls.quiet_of_same ((HI.out _).mono fun _ _ h => ⟨h.1, h.2.symm⟩))))
          go_wp2_with fail
          go_region_held3 (fun w' => w'.cell? ⟨b, 0, none⟩ = some (.string s) ∧ w'.cell? ⟨b, 1, none⟩ = some (.int .i64 (q' : Int))) (first | go_keep | (go_split_ands; exact ⟨hf5.cell0 d0, hf5.cell0 d1⟩)) ((go_at_call 73; refine (clone_any _ _ hex2).mono ?_; rintro e w5 ⟨rfl, hf5⟩))
          have HF5 := Lib.hid hf5
          clear hf5
          go_wp2_with fail
          go_ret
          rw [HPP.out]
          exact ⟨by show Ending.returned (.string (s.extract a q')) = _; rw [HEX.out], HRE.out.fr ((Fr.drewN wr _ _).trans HF5.out (fun _ _ h => h) (fun _ _ h => h)) (fun h => h), (HFR.out.trans (Fr.drewN _ _ (fun _ => False)) (fun _ _ h => h) (fun _ _ h => h.elim)).trans HF5.out (fun _ _ h => h) (fun _ _ h => h.elim)⟩
end Go.Proofs.YtbolgodoifbnnaaDoor
