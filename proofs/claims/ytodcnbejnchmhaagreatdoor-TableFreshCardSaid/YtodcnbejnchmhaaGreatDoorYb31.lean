import Derived.Test.YtodcnbejnchmhaaGreatDoorYb24
import Derived.Test.YtodcnbejnchmhaaGreatDoorYb30
import Derived.Test.YtodcnbejnchmhaaGreatDoorYb20
import Derived.Test.YtodcnbejnchmhaaGreatDoorYb21
import Derived.Test.YtodcnbejnchmhaaGreatDoorYb14
namespace Go.Proofs.YtodcnbejnchmhaaGreatDoor
open Go.Rope hiding Bs
open Go.RowKit Go.Mem Go.Lin Go.Dcm

theorem guard_line (x y : Operand) (cs ds : Array Value) : ∀ w, (eqGuard .neq 71 x y (.agg cs) (.agg ds)).run Tryz.prog w = .ok () w := fun _ => by kernel_rfl
theorem same_line (x : LineL) : ∀ w, (binOp .neq 71 (.agg (lineC x)) (.agg (lineC x))).run Tryz.prog w = .ok (.bool false) w := fun w => by rw [neq_line]; simp
def TrueT (w : World) (e : Ending) (w' : World) : Prop := e = .returned (.bool true) ∧ Fr w w' (fun _ => False)
set_option maxRecDepth 100000 in
set_option maxHeartbeats 1600000 in
theorem same_any (l : List LineL) (A B : Option Addr) (ca cb : Nat) (w : World) (h1 : LinesAt w A l) (h2 : LinesAt w B l) (hm : l.length ≤ 1000000) : Calls Tryz.prog 13 #[.slice A l.length ca, .slice B l.length cb] w (TrueT w) := by
  have H1 := Lib.hid h1
  have H2 := Lib.hid h2
  clear h1 h2
  go_enter Tryz.func13, Tryz.ntmps13
  go_wp2_with fail
  go_loopg [5] l.length (fun k v5 wr => ∃ i : Nat, i + k = l.length ∧ v5 = intV (i : Int) ∧ Fr w wr (fun _ => False))
  case atStart => exact ⟨0, by simp, rfl, Fr.refl _ _⟩
  case round =>
    obtain ⟨i, hik, rfl, hf⟩ := hrel
    by_cases hlt : i < l.length
    · have hi1 : (i : Int) < (l.length : Int) := by omega
      obtain ⟨b1, o1, rfl, c1⟩ := (H1.out.kept hf).at_ hlt
      obtain ⟨b2, o2, rfl, c2⟩ := (H2.out.kept hf).at_ hlt
      obtain ⟨x, hx⟩ : ∃ x, l[i] = x := ⟨_, rfl⟩
      rw [hx] at c1 c2
      have HF := Lib.hid hf
      have C1 := Lib.hid c1
      have C2 := Lib.hid c2
      clear c1 c2
      clear hx hf
      go_wp2_with fail
      refine wp_region_held_drew (S := fun w' => Fr wr w' (fun _ => False)) (by kernel_rfl) (Fr.drew wr _) (fun hHeld => ?_)
      refine wpAnyH_take (i := 0) (v := ?_) rfl (by kernel_rfl) (by kernel_rfl) (by kernel_rfl) (fun _ _ _ h => h) (Or.inl ⟨by rfl, ?_⟩) (by assumption) ?_
      rotate_left
      · intro w' hSw
        go_simp
        try with_reducible rfl
      try simp only [Act.put, List.setIfInBounds_toArray, List.set_cons_zero, List.set_cons_succ, List.getElem_toArray, List.getElem_cons_zero]
      refine wpAnyH_take (i := 1) (v := ?_) rfl (by kernel_rfl) (by kernel_rfl) (by kernel_rfl) (fun _ _ _ h => h) (Or.inl ⟨by rfl, ?_⟩) (by assumption) ?_
      rotate_left
      · intro w' hSw
        go_simp
        try with_reducible rfl
      try simp only [Act.put, List.setIfInBounds_toArray, List.set_cons_zero, List.set_cons_succ, List.getElem_toArray, List.getElem_cons_succ, List.getElem_cons_zero]
      refine wpAnyH_take (i := 2) (v := ?_) rfl (by kernel_rfl) (by kernel_rfl) (by kernel_rfl) (fun _ _ _ h => h) (Or.inl ⟨by rfl, ?_⟩) (by assumption) ?_
      rotate_left
      · intro w' hSw
        go_simp
        try with_reducible rfl
      try simp only [Act.put, List.setIfInBounds_toArray, List.set_cons_zero, List.set_cons_succ, List.getElem_toArray, List.getElem_cons_succ, List.getElem_cons_zero]
      refine wpAnyH_take (i := 3) (v := _) rfl (by kernel_rfl) (by kernel_rfl) (by kernel_rfl) (fun _ _ _ h => h) (yields_at 71 _ b1 (o1 + i * 29) (lineC x) _ (by rfl) rfl (by rfl) (fun w' h => cells_far h C1.out (Nat.le_refl _) (fun h => h)) Tryz.underlying71 rfl infoL1) (by assumption) ?_
      try simp only [Act.put, List.setIfInBounds_toArray, List.set_cons_zero, List.set_cons_succ, List.getElem_toArray, List.getElem_cons_succ, List.getElem_cons_zero]
      refine wpAnyH_take (i := 4) (v := ?_) rfl (by kernel_rfl) (by kernel_rfl) (by kernel_rfl) (fun _ _ _ h => h) (Or.inl ⟨by rfl, ?_⟩) (by assumption) ?_
      rotate_left
      · intro w' hSw
        go_simp
        try with_reducible rfl
      try simp only [Act.put, List.setIfInBounds_toArray, List.set_cons_zero, List.set_cons_succ, List.getElem_toArray, List.getElem_cons_succ, List.getElem_cons_zero]
      refine wpAnyH_take (i := 5) (v := ?_) rfl (by kernel_rfl) (by kernel_rfl) (by kernel_rfl) (fun _ _ _ h => h) (Or.inl ⟨by rfl, ?_⟩) (by assumption) ?_
      rotate_left
      · intro w' hSw
        go_simp
        try with_reducible rfl
      try simp only [Act.put, List.setIfInBounds_toArray, List.set_cons_zero, List.set_cons_succ, List.getElem_toArray, List.getElem_cons_succ, List.getElem_cons_zero]
      refine wpAnyH_take (i := 6) (v := ?_) rfl (by kernel_rfl) (by kernel_rfl) (by kernel_rfl) (fun _ _ _ h => h) (Or.inl ⟨by rfl, ?_⟩) (by assumption) ?_
      rotate_left
      · intro w' hSw
        go_simp
        try with_reducible rfl
      try simp only [Act.put, List.setIfInBounds_toArray, List.set_cons_zero, List.set_cons_succ, List.getElem_toArray, List.getElem_cons_succ, List.getElem_cons_zero]
      refine wpAnyH_take (i := 7) (v := _) rfl (by kernel_rfl) (by kernel_rfl) (by kernel_rfl) (fun _ _ _ h => h) (yields_at 71 _ b2 (o2 + i * 29) (lineC x) _ (by rfl) rfl (by rfl) (fun w' h => cells_far h C2.out (Nat.le_refl _) (fun h => h)) Tryz.underlying71 rfl infoL1) (by assumption) ?_
      try simp only [Act.put, List.setIfInBounds_toArray, List.set_cons_zero, List.set_cons_succ, List.getElem_toArray, List.getElem_cons_succ, List.getElem_cons_zero]
      refine wpAnyH_take (i := 8) (v := _) rfl (by kernel_rfl) (by kernel_rfl) (by kernel_rfl) (fun _ _ _ h => h) (yields_neq (by rfl) rfl (by rfl) (by rfl) (guard_line _ _ _ _) (same_line x)) (by assumption) ?_
      try simp only [Act.put, List.setIfInBounds_toArray, List.set_cons_zero, List.set_cons_succ, List.getElem_toArray, List.getElem_cons_succ, List.getElem_cons_zero]
      refine wpAnyH_done (by kernel_rfl) ?_ _
      clear hHeld
      have HD := Lib.hid (ff0 HF.out (Fr.drew wr (fun _ => False)))
      go_wp2_with fail
      go_roundg (l.length - (i + 1))
      case measure => omega
      case rel => exact ⟨i + 1, by omega, by go_num, HD.out⟩
    · obtain rfl : i = l.length := by omega
      have hi1 : (l.length : Int) ≤ (l.length : Int) := Int.le_refl _
      have HF := Lib.hid hf
      clear hf
      go_wp2_with fail
      go_ret
      exact ⟨rfl, HF.out⟩
theorem own_res {w : World} {q : Nat} {cs : Array Value} (hs : cs.size = 5) (hb : Blk w q 39 cs) (tmps : Array Value) (hp : tmps.getD 2 undef = .pointer (some ⟨q, 0, none⟩)) : (results Tryz.f18 tmps).run Tryz.prog w = .ok (.agg cs) w :=
  results_cell_row (P := Tryz.prog) (fn := Tryz.f18) (p := 2) (ty := 39) rfl tmps _ q 39 cs (0, 0) _ hp hb Tryz.underlying39 rfl (by rw [hs]; kernel_rfl)
theorem Own_any (e : EdL) (w : World) : Calls Tryz.prog 18 #[edV e] w fun en w' => en = .returned (edV e) ∧ Fr w w' (fun _ => False) := by
  obtain ⟨l1, c1, l2, c2, s⟩ := e
  unfold edV edC
  have hB := Blk.made (w.alloc (.cells #[intV l1, intV c1, intV l2, intV c2, strV s] 37)) 39 #[intV l1, intV c1, intV l2, intV c2, strV s]
  have hf0 := ff0 (Fr.new w (.cells #[intV l1, intV c1, intV l2, intV c2, strV s] 37) (fun _ => False)) (Fr.new _ (.cells #[intV l1, intV c1, intV l2, intV c2, strV s] 39) (fun _ => False))
  have hs1 : (w.alloc (.cells #[intV l1, intV c1, intV l2, intV c2, strV s] 37)).heap.size = w.heap.size + 1 := by simp
  rw [hs1] at hB
  have HB := Lib.hid hB
  have HF := Lib.hid hf0
  clear hB hf0 hs1
  go_enter Tryz.func18, Tryz.ntmps18
  go_wp2_with fail
  exact bodyPost_ret (own_res rfl HB.out _ rfl) rfl ⟨rfl, HF.out⟩
/-- what Light says -/
def LightE (s : Bs) (l : List EdL) (n : Nat) : Prop := s.length ≤ n ∧ l.length ≤ 30 ∧ ∀ e ∈ l, e.s.length ≤ n
instance (s : Bs) (l : List EdL) (n : Nat) : Decidable (LightE s l n) := by unfold LightE; infer_instance
set_option maxRecDepth 100000 in
set_option maxHeartbeats 1600000 in
theorem Light_any (s : Bs) (A : Option Addr) (c : Nat) (l : List EdL) (n : Nat) (w : World) (hr : EdsAt w A l) (_hs : s.length ≤ maxLen) (hl : l.length ≤ maxLen) (he : ∀ e ∈ l, e.s.length ≤ maxLen) (_hn : n ≤ 100000) (x : Bool) (hx : x = true ↔ LightE s l n) :
    Calls Tryz.prog 9 #[strV s, .slice A l.length c, intV n] w fun e w' => e = .returned (.bool x) ∧ Fr w w' (fun _ => False) := by
  unfold maxLen at _hs hl he
  have hz := str_size s
  have HX := Lib.hid hx
  have HR := Lib.hid hr
  have HS := Lib.hid he
  clear hx hr he
  by_cases h1 : n < s.length
  · have hf : x = false := by
      rw [Bool.eq_false_iff]
      intro e
      have := (HX.out.1 e).1
      omega
    subst hf
    go_enter Tryz.func9, Tryz.ntmps9
    go_wp2_with fail
    go_ret
    exact ⟨rfl, Fr.refl _ _⟩
  · by_cases h2 : 30 < l.length
    · have hf : x = false := by
        rw [Bool.eq_false_iff]
        intro e
        have := (HX.out.1 e).2.1
        omega
      subst hf
      have h1' : s.length ≤ n := by omega
      clear h1
      go_enter Tryz.func9, Tryz.ntmps9
      go_wp2_with fail
      go_ret
      exact ⟨rfl, Fr.refl _ _⟩
    · have h1' : s.length ≤ n := by omega
      have h2' : l.length ≤ 30 := by omega
      clear h1 h2
      go_enter Tryz.func9, Tryz.ntmps9
      go_wp2_with fail
      go_loopg [7] l.length (fun k v7 wr => ∃ i : Nat, i + k = l.length ∧ v7 = intV (i : Int) ∧ (∀ e ∈ l.take i, e.s.length ≤ n) ∧ Fr w wr (fun _ => False))
      case atStart => exact ⟨0, by simp, rfl, by simp, Fr.refl _ _⟩
      case round =>
        obtain ⟨i, hik, rfl, hpre, hf⟩ := hrel
        have HP := Lib.hid hpre
        have HF := Lib.hid hf
        by_cases hlt : i < l.length
        · obtain ⟨b, off, rfl, hc⟩ := (HR.out.kept hf).at_ hlt
          have HT := Lib.hid (List.take_succ_eq_append_getElem hlt)
          have hle := HS.out _ (List.getElem_mem hlt)
          have HM := Lib.hid (show ∀ y, (∀ e ∈ l, e.s.length ≤ y) → l[i].s.length ≤ y from fun y h => h _ (List.getElem_mem hlt))
          obtain ⟨ed, hed⟩ : ∃ ed, l[i] = ed := ⟨_, rfl⟩
          rw [hed] at hc HT hle HM
          have c4 : wr.cell? ⟨b, off + i * 5 + 4, none⟩ = some (strV ed.s) := hc 4 (show 4 < 5 by decide)
          have hsz := str_size ed.s
          have hi1 : (i : Int) < (l.length : Int) := by omega
          obtain ⟨y, hy⟩ : ∃ y, ed.s = y := ⟨_, rfl⟩
          rw [hy] at c4 hsz hle HM
          have HY := Lib.hid hy
          clear hed hc hy hpre hf
          by_cases hbig : n < y.length
          · have hf : x = false := by
              rw [Bool.eq_false_iff]
              intro e
              have := HM.out n (HX.out.1 e).2.2
              omega
            subst hf
            go_wp2_with fail
            go_ret
            exact ⟨rfl, HF.out⟩
          · have hbig' : y.length ≤ n := by omega
            clear hbig
            go_wp2_with fail
            go_roundg (l.length - (i + 1))
            case measure => omega
            case rel =>
              refine ⟨i + 1, by omega, by go_num, ?_, HF.out⟩
              rw [HT.out]
              intro z hz
              rcases List.mem_append.1 hz with hz | hz
              · exact HP.out z hz
              · simp at hz; rw [hz, HY.out]; exact hbig'
        · have hf : x = true := HX.out.2 ⟨h1', by omega, by
            have := HP.out
            rwa [List.take_of_length_le (by omega)] at this⟩
          have hi1 : (l.length : Int) ≤ (i : Int) := by omega
          have hi2 : (i : Int) ≤ (l.length : Int) := by omega
          subst hf
          clear hpre
          go_wp2_with fail
          go_ret
          exact ⟨rfl, HF.out⟩
end Go.Proofs.YtodcnbejnchmhaaGreatDoor
namespace Go.Proofs.YtodcnbejnchmhaaGreatDoor
open Go.Rope hiding Bs
open Go.RowKit Go.Mem Go.Lin Go.Dcm

/- the chapter's example -/
def aT : Bs := [97, 10, 98]
def aE : EdL := ⟨0, 1, 1, 0, []⟩
theorem a_fits : Fits aT := by decide
theorem a_edit : editD aT aE = ([97, 98], 0) := by decide +kernel
theorem a_read : readD aT aE 2 = 1 := by unfold readD; rw [a_edit]; rfl
/-- a table that was just made, of a text that fits -/
theorem new_fits {w w' : World} {s : Bs} {e : Ending} (h : NewR w s e w') (hf : Fits s) : ∃ g, e = .returned (.tuple #[pT g, intV 0]) ∧ w.heap.size ≤ g ∧ TabAt w' g s ((feeds s : Int) + 1) ∧ Fr w w' (fun _ => False) := by
  obtain ⟨hfr, ⟨-, g, h1, h2, h3⟩ | ⟨hn, -⟩⟩ := h
  · exact ⟨g, h1, h2, h3, hfr⟩
  · exact absurd hf hn
theorem new_great {w w' : World} {s : Bs} {e : Ending} (h : NewR w s e w') (hf : ¬ Fits s) : e = .returned (.tuple #[.pointer none, intV 17]) ∧ Fr w w' (fun _ => False) := by
  obtain ⟨hfr, ⟨hn, -⟩ | ⟨-, h1⟩⟩ := h
  · exact absurd hn hf
  · exact ⟨h1, hfr⟩
/-- a frame from the begin on, behind what turns a table that was made since -/
theorem fr_tab {w a b : World} {g : Nat} (h : Fr w a (fun _ => False)) (hf : Fr a b (fun k => k = g)) (hg : w.heap.size ≤ g) : Fr w b (fun _ => False) := h.fresh hf (fun i e => by subst e; omega)
set_option maxRecDepth 100000 in
set_option maxHeartbeats 1600000 in
theorem alive11_any (w : World) (hw : LOk w) : Calls Tryz.prog 10 #[] w (TrueT w) := by
  have HN := Lib.hid (tNew_any aT w hw (by decide))
  have HW := Lib.hid (fun (W : World) (f : Fr w W (fun _ => False)) => hw.fr f)
  have hnt := fun (w : World) (g : Nat) => eq_nil_tab w g
  unfold aT at HN
  clear hw
  go_enter Tryz.func10, Tryz.ntmps10
  go_wp2_with fail
  refine HN.out.mono ?_
  rintro e w2 hn
  obtain ⟨g, rfl, hg, ht, hf2⟩ := new_fits hn a_fits
  have hne := fun w => eq_nil_tab w g
  have HT2 := Lib.hid ht
  have HF2 := Lib.hid hf2
  have HR2 := Lib.hid (tRead_any ht)
  have HE2 := Lib.hid (tEdit_any ht (HW.out w2 hf2) aE (by decide))
  have hr : ((feeds aT : Int) + 1) = 2 := by decide
  have hr : ((feeds [97, 10, 98] : Int) + 1) = 2 := hr
  rw [hr] at HR2
  unfold EditR at HE2
  have ha := a_edit
  have hb := a_read
  unfold aT at ha hb
  rw [hr, ha, hb] at HE2
  unfold edV edC aE at HE2
  clear hn ht hf2 hr ha hb
  go_wp2_with fail
  refine HR2.out.mono ?_
  rintro e w3 ⟨rfl, rfl⟩
  go_wp2_with fail
  refine HE2.out.mono ?_
  rintro e w4 ⟨rfl, ht4, hf4⟩
  have HT4 := Lib.hid (tText_any ht4)
  have HL4 := Lib.hid (fun (W : World) (f : Fr w4 W (fun _ => False)) => tLines_any (ht4.kept f))
  have HR4 := Lib.hid (fun (W : World) (f : Fr w4 W (fun _ => False)) => tRead_any (ht4.kept f))
  have HF4 := Lib.hid (fr_tab HF2.out hf4 hg)
  clear ht4 hf4
  go_wp2_with fail
  refine HT4.out.mono ?_
  rintro e w5 ⟨rfl, hf5⟩
  have HF5 := Lib.hid hf5
  clear hf5
  go_wp2_with fail
  refine (HR4.out w5 HF5.out).mono ?_
  rintro e w6 ⟨rfl, rfl⟩
  go_wp2_with fail
  refine (HL4.out w6 HF5.out).mono ?_
  rintro e w7 ⟨A, c, rfl, hl, hf7⟩
  have hlen : (saysD [97, 98]).length = 1 := says_len _
  rw [hlen]
  have HF7 := Lib.hid (ff0 HF4.out (ff0 HF5.out hf7))
  clear hl hf7
  go_wp2_with fail
  go_ret
  exact ⟨rfl, HF7.out⟩
end Go.Proofs.YtodcnbejnchmhaaGreatDoor
namespace Go.Proofs.YtodcnbejnchmhaaGreatDoor
open Go.Rope hiding Bs
open Go.RowKit Go.Mem Go.Lin Go.Dcm

/- one edit as a slice -/
theorem infoRe1 : (Tryz.prog.info? 37).map (·.size) = some 5 := by kernel_rfl
theorem build_one (l1 c1 l2 c2 : Int) (es : Bs) : ∀ w, (Instr.buildSlice 22 1 #[(0, .agg #[intV l1, intV c1, intV l2, intV c2, strV es])]).run Tryz.prog w = .ok (.slice (some ⟨w.heap.size, 0, none⟩) 1 1) (w.alloc (.cells #[intV l1, intV c1, intV l2, intV c2, strV es] 37)) := fun _ => by kernel_rfl
theorem eds_one (w : World) (e : EdL) : EdsAt (w.alloc (.cells (edC e) 37)) (some ⟨w.heap.size, 0, none⟩) [e] := by
  have := rd_made w 37 (edC e)
  show Rd _ 5 _ 1 ([e].flatMap edL)
  rw [show [e].flatMap edL = (edC e).toList by simp [edL]]
  exact this
theorem light_one (s : Bs) (l1 c1 l2 c2 : Int) (es : Bs) (hs : s.length ≤ maxLen) (he : es.length ≤ maxLen) (w : World) (x : Bool) (hx : x = true ↔ s.length ≤ 1500 ∧ es.length ≤ 1500) :
    Calls Tryz.prog 9 #[strV s, .slice (some ⟨w.heap.size, 0, none⟩) 1 1, intV 1500] (w.alloc (.cells #[intV l1, intV c1, intV l2, intV c2, strV es] 37)) fun e w' => e = .returned (.bool x) ∧ Fr (w.alloc (.cells #[intV l1, intV c1, intV l2, intV c2, strV es] 37)) w' (fun _ => False) := by
  refine Light_any s _ 1 [⟨l1, c1, l2, c2, es⟩] 1500 _ (eds_one w ⟨l1, c1, l2, c2, es⟩) hs (by simp [maxLen]) (by simpa using he) (by decide) x ?_
  rw [hx]
  unfold LightE
  simp
end Go.Proofs.YtodcnbejnchmhaaGreatDoor
namespace Go.Proofs.YtodcnbejnchmhaaGreatDoor
open Go.Rope hiding Bs
open Go.RowKit Go.Mem Go.Lin Go.Dcm

/- an edit put back -/
theorem feeds_step {es : Bs} {i : Nat} (h : i < es.length) : feeds (es.take (i + 1)) = feeds (es.take i) + (if es[i] = 10 then 1 else 0) := by
  rw [List.take_succ_eq_append_getElem h, feeds_app]
  congr 1
  by_cases hc : es[i] = 10
  · rw [hc]; simp [feeds]
  · simp [feeds, hc]
/-- how many bytes are behind the last feed -/
def colX (X : Bs) : Nat := X.length - behind X (feeds X)
theorem behind_all (X : Bs) : behind (X ++ [10]) (feeds X + 1) = X.length + 1 := by
  rw [behind_right [10] (by omega)]
  rw [show feeds X + 1 - feeds X = 0 + 1 by omega]
  simp [behind]
theorem col_feed (X : Bs) : feeds (X ++ [10]) = feeds X + 1 ∧ colX (X ++ [10]) = 0 := by
  have h : feeds (X ++ [10]) = feeds X + 1 := by rw [feeds_app]; rfl
  refine ⟨h, ?_⟩
  unfold colX
  rw [h, behind_all, List.length_append]
  simp
theorem col_byte (X : Bs) {c : UInt8} (hc : c ≠ 10) : feeds (X ++ [c]) = feeds X ∧ colX (X ++ [c]) = colX X + 1 := by
  have h : feeds (X ++ [c]) = feeds X := by rw [feeds_app]; simp [feeds, hc]
  refine ⟨h, ?_⟩
  have hb := behind_le X (feeds X)
  unfold colX
  rw [h, behind_left [c] (Nat.le_refl _), List.length_append, List.length_singleton]
  omega
/-- the end of a text's begin is a place of it -/
theorem place_app (X q : Bs) : OkP (X ++ q) (feeds X : Int) (colX X : Int) ∧ posD (X ++ q) (feeds X : Int) (colX X : Int) = X.length := by
  have hn : X.length ≤ (X ++ q).length := by rw [List.length_append]; omega
  have h1 := place_ends (X ++ q) X.length hn
  rw [List.take_left] at h1
  have hb := behind_le X (feeds X)
  have hl := behind_left (a := X) (k := feeds X) q (Nat.le_refl _)
  have hf : feeds X ≤ feeds (X ++ q) := by rw [feeds_app]; omega
  rw [hl] at h1
  unfold OkP posD colX
  rw [Int.toNat_natCast, Int.toNat_natCast, hl]
  refine ⟨⟨by omega, by omega, by omega, by omega⟩, by omega⟩
theorem col_at {s : Bs} {i a : Nat} (h : i ≤ feeds s) (h1 : behind s i ≤ a) (h2 : a ≤ endOf s i) : feeds (s.take a) = i ∧ colX (s.take a) = a - behind s i ∧ (s.take a).length = a := by
  have hl := Nat.le_trans h2 (endOf_le s i)
  have e := place_back h h1 h2
  have hn : (s.take a).length = a := by rw [List.length_take]; omega
  refine ⟨e, ?_, hn⟩
  have hb := behind_left (a := s.take a) (k := feeds (s.take a)) (s.drop a) (Nat.le_refl _)
  rw [List.take_append_drop] at hb
  unfold colX
  rw [hn, ← hb, e]
/-- what an edit answers that puts back what was there -/
theorem edit_back {s es t : Bs} {i j a b : Nat} (hsp : Spot s i a j b) (hab : a ≤ b) (ht : t = s.take a ++ es ++ s.drop b) (hf : Fits s) :
    editD t ⟨(i : Int), (colX (s.take a) : Int), (feeds (s.take a ++ es) : Int), (colX (s.take a ++ es) : Int), cut s a b⟩ = (s, 0) := by
  obtain ⟨e1, e2, e3⟩ := col_at hsp.hi hsp.a1 hsp.a2
  have p1 := place_app (s.take a) (es ++ s.drop b)
  have p2 := place_app (s.take a ++ es) (s.drop b)
  rw [← List.append_assoc, ← ht] at p1
  rw [← ht] at p2
  rw [e1, e3] at p1
  have hbl := Nat.le_trans hsp.b2 (endOf_le s j)
  have hcm : comes t ⟨(i : Int), (colX (s.take a) : Int), (feeds (s.take a ++ es) : Int), (colX (s.take a ++ es) : Int), cut s a b⟩ = s := by
    unfold comes
    show t.take (posD t (i : Int) (colX (s.take a) : Int)) ++ cut s a b ++ t.drop (posD t (feeds (s.take a ++ es) : Int) (colX (s.take a ++ es) : Int)) = s
    rw [p1.2, p2.2]
    have k1 : t.take a = s.take a := by rw [ht, List.append_assoc]; exact List.take_left' e3
    have k2 : t.drop (s.take a ++ es).length = s.drop b := by rw [ht]; exact List.drop_left
    rw [k1, k2]
    have : s.take a ++ cut s a b = s.take b := by
      unfold cut
      conv => rhs; rw [← List.take_append_drop a (s.take b)]
      rw [List.take_take, Nat.min_eq_left hab]
    rw [this, List.take_append_drop]
  have hfine : Fine t ⟨(i : Int), (colX (s.take a) : Int), (feeds (s.take a ++ es) : Int), (colX (s.take a ++ es) : Int), cut s a b⟩ := by
    refine ⟨p1.1, p2.1, ?_⟩
    show posD t (i : Int) (colX (s.take a) : Int) ≤ posD t (feeds (s.take a ++ es) : Int) (colX (s.take a ++ es) : Int)
    rw [p1.2, p2.2, List.length_append, e3]
    omega
  unfold editD
  rw [if_pos hfine, hcm, if_pos hf]
/-- within a line there is no feed, at its end there is one -/
theorem in_line {s : Bs} {m x : Nat} (h : m < feeds s) (h1 : behind s m ≤ x) (h2 : x < endOf s m) (hx : x < s.length) : s[x] ≠ 10 := by
  intro e
  have hs := feeds_step hx
  rw [e, if_pos rfl, place_back (Nat.le_of_lt h) h1 (by omega), place_back (Nat.le_of_lt h) (by omega) (by omega)] at hs
  omega
theorem at_end {s : Bs} {m : Nat} (h : m < feeds s) : endOf s m < s.length ∧ s[endOf s m]? = some 10 ∧ behind s (m + 1) = endOf s m + 1 ∧ behind s m ≤ endOf s m := by
  obtain ⟨h1, h2⟩ := behind_pos h
  have hb := behind_le s (m + 1)
  have he : endOf s m = behind s (m + 1) - 1 := by unfold endOf; rw [if_neg (by omega)]
  rw [he]
  exact ⟨by omega, h2, by omega, by omega⟩
/-- an edit that answers a kind, or changes the text: with its column -/
theorem ed_col (l : Bs) (e : EdL) : (∃ k : Int, (k == 0) = false ∧ editD l e = (l, k)) ∨ ∃ (i j a b : Nat) (t : Bs), e.l1 = (i : Int) ∧ e.l2 = (j : Int) ∧ e.c1 = (colX (l.take a) : Int) ∧ editD l e = (t, 0) ∧ Spot l i a j b ∧ a ≤ b ∧ t = l.take a ++ e.s ++ l.drop b := by
  cases ed_way l e with
  | no1 h1 hd => exact .inl ⟨2, rfl, hd⟩
  | no2 a h1 h2 hd => exact .inl ⟨2, rfl, hd⟩
  | back a b h1 h2 h3 hd => exact .inl ⟨2, rfl, hd⟩
  | large a b h1 h2 h3 hd => exact .inl ⟨17, rfl, hd⟩
  | many a b t h1 h2 h3 ht hm hd => exact .inl ⟨17, rfl, hd⟩
  | ok i j a b t hi hj h1 h2 h3 ht hm hd hs hab hij hc =>
    refine .inr ⟨i, j, a, b, t, hi, hj, ?_, hd, hs, hab, hc⟩
    rw [(col_at hs.hi hs.a1 hs.a2).2.1]
    have hk : OkP l e.l1 e.c1 := by
      refine Decidable.byContradiction fun k => ?_
      rw [offset_no k] at h1
      exact absurd (Prod.mk.inj h1).2 (by decide)
    rw [offset_ok hk] at h1
    have h4 := (Prod.mk.inj h1).1
    have h5 := hk.2.2.1
    unfold posD at h4
    rw [hi, Int.toNat_natCast] at h4
    omega
end Go.Proofs.YtodcnbejnchmhaaGreatDoor
namespace Go.Proofs.YtodcnbejnchmhaaGreatDoor
open Go.Rope hiding Bs
open Go.RowKit Go.Mem Go.Lin Go.Dcm

/-- what was there, behind what turns a table -/
theorem lines_far {w w' : World} {A : Option Addr} {L : List LineL} {g : Nat} {l : Bs} {n : Int} (h : LinesAt w A L) (ht : TabAt w g l n) (hf : Fr w w' (fun k => k = g)) : LinesAt w' A L := by
  refine Rd.fr h hf fun b off e hpos hS => ?_
  subst hS
  obtain ⟨vr, vl, x, k, hb, -⟩ := ht.ex
  obtain ⟨b', o', e', hc⟩ := h.2 hpos
  rw [e] at e'
  injection e' with e'
  injection e' with e1 e2
  subst e1 e2
  have hl := flat_len lineL 29 lineL_len L
  have h28 : 28 < (L.flatMap lineL).length := by omega
  have := hc 28 _ (List.getElem?_eq_getElem h28)
  rw [cell_at hb] at this
  have hn : (#[vr, vl, intV n] : Array Value)[off + 28]? = none := Array.getElem?_eq_none (by simp)
  rw [hn] at this
  cases this
theorem box_far {w w' : World} {b g : Nat} {cs : Array Value} {l : Bs} {n : Int} (h : Blk w b 37 cs) (ht : TabAt w g l n) (hf : Fr w w' (fun k => k = g)) : Blk w' b 37 cs := by
  obtain ⟨ds, hd⟩ := ht.blk
  exact hf.blk h (fun e => by subst e; exact absurd (blk_same h hd) (by decide))
end Go.Proofs.YtodcnbejnchmhaaGreatDoor
namespace Go.Proofs.YtodcnbejnchmhaaGreatDoor
open Go.Rope hiding Bs
open Go.RowKit Go.Mem Go.Lin Go.Dcm

/- the document's answer: Fits, Do -/
set_option maxRecDepth 100000 in
theorem r3_lines (l : Bs) (w : World) (hl : l.length ≤ 20000) : Calls Tryz.prog 25 #[strV l] w fun e w' => ∃ A c, e = .returned (.slice A (feeds l + 1) c) ∧ Fr w w' (fun _ => False) := by
  refine (S3.rLines_any l w hl).mono ?_
  rintro e w' ⟨v, rfl, hs, hf⟩
  obtain ⟨A, c, rfl, -⟩ := S3.strs_rd hs
  rw [lines_len]
  exact ⟨A, c, rfl, hf⟩
set_option maxRecDepth 100000 in
theorem Fits_any (l : Bs) (w : World) (x : Bool) (hx : x = true ↔ Fits l) : Calls Tryz.prog 12 #[strV l] w fun e w' => e = .returned (.bool x) ∧ Fr w w' (fun _ => False) := by
  have hz := str_size l
  have HX := Lib.hid hx
  clear hx
  by_cases h1 : l.length ≤ 20000
  · have HL := Lib.hid (r3_lines l w h1)
    have hf := feeds_le l
    by_cases h2 : feeds l + 1 ≤ 400
    · obtain rfl : x = true := HX.out.2 ⟨h1, h2⟩
      have h3 : ((feeds l : Int) + 1) ≤ 400 := by omega
      go_enter Tryz.func12, Tryz.ntmps12
      go_wp2_with fail
      refine HL.out.mono ?_
      rintro e w2 ⟨A, c, rfl, hf2⟩
      have HF2 := Lib.hid hf2
      clear hf2
      go_wp2_with fail
      go_ret
      exact ⟨by simp, HF2.out⟩
    · obtain rfl : x = false := by rw [Bool.eq_false_iff]; intro e; exact h2 (HX.out.1 e).2
      go_enter Tryz.func12, Tryz.ntmps12
      go_wp2_with fail
      refine HL.out.mono ?_
      rintro e w2 ⟨A, c, rfl, hf2⟩
      have HF2 := Lib.hid hf2
      clear hf2
      go_wp2_with fail
      go_ret
      exact ⟨by simp; omega, HF2.out⟩
  · obtain rfl : x = false := by rw [Bool.eq_false_iff]; intro e; exact h1 (HX.out.1 e).1
    go_enter Tryz.func12, Tryz.ntmps12
    go_wp2_with fail
    go_ret
    exact ⟨rfl, Fr.refl _ _⟩
/-- how many lines Do tells -/
def doD (l : Bs) (e : EdL) : Int := if (editD l e).2 = 0 then (feeds e.s : Int) + 1 else 0
def DoR (l : Bs) (e : EdL) (w : World) (en : Ending) (w' : World) : Prop := en = .returned (.tuple #[strV (editD l e).1, intV (doD l e), intV (editD l e).2]) ∧ Fr w w' (fun _ => False)
theorem do_of {l : Bs} {e : EdL} {t : Bs} {k : Int} (h : editD l e = (t, k)) : doD l e = if k = 0 then (feeds e.s : Int) + 1 else 0 := by unfold doD; rw [h]
theorem offset_le {l : Bs} {i c : Int} {b : Nat} (h : S3.offsetD l i c = ((b : Int), 0)) : b ≤ l.length := by
  by_cases k : OkP l i c
  · rw [offset_ok k] at h
    have := (Prod.mk.inj h).1
    have := (pos_le k).2.2.2
    omega
  · rw [offset_no k] at h
    exact absurd (Prod.mk.inj h).2 (by decide)
theorem splice_lt {l : Bs} {a b : Nat} {s : Bs} (hb : b ≤ l.length) (h : S3.spliceD l (a : Int) (b : Int) s = ([], 2)) : b < a := by
  refine Decidable.byContradiction fun hn => ?_
  rw [splice_of s hb (by omega)] at h
  split at h
  · exact absurd (Prod.mk.inj h).2 (by decide)
  · exact absurd (Prod.mk.inj h).2 (by decide)
theorem splice_le {l : Bs} {a b : Nat} {s t : Bs} {k : Int} (hk : k ≠ 2) (h : S3.spliceD l (a : Int) (b : Int) s = (t, k)) : a ≤ b := by
  refine Decidable.byContradiction fun hn => ?_
  rw [splice_back s (by omega)] at h
  exact hk (Prod.mk.inj h).2.symm
set_option maxRecDepth 100000 in
set_option maxHeartbeats 3200000 in
theorem Do_any (l : Bs) (e : EdL) (w : World) (hl : l.length ≤ 20000) (hz : e.s.length ≤ 20100) : Calls Tryz.prog 16 #[strV l, edV e] w (DoR l e w) := by
  have HO := Lib.hid (fun (W : World) (o k : Int) (h : S3.offsetD l e.l1 e.c1 = (o, k)) => S3.rOffset_any l e.l1 e.c1 W hl o k h)
  have HP := Lib.hid (fun (W : World) (o k : Int) (h : S3.offsetD l e.l2 e.c2 = (o, k)) => S3.rOffset_any l e.l2 e.c2 W hl o k h)
  have HSp := Lib.hid (fun (W : World) (a b : Int) (t : Bs) (k : Int) (h : S3.spliceD l a b e.s = (t, k)) => S3.rSplice_any l a b e.s W hl hz t k h)
  unfold DoR
  cases ed_way l e with
  | no1 h1 hd =>
    rw [do_of hd, hd]
    obtain ⟨⟨o2, k2⟩, h2⟩ : ∃ p, S3.offsetD l e.l2 e.c2 = p := ⟨_, rfl⟩
    have HO1 := Lib.hid (fun (W : World) => HO.out W _ _ h1)
    have HP1 := Lib.hid (fun (W : World) => HP.out W _ _ h2)
    obtain ⟨l1, c1, l2, c2, es⟩ := e
    unfold edV edC
    clear HO HP HSp h1 h2 hd
    go_enter Tryz.func16, Tryz.ntmps16
    go_wp2_with fail
    refine (HO1.out _).mono ?_
    rintro e w2 ⟨rfl, hf2⟩
    have HB2 := Lib.hid (hf2.blk (Blk.made w 37 #[intV l1, intV c1, intV l2, intV c2, strV es]) (fun h => h))
    have HF2 := Lib.hid (ff0 (Fr.new w (.cells #[intV l1, intV c1, intV l2, intV c2, strV es] 37) (fun _ => False)) hf2)
    have c2' := blkc HB2.out 2 _ rfl
    have c3' := blkc HB2.out 3 _ rfl
    clear hf2
    go_wp2_with fail
    refine (HP1.out _).mono ?_
    rintro e w3 ⟨rfl, hf3⟩
    have HB3 := Lib.hid (hf3.blk HB2.out (fun h => h))
    have HF3 := Lib.hid (ff0 HF2.out hf3)
    clear hf3 c2' c3'
    go_wp2_with fail
    go_ret3
    exact ⟨rfl, HF3.out⟩
  | no2 a h1 h2 hd =>
    rw [do_of hd, hd]
    have HO1 := Lib.hid (fun (W : World) => HO.out W _ _ h1)
    have HP1 := Lib.hid (fun (W : World) => HP.out W _ _ h2)
    obtain ⟨l1, c1, l2, c2, es⟩ := e
    unfold edV edC
    clear HO HP HSp h1 h2 hd
    go_enter Tryz.func16, Tryz.ntmps16
    go_wp2_with fail
    refine (HO1.out _).mono ?_
    rintro e w2 ⟨rfl, hf2⟩
    have HB2 := Lib.hid (hf2.blk (Blk.made w 37 #[intV l1, intV c1, intV l2, intV c2, strV es]) (fun h => h))
    have HF2 := Lib.hid (ff0 (Fr.new w (.cells #[intV l1, intV c1, intV l2, intV c2, strV es] 37) (fun _ => False)) hf2)
    have c2' := blkc HB2.out 2 _ rfl
    have c3' := blkc HB2.out 3 _ rfl
    clear hf2
    go_wp2_with fail
    refine (HP1.out _).mono ?_
    rintro e w3 ⟨rfl, hf3⟩
    have HB3 := Lib.hid (hf3.blk HB2.out (fun h => h))
    have HF3 := Lib.hid (ff0 HF2.out hf3)
    clear hf3 c2' c3'
    go_wp2_with fail
    go_ret3
    exact ⟨rfl, HF3.out⟩
  | back a b h1 h2 h3 hd =>
    rw [do_of hd, hd]
    have hba := splice_lt (offset_le h2) h3
    have hba : (b : Int) < (a : Int) := by omega
    have HO1 := Lib.hid (fun (W : World) => HO.out W _ _ h1)
    have HP1 := Lib.hid (fun (W : World) => HP.out W _ _ h2)
    obtain ⟨l1, c1, l2, c2, es⟩ := e
    unfold edV edC
    clear HO HP HSp h1 h2 h3 hd
    go_enter Tryz.func16, Tryz.ntmps16
    go_wp2_with fail
    refine (HO1.out _).mono ?_
    rintro e w2 ⟨rfl, hf2⟩
    have HB2 := Lib.hid (hf2.blk (Blk.made w 37 #[intV l1, intV c1, intV l2, intV c2, strV es]) (fun h => h))
    have HF2 := Lib.hid (ff0 (Fr.new w (.cells #[intV l1, intV c1, intV l2, intV c2, strV es] 37) (fun _ => False)) hf2)
    have c2' := blkc HB2.out 2 _ rfl
    have c3' := blkc HB2.out 3 _ rfl
    clear hf2
    go_wp2_with fail
    refine (HP1.out _).mono ?_
    rintro e w3 ⟨rfl, hf3⟩
    have HB3 := Lib.hid (hf3.blk HB2.out (fun h => h))
    have HF3 := Lib.hid (ff0 HF2.out hf3)
    clear hf3 c2' c3'
    go_wp2_with fail
    go_ret3
    exact ⟨rfl, HF3.out⟩
  | large a b h1 h2 h3 hd =>
    rw [do_of hd, hd]
    have hab := splice_le (by decide) h3
    have hab : (a : Int) ≤ (b : Int) := by omega
    have HS1 := Lib.hid (fun (W : World) => HSp.out W _ _ _ _ h3)
    have HO1 := Lib.hid (fun (W : World) => HO.out W _ _ h1)
    have HP1 := Lib.hid (fun (W : World) => HP.out W _ _ h2)
    obtain ⟨l1, c1, l2, c2, es⟩ := e
    unfold edV edC
    clear HO HP HSp h1 h2 h3 hd
    go_enter Tryz.func16, Tryz.ntmps16
    go_wp2_with fail
    refine (HO1.out _).mono ?_
    rintro e w2 ⟨rfl, hf2⟩
    have HB2 := Lib.hid (hf2.blk (Blk.made w 37 #[intV l1, intV c1, intV l2, intV c2, strV es]) (fun h => h))
    have HF2 := Lib.hid (ff0 (Fr.new w (.cells #[intV l1, intV c1, intV l2, intV c2, strV es] 37) (fun _ => False)) hf2)
    have c2' := blkc HB2.out 2 _ rfl
    have c3' := blkc HB2.out 3 _ rfl
    clear hf2
    go_wp2_with fail
    refine (HP1.out _).mono ?_
    rintro e w3 ⟨rfl, hf3⟩
    have HB3 := Lib.hid (hf3.blk HB2.out (fun h => h))
    have HF3 := Lib.hid (ff0 HF2.out hf3)
    clear hf3 c2' c3'
    have c4' := blkc HB3.out 4 _ rfl
    go_wp2_with fail
    refine (HS1.out _).mono ?_
    rintro e w4 ⟨rfl, hf4⟩
    have HB4 := Lib.hid (hf4.blk HB3.out (fun h => h))
    have HF4 := Lib.hid (ff0 HF3.out hf4)
    clear hf4 c4'
    go_wp2_with fail
    go_ret3
    exact ⟨rfl, HF4.out⟩
  | many a b t h1 h2 h3 ht hm hd =>
    rw [do_of hd, hd]
    have hab := splice_le (by decide) h3
    have hab : (a : Int) ≤ (b : Int) := by omega
    have HS1 := Lib.hid (fun (W : World) => HSp.out W _ _ _ _ h3)
    have HT1 := Lib.hid (fun (W : World) => Fits_any t W false (by unfold Fits; simp; omega))
    have HO1 := Lib.hid (fun (W : World) => HO.out W _ _ h1)
    have HP1 := Lib.hid (fun (W : World) => HP.out W _ _ h2)
    obtain ⟨l1, c1, l2, c2, es⟩ := e
    unfold edV edC
    clear HO HP HSp h1 h2 h3 hd
    go_enter Tryz.func16, Tryz.ntmps16
    go_wp2_with fail
    refine (HO1.out _).mono ?_
    rintro e w2 ⟨rfl, hf2⟩
    have HB2 := Lib.hid (hf2.blk (Blk.made w 37 #[intV l1, intV c1, intV l2, intV c2, strV es]) (fun h => h))
    have HF2 := Lib.hid (ff0 (Fr.new w (.cells #[intV l1, intV c1, intV l2, intV c2, strV es] 37) (fun _ => False)) hf2)
    have c2' := blkc HB2.out 2 _ rfl
    have c3' := blkc HB2.out 3 _ rfl
    clear hf2
    go_wp2_with fail
    refine (HP1.out _).mono ?_
    rintro e w3 ⟨rfl, hf3⟩
    have HB3 := Lib.hid (hf3.blk HB2.out (fun h => h))
    have HF3 := Lib.hid (ff0 HF2.out hf3)
    clear hf3 c2' c3'
    have c4' := blkc HB3.out 4 _ rfl
    go_wp2_with fail
    refine (HS1.out _).mono ?_
    rintro e w4 ⟨rfl, hf4⟩
    have HB4 := Lib.hid (hf4.blk HB3.out (fun h => h))
    have HF4 := Lib.hid (ff0 HF3.out hf4)
    clear hf4 c4'
    go_wp2_with fail
    refine (HT1.out _).mono ?_
    rintro e w5 ⟨rfl, hf5⟩
    have HF5 := Lib.hid (ff0 HF4.out hf5)
    clear hf5
    go_wp2_with fail
    go_ret3
    exact ⟨rfl, HF5.out⟩
  | ok i j a b t hi hj h1 h2 h3 ht hm hd hs hab hij hc =>
    rw [do_of hd, hd]
    have hab : (a : Int) ≤ (b : Int) := by omega
    have hel : e.s.length ≤ 20000 := by
      rw [hc, List.length_append, List.length_append] at ht
      omega
    have HS1 := Lib.hid (fun (W : World) => HSp.out W _ _ _ _ h3)
    have HT1 := Lib.hid (fun (W : World) => Fits_any t W true (by unfold Fits; simp; omega))
    have HL1 := Lib.hid (fun (W : World) => r3_lines e.s W hel)
    have hfs := feeds_le e.s
    have HO1 := Lib.hid (fun (W : World) => HO.out W _ _ h1)
    have HP1 := Lib.hid (fun (W : World) => HP.out W _ _ h2)
    obtain ⟨l1, c1, l2, c2, es⟩ := e
    unfold edV edC
    clear HO HP HSp h1 h2 h3 hd hs hc hi hj
    go_enter Tryz.func16, Tryz.ntmps16
    go_wp2_with fail
    refine (HO1.out _).mono ?_
    rintro e w2 ⟨rfl, hf2⟩
    have HB2 := Lib.hid (hf2.blk (Blk.made w 37 #[intV l1, intV c1, intV l2, intV c2, strV es]) (fun h => h))
    have HF2 := Lib.hid (ff0 (Fr.new w (.cells #[intV l1, intV c1, intV l2, intV c2, strV es] 37) (fun _ => False)) hf2)
    have c2' := blkc HB2.out 2 _ rfl
    have c3' := blkc HB2.out 3 _ rfl
    clear hf2
    go_wp2_with fail
    refine (HP1.out _).mono ?_
    rintro e w3 ⟨rfl, hf3⟩
    have HB3 := Lib.hid (hf3.blk HB2.out (fun h => h))
    have HF3 := Lib.hid (ff0 HF2.out hf3)
    clear hf3 c2' c3'
    have c4' := blkc HB3.out 4 _ rfl
    go_wp2_with fail
    refine (HS1.out _).mono ?_
    rintro e w4 ⟨rfl, hf4⟩
    have HB4 := Lib.hid (hf4.blk HB3.out (fun h => h))
    have HF4 := Lib.hid (ff0 HF3.out hf4)
    clear hf4 c4'
    go_wp2_with fail
    refine (HT1.out _).mono ?_
    rintro e w5 ⟨rfl, hf5⟩
    have HF5 := Lib.hid (ff0 HF4.out hf5)
    have c4' := blkc (hf5.blk HB4.out (fun h => h)) 4 _ rfl
    clear hf5
    go_wp2_with fail
    refine (HL1.out _).mono ?_
    rintro e w6 ⟨A6, c6, rfl, hf6⟩
    have HF6 := Lib.hid (ff0 HF5.out hf6)
    clear hf6
    go_wp2_with fail
    go_ret3
    exact ⟨rfl, HF6.out⟩
end Go.Proofs.YtodcnbejnchmhaaGreatDoor
