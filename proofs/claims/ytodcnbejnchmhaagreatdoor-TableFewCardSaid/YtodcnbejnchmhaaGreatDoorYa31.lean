import Derived.Test.YtodcnbejnchmhaaGreatDoorYa24
import Derived.Test.YtodcnbejnchmhaaGreatDoorYa30
import Derived.Test.YtodcnbejnchmhaaGreatDoorYa29
import Derived.Test.YtodcnbejnchmhaaGreatDoorYa09
import Derived.Test.YtodcnbejnchmhaaGreatDoorYa20
import Derived.Test.YtodcnbejnchmhaaGreatDoorYa21
import Derived.Test.YtodcnbejnchmhaaGreatDoorYa14
namespace Go.Proofs.YtodcnbejnchmhaaGreatDoor
open Go.Rope hiding Bs
open Go.RowKit Go.Mem Go.Lin Go.Dcm

theorem guard_line (x y : Operand) (cs ds : Array Value) : ∀ w, (eqGuard .neq 71 x y (.agg cs) (.agg ds)).run Tryz.prog w = .ok () w := fun _ => by kernel_rfl
theorem same_line (x : LineL) : ∀ w, (binOp .neq 71 (.agg (lineC x)) (.agg (lineC x))).run Tryz.prog w = .ok (.bool false) w := fun w => by rw [neq_line]; simp
def TrueT (w : World) (e : Ending) (w' : World) : Prop := e = .returned (.bool true) ∧ Fr w w' (fun _ => False)
set_option maxRecDepth 100000 in
set_option maxHeartbeats 1600000 in
theorem same_any (l : List LineL) (A B : Option Addr) (ca cb : Nat) (w : World) (h1 : LinesAt w A l) (h2 : LinesAt w B l) (hm : l.length ≤ 1000000) : Calls Tryz.prog 13 #[.slice A l.length ca, .slice B l.length cb] w (TrueT w) := by
  have H1 := Lib.hid h1
  have H2 := Lib.hid h2
  clear h1 h2
  go_enter Tryz.func13, Tryz.ntmps13
  go_wp2_with fail
  go_loopg [5] l.length (fun k v5 wr => ∃ i : Nat, i + k = l.length ∧ v5 = intV (i : Int) ∧ Fr w wr (fun _ => False))
  case atStart => exact ⟨0, by simp, rfl, Fr.refl _ _⟩
  case round =>
    obtain ⟨i, hik, rfl, hf⟩ := hrel
    by_cases hlt : i < l.length
    · have hi1 : (i : Int) < (l.length : Int) := by omega
      obtain ⟨b1, o1, rfl, c1⟩ := (H1.out.kept hf).at_ hlt
      obtain ⟨b2, o2, rfl, c2⟩ := (H2.out.kept hf).at_ hlt
      obtain ⟨x, hx⟩ : ∃ x, l[i] = x := ⟨_, rfl⟩
      rw [hx] at c1 c2
      have HF := Lib.hid hf
      have C1 := Lib.hid c1
      have C2 := Lib.hid c2
      clear c1 c2
      clear hx hf
      go_wp2_with fail
      refine wp_region_held_drew (S := fun w' => Fr wr w' (fun _ => False)) (by kernel_rfl) (Fr.drew wr _) (fun hHeld => ?_)
      refine wpAnyH_take (i := 0) (v := ?_) rfl (by kernel_rfl) (by kernel_rfl) (by kernel_rfl) (fun _ _ _ h => h) (Or.inl ⟨by rfl, ?_⟩) (by assumption) ?_
      rotate_left
      · intro w' hSw
        go_simp
        try with_reducible rfl
      try simp only [Act.put, List.setIfInBounds_toArray, List.set_cons_zero, List.set_cons_succ, List.getElem_toArray, List.getElem_cons_zero]
      refine wpAnyH_take (i := 1) (v := ?_) rfl (by kernel_rfl) (by kernel_rfl) (by kernel_rfl) (fun _ _ _ h => h) (Or.inl ⟨by rfl, ?_⟩) (by assumption) ?_
      rotate_left
      · intro w' hSw
        go_simp
        try with_reducible rfl
      try simp only [Act.put, List.setIfInBounds_toArray, List.set_cons_zero, List.set_cons_succ, List.getElem_toArray, List.getElem_cons_succ, List.getElem_cons_zero]
      refine wpAnyH_take (i := 2) (v := ?_) rfl (by kernel_rfl) (by kernel_rfl) (by kernel_rfl) (fun _ _ _ h => h) (Or.inl ⟨by rfl, ?_⟩) (by assumption) ?_
      rotate_left
      · intro w' hSw
        go_simp
        try with_reducible rfl
      try simp only [Act.put, List.setIfInBounds_toArray, List.set_cons_zero, List.set_cons_succ, List.getElem_toArray, List.getElem_cons_succ, List.getElem_cons_zero]
      refine wpAnyH_take (i := 3) (v := _) rfl (by kernel_rfl) (by kernel_rfl) (by kernel_rfl) (fun _ _ _ h => h) (yields_at 71 _ b1 (o1 + i * 29) (lineC x) _ (by rfl) rfl (by rfl) (fun w' h => cells_far h C1.out (Nat.le_refl _) (fun h => h)) Tryz.underlying71 rfl infoL1) (by assumption) ?_
      try simp only [Act.put, List.setIfInBounds_toArray, List.set_cons_zero, List.set_cons_succ, List.getElem_toArray, List.getElem_cons_succ, List.getElem_cons_zero]
      refine wpAnyH_take (i := 4) (v := ?_) rfl (by kernel_rfl) (by kernel_rfl) (by kernel_rfl) (fun _ _ _ h => h) (Or.inl ⟨by rfl, ?_⟩) (by assumption) ?_
      rotate_left
      · intro w' hSw
        go_simp
        try with_reducible rfl
      try simp only [Act.put, List.setIfInBounds_toArray, List.set_cons_zero, List.set_cons_succ, List.getElem_toArray, List.getElem_cons_succ, List.getElem_cons_zero]
      refine wpAnyH_take (i := 5) (v := ?_) rfl (by kernel_rfl) (by kernel_rfl) (by kernel_rfl) (fun _ _ _ h => h) (Or.inl ⟨by rfl, ?_⟩) (by assumption) ?_
      rotate_left
      · intro w' hSw
        go_simp
        try with_reducible rfl
      try simp only [Act.put, List.setIfInBounds_toArray, List.set_cons_zero, List.set_cons_succ, List.getElem_toArray, List.getElem_cons_succ, List.getElem_cons_zero]
      refine wpAnyH_take (i := 6) (v := ?_) rfl (by kernel_rfl) (by kernel_rfl) (by kernel_rfl) (fun _ _ _ h => h) (Or.inl ⟨by rfl, ?_⟩) (by assumption) ?_
      rotate_left
      · intro w' hSw
        go_simp
        try with_reducible rfl
      try simp only [Act.put, List.setIfInBounds_toArray, List.set_cons_zero, List.set_cons_succ, List.getElem_toArray, List.getElem_cons_succ, List.getElem_cons_zero]
      refine wpAnyH_take (i := 7) (v := _) rfl (by kernel_rfl) (by kernel_rfl) (by kernel_rfl) (fun _ _ _ h => h) (yields_at 71 _ b2 (o2 + i * 29) (lineC x) _ (by rfl) rfl (by rfl) (fun w' h => cells_far h C2.out (Nat.le_refl _) (fun h => h)) Tryz.underlying71 rfl infoL1) (by assumption) ?_
      try simp only [Act.put, List.setIfInBounds_toArray, List.set_cons_zero, List.set_cons_succ, List.getElem_toArray, List.getElem_cons_succ, List.getElem_cons_zero]
      refine wpAnyH_take (i := 8) (v := _) rfl (by kernel_rfl) (by kernel_rfl) (by kernel_rfl) (fun _ _ _ h => h) (yields_neq (by rfl) rfl (by rfl) (by rfl) (guard_line _ _ _ _) (same_line x)) (by assumption) ?_
      try simp only [Act.put, List.setIfInBounds_toArray, List.set_cons_zero, List.set_cons_succ, List.getElem_toArray, List.getElem_cons_succ, List.getElem_cons_zero]
      refine wpAnyH_done (by kernel_rfl) ?_ _
      clear hHeld
      have HD := Lib.hid (ff0 HF.out (Fr.drew wr (fun _ => False)))
      go_wp2_with fail
      go_roundg (l.length - (i + 1))
      case measure => omega
      case rel => exact ⟨i + 1, by omega, by go_num, HD.out⟩
    · obtain rfl : i = l.length := by omega
      have hi1 : (l.length : Int) ≤ (l.length : Int) := Int.le_refl _
      have HF := Lib.hid hf
      clear hf
      go_wp2_with fail
      go_ret
      exact ⟨rfl, HF.out⟩
theorem own_res {w : World} {q : Nat} {cs : Array Value} (hs : cs.size = 5) (hb : Blk w q 39 cs) (tmps : Array Value) (hp : tmps.getD 2 undef = .pointer (some ⟨q, 0, none⟩)) : (results Tryz.f18 tmps).run Tryz.prog w = .ok (.agg cs) w :=
  results_cell_row (P := Tryz.prog) (fn := Tryz.f18) (p := 2) (ty := 39) rfl tmps _ q 39 cs (0, 0) _ hp hb Tryz.underlying39 rfl (by rw [hs]; kernel_rfl)
theorem Own_any (e : EdL) (w : World) : Calls Tryz.prog 18 #[edV e] w fun en w' => en = .returned (edV e) ∧ Fr w w' (fun _ => False) := by
  obtain ⟨l1, c1, l2, c2, s⟩ := e
  unfold edV edC
  have hB := Blk.made (w.alloc (.cells #[intV l1, intV c1, intV l2, intV c2, strV s] 37)) 39 #[intV l1, intV c1, intV l2, intV c2, strV s]
  have hf0 := ff0 (Fr.new w (.cells #[intV l1, intV c1, intV l2, intV c2, strV s] 37) (fun _ => False)) (Fr.new _ (.cells #[intV l1, intV c1, intV l2, intV c2, strV s] 39) (fun _ => False))
  have hs1 : (w.alloc (.cells #[intV l1, intV c1, intV l2, intV c2, strV s] 37)).heap.size = w.heap.size + 1 := by simp
  rw [hs1] at hB
  have HB := Lib.hid hB
  have HF := Lib.hid hf0
  clear hB hf0 hs1
  go_enter Tryz.func18, Tryz.ntmps18
  go_wp2_with fail
  exact bodyPost_ret (own_res rfl HB.out _ rfl) rfl ⟨rfl, HF.out⟩
/-- what Light says -/
def LightE (s : Bs) (l : List EdL) (n : Nat) : Prop := s.length ≤ n ∧ l.length ≤ 30 ∧ ∀ e ∈ l, e.s.length ≤ n
instance (s : Bs) (l : List EdL) (n : Nat) : Decidable (LightE s l n) := by unfold LightE; infer_instance
set_option maxRecDepth 100000 in
set_option maxHeartbeats 1600000 in
theorem Light_any (s : Bs) (A : Option Addr) (c : Nat) (l : List EdL) (n : Nat) (w : World) (hr : EdsAt w A l) (_hs : s.length ≤ maxLen) (hl : l.length ≤ maxLen) (he : ∀ e ∈ l, e.s.length ≤ maxLen) (_hn : n ≤ 100000) (x : Bool) (hx : x = true ↔ LightE s l n) :
    Calls Tryz.prog 9 #[strV s, .slice A l.length c, intV n] w fun e w' => e = .returned (.bool x) ∧ Fr w w' (fun _ => False) := by
  unfold maxLen at _hs hl he
  have hz := str_size s
  have HX := Lib.hid hx
  have HR := Lib.hid hr
  have HS := Lib.hid he
  clear hx hr he
  by_cases h1 : n < s.length
  · have hf : x = false := by
      rw [Bool.eq_false_iff]
      intro e
      have := (HX.out.1 e).1
      omega
    subst hf
    go_enter Tryz.func9, Tryz.ntmps9
    go_wp2_with fail
    go_ret
    exact ⟨rfl, Fr.refl _ _⟩
  · by_cases h2 : 30 < l.length
    · have hf : x = false := by
        rw [Bool.eq_false_iff]
        intro e
        have := (HX.out.1 e).2.1
        omega
      subst hf
      have h1' : s.length ≤ n := by omega
      clear h1
      go_enter Tryz.func9, Tryz.ntmps9
      go_wp2_with fail
      go_ret
      exact ⟨rfl, Fr.refl _ _⟩
    · have h1' : s.length ≤ n := by omega
      have h2' : l.length ≤ 30 := by omega
      clear h1 h2
      go_enter Tryz.func9, Tryz.ntmps9
      go_wp2_with fail
      go_loopg [7] l.length (fun k v7 wr => ∃ i : Nat, i + k = l.length ∧ v7 = intV (i : Int) ∧ (∀ e ∈ l.take i, e.s.length ≤ n) ∧ Fr w wr (fun _ => False))
      case atStart => exact ⟨0, by simp, rfl, by simp, Fr.refl _ _⟩
      case round =>
        obtain ⟨i, hik, rfl, hpre, hf⟩ := hrel
        have HP := Lib.hid hpre
        have HF := Lib.hid hf
        by_cases hlt : i < l.length
        · obtain ⟨b, off, rfl, hc⟩ := (HR.out.kept hf).at_ hlt
          have HT := Lib.hid (List.take_succ_eq_append_getElem hlt)
          have hle := HS.out _ (List.getElem_mem hlt)
          have HM := Lib.hid (show ∀ y, (∀ e ∈ l, e.s.length ≤ y) → l[i].s.length ≤ y from fun y h => h _ (List.getElem_mem hlt))
          obtain ⟨ed, hed⟩ : ∃ ed, l[i] = ed := ⟨_, rfl⟩
          rw [hed] at hc HT hle HM
          have c4 : wr.cell? ⟨b, off + i * 5 + 4, none⟩ = some (strV ed.s) := hc 4 (show 4 < 5 by decide)
          have hsz := str_size ed.s
          have hi1 : (i : Int) < (l.length : Int) := by omega
          obtain ⟨y, hy⟩ : ∃ y, ed.s = y := ⟨_, rfl⟩
          rw [hy] at c4 hsz hle HM
          have HY := Lib.hid hy
          clear hed hc hy hpre hf
          by_cases hbig : n < y.length
          · have hf : x = false := by
              rw [Bool.eq_false_iff]
              intro e
              have := HM.out n (HX.out.1 e).2.2
              omega
            subst hf
            go_wp2_with fail
            go_ret
            exact ⟨rfl, HF.out⟩
          · have hbig' : y.length ≤ n := by omega
            clear hbig
            go_wp2_with fail
            go_roundg (l.length - (i + 1))
            case measure => omega
            case rel =>
              refine ⟨i + 1, by omega, by go_num, ?_, HF.out⟩
              rw [HT.out]
              intro z hz
              rcases List.mem_append.1 hz with hz | hz
              · exact HP.out z hz
              · simp at hz; rw [hz, HY.out]; exact hbig'
        · have hf : x = true := HX.out.2 ⟨h1', by omega, by
            have := HP.out
            rwa [List.take_of_length_le (by omega)] at this⟩
          have hi1 : (l.length : Int) ≤ (i : Int) := by omega
          have hi2 : (i : Int) ≤ (l.length : Int) := by omega
          subst hf
          clear hpre
          go_wp2_with fail
          go_ret
          exact ⟨rfl, HF.out⟩
end Go.Proofs.YtodcnbejnchmhaaGreatDoor
namespace Go.Proofs.YtodcnbejnchmhaaGreatDoor
open Go.Rope hiding Bs
open Go.RowKit Go.Mem Go.Lin Go.Dcm

/- the chapter's example -/
def aT : Bs := [97, 10, 98]
def aE : EdL := ⟨0, 1, 1, 0, []⟩
theorem a_fits : Fits aT := by decide
theorem a_edit : editD aT aE = ([97, 98], 0) := by decide +kernel
theorem a_read : readD aT aE 2 = 1 := by unfold readD; rw [a_edit]; rfl
/-- a table that was just made, of a text that fits -/
theorem new_fits {w w' : World} {s : Bs} {e : Ending} (h : NewR w s e w') (hf : Fits s) : ∃ g, e = .returned (.tuple #[pT g, intV 0]) ∧ w.heap.size ≤ g ∧ TabAt w' g s ((feeds s : Int) + 1) ∧ Fr w w' (fun _ => False) := by
  obtain ⟨hfr, ⟨-, g, h1, h2, h3⟩ | ⟨hn, -⟩⟩ := h
  · exact ⟨g, h1, h2, h3, hfr⟩
  · exact absurd hf hn
theorem new_great {w w' : World} {s : Bs} {e : Ending} (h : NewR w s e w') (hf : ¬ Fits s) : e = .returned (.tuple #[.pointer none, intV 17]) ∧ Fr w w' (fun _ => False) := by
  obtain ⟨hfr, ⟨hn, -⟩ | ⟨-, h1⟩⟩ := h
  · exact absurd hn hf
  · exact ⟨h1, hfr⟩
/-- a frame from the begin on, behind what turns a table that was made since -/
theorem fr_tab {w a b : World} {g : Nat} (h : Fr w a (fun _ => False)) (hf : Fr a b (fun k => k = g)) (hg : w.heap.size ≤ g) : Fr w b (fun _ => False) := h.fresh hf (fun i e => by subst e; omega)
set_option maxRecDepth 100000 in
set_option maxHeartbeats 1600000 in
theorem alive11_any (w : World) (hw : LOk w) : Calls Tryz.prog 10 #[] w (TrueT w) := by
  have HN := Lib.hid (tNew_any aT w hw (by decide))
  have HW := Lib.hid (fun (W : World) (f : Fr w W (fun _ => False)) => hw.fr f)
  have hnt := fun (w : World) (g : Nat) => eq_nil_tab w g
  unfold aT at HN
  clear hw
  go_enter Tryz.func10, Tryz.ntmps10
  go_wp2_with fail
  refine HN.out.mono ?_
  rintro e w2 hn
  obtain ⟨g, rfl, hg, ht, hf2⟩ := new_fits hn a_fits
  have hne := fun w => eq_nil_tab w g
  have HT2 := Lib.hid ht
  have HF2 := Lib.hid hf2
  have HR2 := Lib.hid (tRead_any ht)
  have HE2 := Lib.hid (tEdit_any ht (HW.out w2 hf2) aE (by decide))
  have hr : ((feeds aT : Int) + 1) = 2 := by decide
  have hr : ((feeds [97, 10, 98] : Int) + 1) = 2 := hr
  rw [hr] at HR2
  unfold EditR at HE2
  have ha := a_edit
  have hb := a_read
  unfold aT at ha hb
  rw [hr, ha, hb] at HE2
  unfold edV edC aE at HE2
  clear hn ht hf2 hr ha hb
  go_wp2_with fail
  refine HR2.out.mono ?_
  rintro e w3 ⟨rfl, rfl⟩
  go_wp2_with fail
  refine HE2.out.mono ?_
  rintro e w4 ⟨rfl, ht4, hf4⟩
  have HT4 := Lib.hid (tText_any ht4)
  have HL4 := Lib.hid (fun (W : World) (f : Fr w4 W (fun _ => False)) => tLines_any (ht4.kept f))
  have HR4 := Lib.hid (fun (W : World) (f : Fr w4 W (fun _ => False)) => tRead_any (ht4.kept f))
  have HF4 := Lib.hid (fr_tab HF2.out hf4 hg)
  clear ht4 hf4
  go_wp2_with fail
  refine HT4.out.mono ?_
  rintro e w5 ⟨rfl, hf5⟩
  have HF5 := Lib.hid hf5
  clear hf5
  go_wp2_with fail
  refine (HR4.out w5 HF5.out).mono ?_
  rintro e w6 ⟨rfl, rfl⟩
  go_wp2_with fail
  refine (HL4.out w6 HF5.out).mono ?_
  rintro e w7 ⟨A, c, rfl, hl, hf7⟩
  have hlen : (saysD [97, 98]).length = 1 := says_len _
  rw [hlen]
  have HF7 := Lib.hid (ff0 HF4.out (ff0 HF5.out hf7))
  clear hl hf7
  go_wp2_with fail
  go_ret
  exact ⟨rfl, HF7.out⟩
end Go.Proofs.YtodcnbejnchmhaaGreatDoor
namespace Go.Proofs.YtodcnbejnchmhaaGreatDoor
open Go.Rope hiding Bs
open Go.RowKit Go.Mem Go.Lin Go.Dcm

/- one edit as a slice -/
theorem infoRe1 : (Tryz.prog.info? 37).map (·.size) = some 5 := by kernel_rfl
theorem build_one (l1 c1 l2 c2 : Int) (es : Bs) : ∀ w, (Instr.buildSlice 22 1 #[(0, .agg #[intV l1, intV c1, intV l2, intV c2, strV es])]).run Tryz.prog w = .ok (.slice (some ⟨w.heap.size, 0, none⟩) 1 1) (w.alloc (.cells #[intV l1, intV c1, intV l2, intV c2, strV es] 37)) := fun _ => by kernel_rfl
theorem eds_one (w : World) (e : EdL) : EdsAt (w.alloc (.cells (edC e) 37)) (some ⟨w.heap.size, 0, none⟩) [e] := by
  have := rd_made w 37 (edC e)
  show Rd _ 5 _ 1 ([e].flatMap edL)
  rw [show [e].flatMap edL = (edC e).toList by simp [edL]]
  exact this
theorem light_one (s : Bs) (l1 c1 l2 c2 : Int) (es : Bs) (hs : s.length ≤ maxLen) (he : es.length ≤ maxLen) (w : World) (x : Bool) (hx : x = true ↔ s.length ≤ 1500 ∧ es.length ≤ 1500) :
    Calls Tryz.prog 9 #[strV s, .slice (some ⟨w.heap.size, 0, none⟩) 1 1, intV 1500] (w.alloc (.cells #[intV l1, intV c1, intV l2, intV c2, strV es] 37)) fun e w' => e = .returned (.bool x) ∧ Fr (w.alloc (.cells #[intV l1, intV c1, intV l2, intV c2, strV es] 37)) w' (fun _ => False) := by
  refine Light_any s _ 1 [⟨l1, c1, l2, c2, es⟩] 1500 _ (eds_one w ⟨l1, c1, l2, c2, es⟩) hs (by simp [maxLen]) (by simpa using he) (by decide) x ?_
  rw [hx]
  unfold LightE
  simp
end Go.Proofs.YtodcnbejnchmhaaGreatDoor
namespace Go.Proofs.YtodcnbejnchmhaaGreatDoor
open Go.RowKit Go.Mem Go.Lin Go.Dcm

/-- a document in a variable of its own -/
structure DVar (tr tz tl td : TypeId) (w : World) (q : Nat) (d : DocL) (vr vz vl vd : Value) : Prop where
  b : Blk w q td #[vr, vz, vl, vd]
  d : DocAt tr tz tl w 0 vr vz vl vd d
theorem DVar.kept {tr tz tl td : TypeId} {w w' : World} {q : Nat} {d : DocL} {vr vz vl vd : Value} (h : DVar tr tz tl td w q d vr vz vl vd) (hf : Fr w w' (fun _ => False)) : DVar tr tz tl td w' q d vr vz vl vd := ⟨hf.blk h.b (fun h => h), h.d.kept hf⟩
/-- the four slices -/
theorem doc_slices {tr tz tl : TypeId} {w : World} {B : Nat} {d : DocL} {vr vz vl vd : Value} (h : DocAt tr tz tl w B vr vz vl vd d) : ∃ Ar cr Az cz Al cl Ad cd, vr = .slice Ar d.rules.length cr ∧ vz = .slice Az d.zones.length cz ∧ vl = .slice Al d.links.length cl ∧ vd = .slice Ad d.diags.length cd := by
  obtain ⟨A1, c1, e1⟩ := h.r.slice
  obtain ⟨zv, hz, ho, -⟩ := h.z
  obtain ⟨A2, c2, e2⟩ := ho.slice
  obtain ⟨A3, c3, e3⟩ := h.l.slice
  obtain ⟨A4, c4, e4⟩ := h.g.slice
  have hl : zv.length = d.zones.length := by rw [← hz, List.length_map]
  rw [hl] at e2
  exact ⟨A1, c1, A2, c2, A3, c3, A4, c4, e1, e2, e3, e4⟩
end Go.Proofs.YtodcnbejnchmhaaGreatDoor
namespace Go.Proofs.YtodcnbejnchmhaaGreatDoor
open Go.Rope hiding Bs
open Go.RowKit Go.Mem Go.Lin Go.Dcm

theorem res_tdoc {w : World} {q : Nat} {cs : Array Value} (hs : cs.size = 4) (hb : Blk w q 57 cs) (tmps : Array Value) (hp : tmps.getD 2 undef = .pointer (some ⟨q, 0, none⟩)) : (results Tryz.f23 tmps).run Tryz.prog w = .ok (.agg cs) w :=
  results_cell_row (P := Tryz.prog) (fn := Tryz.f23) (p := 2) (ty := 57) rfl tmps _ q 57 cs (0, 0) _ hp hb Tryz.underlying57 rfl (by rw [hs]; exact infoDoc)
/-- Doc, once kept is known -/
theorem tdoc_of {w : World} (v : Value) (L : List LineL) (hl : L.length ≤ 40000) (HK : RowKit.Hid (∀ W, Fr w W (fun _ => False) → Calls Tryz.prog 27 #[v] W fun e w' => ∃ A c, e = .returned (.slice A L.length c) ∧ LinesAt w' A L ∧ Fr W w' (fun _ => False))) : Calls Tryz.prog 23 #[v] w (DocPost 100 101 102 w (ofD L)) := by
  have hf0 := Fr.new w (.cells #[.slice none 0 0, .slice none 0 0, .slice none 0 0, .slice none 0 0] 57) (fun _ => False)
  have HB := Lib.hid (Blk.made w 57 #[.slice none 0 0, .slice none 0 0, .slice none 0 0, .slice none 0 0])
  have HF0 := Lib.hid hf0
  have HK0 := Lib.hid (HK.out _ hf0)
  have HD := Lib.hid (fun (W : World) (A : Option Addr) (c : Nat) (h : LinesAt W A L) => dOf_any L A c W h hl)
  clear hf0 HK
  go_enter Tryz.func23, Tryz.ntmps23
  go_wp2_with fail
  refine HK0.out.mono ?_
  rintro e w2 ⟨A, c, rfl, hl2, hf2⟩
  have HD2 := Lib.hid (HD.out w2 A c hl2)
  have HB2 := Lib.hid (hf2.blk HB.out (fun h => h))
  have HF2 := Lib.hid (ff0 HF0.out hf2)
  clear hl2 hf2
  go_wp2_with fail
  refine HD2.out.mono ?_
  rintro e w3 ⟨vr, vz, vl, vd, rfl, hd3, hf3⟩
  have hws := HF2.out.size
  have HD3 := Lib.hid (doc_base hd3 hws)
  have HB3 := Lib.hid (hf3.blk HB2.out (fun h => h))
  have HF3 := Lib.hid (ff0 HF2.out hf3)
  clear hd3 hf3
  go_wp2_with (
    (refine wpList_store_blk 57 _ _ w.heap.size 0 57 _ #[vr, vz, vl, vd] #[vr, vz, vl, vd] (by rfl) rfl rfl rfl rfl HB3.out infoDoc (doc_one HD3.out) (show 0 + 4 ≤ 4 by decide) rfl ?_
     intro w9 hf9 hb9
     have HE9 := Lib.hid hb9
     have HF9 := Lib.hid hf9
     clear hf9 hb9))
  (try simp only [Exit.inBlock, Exit.then])
  exact bodyPost_ret (res_tdoc rfl HE9.out _ rfl) rfl ⟨vr, vz, vl, vd, rfl, doc_far HD3.out HF9.out HB3.out, HF3.out.fresh HF9.out (fun i e => by have e : i = w.heap.size := e; omega)⟩
theorem tDoc_nil (w : World) : Calls Tryz.prog 23 #[.pointer none] w (DocPost 100 101 102 w (ofD [])) := by
  refine tdoc_of _ [] (by decide) (Lib.hid fun W f => (kept_nil W).mono ?_)
  rintro e w' ⟨rfl, rfl⟩
  exact ⟨none, 0, rfl, ⟨rfl, fun h => absurd h (by simp)⟩, Fr.refl _ _⟩
end Go.Proofs.YtodcnbejnchmhaaGreatDoor
namespace Go.Proofs.YtodcnbejnchmhaaGreatDoor
open Go.Rope hiding Bs
open Go.RowKit Go.Mem Go.Lin Go.Dcm

set_option maxRecDepth 100000 in
set_option maxHeartbeats 6400000 in
theorem nils_any (s : Bs) (e : EdL) (w : World) (hw : LOk w) (hs : s.length ≤ maxLen) (he : EdR e) : Calls Tryz.prog 8 #[strV s, edV e] w (TrueT w) := by
  have HW := Lib.hid (fun (W : World) (f : Fr w W (fun _ => False)) => alive11_any W (hw.fr f))
  obtain ⟨l1, c1, l2, c2, es⟩ := e
  have hbs := build_one l1 c1 l2 c2 es
  have HL := Lib.hid (light_one s l1 c1 l2 c2 es hs he.s)
  by_cases hx : s.length ≤ 1500 ∧ es.length ≤ 1500
  · have HLt := Lib.hid (fun (W : World) => HL.out W true (by simp [hx]))
    have HOw := Lib.hid (fun (W : World) => Own_any ⟨l1, c1, l2, c2, es⟩ W)
    have HEn := Lib.hid (fun (W : World) => tEdit_nil ⟨l1, c1, l2, c2, es⟩ W)
    have HN := Lib.hid (fun (W : World) (f : Fr w W (fun _ => False)) => tNew_any s W (hw.fr f) (by omega))
    have HE := Lib.hid (fun (W : World) (g : Nat) (l : Bs) (n : Int) (f : Fr w W (fun _ => False)) (h : TabAt W g l n) => tEdit_any h (hw.fr f) ⟨l1, c1, l2, c2, es⟩ (Nat.le_trans hx.2 (by decide)))
    have HTn := Lib.hid tText_nil
    have HLn := Lib.hid tLines_nil
    have HRn := Lib.hid tRead_nil
    have HDn := Lib.hid tDoc_nil
    unfold edV edC at *
    clear hw hs he HL
    go_enter Tryz.func8, Tryz.ntmps8
    go_wp2_with fail
    have HLt1 := Lib.hid (HLt.out (w.alloc (.cells #[intV l1, intV c1, intV l2, intV c2, strV es] 37)))
    rw [show (w.alloc (.cells #[intV l1, intV c1, intV l2, intV c2, strV es] 37)).heap.size = w.heap.size + 1 by simp] at HLt1
    refine HLt1.out.mono ?_
    rintro e w2 ⟨rfl, hf2⟩
    have hf12 := ff0 (Fr.new (w.alloc (.cells #[intV l1, intV c1, intV l2, intV c2, strV es] 37)) (.cells #[intV l1, intV c1, intV l2, intV c2, strV es] 37) (fun _ => False)) hf2
    have HB2 := Lib.hid (hf12.blk (Blk.made w 37 #[intV l1, intV c1, intV l2, intV c2, strV es]) (fun h => h))
    have HF2 := Lib.hid (ff0 (Fr.new w (.cells #[intV l1, intV c1, intV l2, intV c2, strV es] 37) (fun _ => False)) hf12)
    clear hf2 hf12 HLt1
    go_wp2_with fail
    refine (HDn.out w2).mono ?_
    rintro e w3 ⟨vr, vz, vl, vd, rfl, hd3, hf3⟩
    obtain ⟨Ar, cr, Az, cz, Al, cl, Ad, cd, rfl, rfl, rfl, rfl⟩ := doc_slices hd3
    rw [show ofD ([] : List LineL) = ⟨[], [], [], []⟩ from rfl]
    have hD := Blk.made w3 57 #[.slice Ar 0 cr, .slice Az 0 cz, .slice Al 0 cl, .slice Ad 0 cd]
    have hnD := Fr.new w3 (.cells #[.slice Ar 0 cr, .slice Az 0 cz, .slice Al 0 cl, .slice Ad 0 cd] 57) (fun _ => False)
    have HB3 := Lib.hid (hnD.blk (hf3.blk HB2.out (fun h => h)) (fun h => h))
    have HF3 := Lib.hid (ff0 (ff0 HF2.out hf3) hnD)
    have HD3 := Lib.hid hD
    clear hd3 hf3 hD hnD HB2 HF2
    go_wp2_with fail
    obtain ⟨W4, hW4⟩ : ∃ W, w3.alloc (.cells #[.slice Ar 0 cr, .slice Az 0 cz, .slice Al 0 cl, .slice Ad 0 cd] 57) = W := ⟨_, rfl⟩
    rw [hW4] at HB3 HF3 HD3 ⊢
    clear hW4
    refine wp_region_held_drew (S := fun w' => Fr W4 w' (fun _ => False)) (by kernel_rfl) (Fr.drew W4 _) (fun hHeld => ?_)
    refine wpAnyH_take (i := 0) (v := ?_) rfl (by kernel_rfl) (by kernel_rfl) (by kernel_rfl) (fun _ _ _ h => h) (Or.inl ⟨by rfl, ?_⟩) (by assumption) ?_
    rotate_left
    · intro w' hSw
      go_simp
      try with_reducible rfl
    try simp only [Act.put, List.setIfInBounds_toArray, List.set_cons_zero, List.set_cons_succ, List.getElem_toArray, List.getElem_cons_zero]
    refine wpAnyH_ready (rs := [1]) (by kernel_rfl) (by simp) ?_
    refine AllReadyH.cons rfl (fun K hK => ?_) AllReadyH.nil
    go_simp
    refine (HTn.out _).mono ?_
    rintro e w5 ⟨rfl, rfl⟩
    refine hK.out _ _ (hHeld) (fun hHeld2 => ?_)
    clear hK K hHeld
    rename_i hHeld2
    have hHeld := hHeld2
    clear hHeld2
    try simp only [Act.put, List.setIfInBounds_toArray, List.set_cons_zero, List.set_cons_succ, List.getElem_toArray, List.getElem_cons_succ, List.getElem_cons_zero]
    refine wpAnyH_take (i := 2) (v := ?_) rfl (by kernel_rfl) (by kernel_rfl) (by kernel_rfl) (fun _ _ _ h => h) (Or.inl ⟨by rfl, ?_⟩) (by assumption) ?_
    rotate_left
    · intro w' hSw
      go_simp
      try with_reducible rfl
    try simp only [Act.put, List.setIfInBounds_toArray, List.set_cons_zero, List.set_cons_succ, List.getElem_toArray, List.getElem_cons_succ, List.getElem_cons_zero]
    refine wpAnyH_take (i := 3) (v := ?_) rfl (by kernel_rfl) (by kernel_rfl) (by kernel_rfl) (fun _ _ _ h => h) (Or.inl ⟨by rfl, ?_⟩) (by assumption) ?_
    rotate_left
    · intro w' hSw
      go_simp
      try with_reducible rfl
    try simp only [Act.put, List.setIfInBounds_toArray, List.set_cons_zero, List.set_cons_succ, List.getElem_toArray, List.getElem_cons_succ, List.getElem_cons_zero]
    refine wpAnyH_take (i := 4) (v := ?_) rfl (by kernel_rfl) (by kernel_rfl) (by kernel_rfl) (fun _ _ _ h => h) (Or.inl ⟨by rfl, ?_⟩) (by assumption) ?_
    rotate_left
    · intro w' hSw
      go_simp
      try with_reducible rfl
    try simp only [Act.put, List.setIfInBounds_toArray, List.set_cons_zero, List.set_cons_succ, List.getElem_toArray, List.getElem_cons_succ, List.getElem_cons_zero]
    refine wpAnyH_take (i := 7) (v := ?_) rfl (by kernel_rfl) (by kernel_rfl) (by kernel_rfl) (fun _ _ _ h => h) (Or.inl ⟨by rfl, ?_⟩) (by assumption) ?_
    rotate_left
    · intro w' hSw
      go_simp
      try with_reducible rfl
    try simp only [Act.put, List.setIfInBounds_toArray, List.set_cons_zero, List.set_cons_succ, List.getElem_toArray, List.getElem_cons_succ, List.getElem_cons_zero]
    refine wpAnyH_take (i := 8) (v := ?_) rfl (by kernel_rfl) (by kernel_rfl) (by kernel_rfl) (fun _ _ _ h => h) (Or.inl ⟨by rfl, ?_⟩) (by assumption) ?_
    rotate_left
    · intro w' hSw
      have q0 := hSw.cell0 (blkc HD3.out 0 _ rfl)
      go_simp
      try with_reducible rfl
    try simp only [Act.put, List.setIfInBounds_toArray, List.set_cons_zero, List.set_cons_succ, List.getElem_toArray, List.getElem_cons_succ, List.getElem_cons_zero]
    refine wpAnyH_take (i := 9) (v := ?_) rfl (by kernel_rfl) (by kernel_rfl) (by kernel_rfl) (fun _ _ _ h => h) (Or.inl ⟨by rfl, ?_⟩) (by assumption) ?_
    rotate_left
    · intro w' hSw
      go_simp
      try with_reducible rfl
    try simp only [Act.put, List.setIfInBounds_toArray, List.set_cons_zero, List.set_cons_succ, List.getElem_toArray, List.getElem_cons_succ, List.getElem_cons_zero]
    refine wpAnyH_take (i := 11) (v := ?_) rfl (by kernel_rfl) (by kernel_rfl) (by kernel_rfl) (fun _ _ _ h => h) (Or.inl ⟨by rfl, ?_⟩) (by assumption) ?_
    rotate_left
    · intro w' hSw
      go_simp
      try with_reducible rfl
    try simp only [Act.put, List.setIfInBounds_toArray, List.set_cons_zero, List.set_cons_succ, List.getElem_toArray, List.getElem_cons_succ, List.getElem_cons_zero]
    refine wpAnyH_take (i := 12) (v := ?_) rfl (by kernel_rfl) (by kernel_rfl) (by kernel_rfl) (fun _ _ _ h => h) (Or.inl ⟨by rfl, ?_⟩) (by assumption) ?_
    rotate_left
    · intro w' hSw
      have q1 := hSw.cell0 (blkc HD3.out 1 _ rfl)
      go_simp
      try with_reducible rfl
    try simp only [Act.put, List.setIfInBounds_toArray, List.set_cons_zero, List.set_cons_succ, List.getElem_toArray, List.getElem_cons_succ, List.getElem_cons_zero]
    refine wpAnyH_take (i := 13) (v := ?_) rfl (by kernel_rfl) (by kernel_rfl) (by kernel_rfl) (fun _ _ _ h => h) (Or.inl ⟨by rfl, ?_⟩) (by assumption) ?_
    rotate_left
    · intro w' hSw
      go_simp
      try with_reducible rfl
    try simp only [Act.put, List.setIfInBounds_toArray, List.set_cons_zero, List.set_cons_succ, List.getElem_toArray, List.getElem_cons_succ, List.getElem_cons_zero]
    refine wpAnyH_take (i := 15) (v := ?_) rfl (by kernel_rfl) (by kernel_rfl) (by kernel_rfl) (fun _ _ _ h => h) (Or.inl ⟨by rfl, ?_⟩) (by assumption) ?_
    rotate_left
    · intro w' hSw
      go_simp
      try with_reducible rfl
    try simp only [Act.put, List.setIfInBounds_toArray, List.set_cons_zero, List.set_cons_succ, List.getElem_toArray, List.getElem_cons_succ, List.getElem_cons_zero]
    refine wpAnyH_take (i := 16) (v := ?_) rfl (by kernel_rfl) (by kernel_rfl) (by kernel_rfl) (fun _ _ _ h => h) (Or.inl ⟨by rfl, ?_⟩) (by assumption) ?_
    rotate_left
    · intro w' hSw
      have q3 := hSw.cell0 (blkc HD3.out 3 _ rfl)
      go_simp
      try with_reducible rfl
    try simp only [Act.put, List.setIfInBounds_toArray, List.set_cons_zero, List.set_cons_succ, List.getElem_toArray, List.getElem_cons_succ, List.getElem_cons_zero]
    refine wpAnyH_take (i := 17) (v := ?_) rfl (by kernel_rfl) (by kernel_rfl) (by kernel_rfl) (fun _ _ _ h => h) (Or.inl ⟨by rfl, ?_⟩) (by assumption) ?_
    rotate_left
    · intro w' hSw
      go_simp
      try with_reducible rfl
    try simp only [Act.put, List.setIfInBounds_toArray, List.set_cons_zero, List.set_cons_succ, List.getElem_toArray, List.getElem_cons_succ, List.getElem_cons_zero]
    refine wpAnyH_ready (rs := [5]) (by kernel_rfl) (by simp) ?_
    refine AllReadyH.cons rfl (fun K hK => ?_) AllReadyH.nil
    go_simp
    refine (HLn.out _).mono ?_
    rintro e w5 ⟨rfl, rfl⟩
    refine hK.out _ _ (hHeld) (fun hHeld2 => ?_)
    clear hK K hHeld
    rename_i hHeld2
    have hHeld := hHeld2
    clear hHeld2
    try simp only [Act.put, List.setIfInBounds_toArray, List.set_cons_zero, List.set_cons_succ, List.getElem_toArray, List.getElem_cons_succ, List.getElem_cons_zero]
    refine wpAnyH_take (i := 6) (v := ?_) rfl (by kernel_rfl) (by kernel_rfl) (by kernel_rfl) (fun _ _ _ h => h) (Or.inl ⟨by rfl, ?_⟩) (by assumption) ?_
    rotate_left
    · intro w' hSw
      go_simp
      try with_reducible rfl
    try simp only [Act.put, List.setIfInBounds_toArray, List.set_cons_zero, List.set_cons_succ, List.getElem_toArray, List.getElem_cons_succ, List.getElem_cons_zero]
    refine wpAnyH_take (i := 10) (v := ?_) rfl (by kernel_rfl) (by kernel_rfl) (by kernel_rfl) (fun _ _ _ h => h) (Or.inl ⟨by rfl, ?_⟩) (by assumption) ?_
    rotate_left
    · intro w' hSw
      go_simp
      try with_reducible rfl
    try simp only [Act.put, List.setIfInBounds_toArray, List.set_cons_zero, List.set_cons_succ, List.getElem_toArray, List.getElem_cons_succ, List.getElem_cons_zero]
    refine wpAnyH_take (i := 14) (v := ?_) rfl (by kernel_rfl) (by kernel_rfl) (by kernel_rfl) (fun _ _ _ h => h) (Or.inl ⟨by rfl, ?_⟩) (by assumption) ?_
    rotate_left
    · intro w' hSw
      go_simp
      try with_reducible rfl
    try simp only [Act.put, List.setIfInBounds_toArray, List.set_cons_zero, List.set_cons_succ, List.getElem_toArray, List.getElem_cons_succ, List.getElem_cons_zero]
    refine wpAnyH_take (i := 18) (v := ?_) rfl (by kernel_rfl) (by kernel_rfl) (by kernel_rfl) (fun _ _ _ h => h) (Or.inl ⟨by rfl, ?_⟩) (by assumption) ?_
    rotate_left
    · intro w' hSw
      go_simp
      try with_reducible rfl
    try simp only [Act.put, List.setIfInBounds_toArray, List.set_cons_zero, List.set_cons_succ, List.getElem_toArray, List.getElem_cons_succ, List.getElem_cons_zero]
    refine wpAnyH_take (i := 19) (v := ?_) rfl (by kernel_rfl) (by kernel_rfl) (by kernel_rfl) (fun _ _ _ h => h) (Or.inl ⟨by rfl, ?_⟩) (by assumption) ?_
    rotate_left
    · intro w' hSw
      go_simp
      try with_reducible rfl
    try simp only [Act.put, List.setIfInBounds_toArray, List.set_cons_zero, List.set_cons_succ, List.getElem_toArray, List.getElem_cons_succ, List.getElem_cons_zero]
    refine wpAnyH_take (i := 20) (v := ?_) rfl (by kernel_rfl) (by kernel_rfl) (by kernel_rfl) (fun _ _ _ h => h) (Or.inl ⟨by rfl, ?_⟩) (by assumption) ?_
    rotate_left
    · intro w' hSw
      go_simp
      try with_reducible rfl
    try simp only [Act.put, List.setIfInBounds_toArray, List.set_cons_zero, List.set_cons_succ, List.getElem_toArray, List.getElem_cons_succ, List.getElem_cons_zero]
    refine wpAnyH_take (i := 21) (v := ?_) rfl (by kernel_rfl) (by kernel_rfl) (by kernel_rfl) (fun _ _ _ h => h) (Or.inl ⟨by rfl, ?_⟩) (by assumption) ?_
    rotate_left
    · intro w' hSw
      go_simp
      try with_reducible rfl
    try simp only [Act.put, List.setIfInBounds_toArray, List.set_cons_zero, List.set_cons_succ, List.getElem_toArray, List.getElem_cons_succ, List.getElem_cons_zero]
    refine wpAnyH_take (i := 22) (v := ?_) rfl (by kernel_rfl) (by kernel_rfl) (by kernel_rfl) (fun _ _ _ h => h) (Or.inl ⟨by rfl, ?_⟩) (by assumption) ?_
    rotate_left
    · intro w' hSw
      go_simp
      try with_reducible rfl
    try simp only [Act.put, List.setIfInBounds_toArray, List.set_cons_zero, List.set_cons_succ, List.getElem_toArray, List.getElem_cons_succ, List.getElem_cons_zero]
    refine wpAnyH_ready (rs := [23]) (by kernel_rfl) (by simp) ?_
    refine AllReadyH.cons rfl (fun K hK => ?_) AllReadyH.nil
    go_simp
    refine (HRn.out _).mono ?_
    rintro e w5 ⟨rfl, rfl⟩
    refine hK.out _ _ (hHeld) (fun hHeld2 => ?_)
    clear hK K hHeld
    rename_i hHeld2
    have hHeld := hHeld2
    clear hHeld2
    try simp only [Act.put, List.setIfInBounds_toArray, List.set_cons_zero, List.set_cons_succ, List.getElem_toArray, List.getElem_cons_succ, List.getElem_cons_zero]
    refine wpAnyH_take (i := 24) (v := ?_) rfl (by kernel_rfl) (by kernel_rfl) (by kernel_rfl) (fun _ _ _ h => h) (Or.inl ⟨by rfl, ?_⟩) (by assumption) ?_
    rotate_left
    · intro w' hSw
      go_simp
      try with_reducible rfl
    try simp only [Act.put, List.setIfInBounds_toArray, List.set_cons_zero, List.set_cons_succ, List.getElem_toArray, List.getElem_cons_succ, List.getElem_cons_zero]
    refine wpAnyH_take (i := 25) (v := ?_) rfl (by kernel_rfl) (by kernel_rfl) (by kernel_rfl) (fun _ _ _ h => h) (Or.inl ⟨by rfl, ?_⟩) (by assumption) ?_
    rotate_left
    · intro w' hSw
      go_simp
      try with_reducible rfl
    try simp only [Act.put, List.setIfInBounds_toArray, List.set_cons_zero, List.set_cons_succ, List.getElem_toArray, List.getElem_cons_succ, List.getElem_cons_zero]
    refine wpAnyH_take (i := 26) (v := ?_) rfl (by kernel_rfl) (by kernel_rfl) (by kernel_rfl) (fun _ _ _ h => h) (Or.inl ⟨by rfl, ?_⟩) (by assumption) ?_
    rotate_left
    · intro w' hSw
      go_simp
      try with_reducible rfl
    try simp only [Act.put, List.setIfInBounds_toArray, List.set_cons_zero, List.set_cons_succ, List.getElem_toArray, List.getElem_cons_succ, List.getElem_cons_zero]
    refine wpAnyH_take (i := 27) (v := ?_) rfl (by kernel_rfl) (by kernel_rfl) (by kernel_rfl) (fun _ _ _ h => h) (Or.inl ⟨by rfl, ?_⟩) (by assumption) ?_
    rotate_left
    · intro w' hSw
      go_simp
      try with_reducible rfl
    try simp only [Act.put, List.setIfInBounds_toArray, List.set_cons_zero, List.set_cons_succ, List.getElem_toArray, List.getElem_cons_succ, List.getElem_cons_zero]
    refine wpAnyH_take (i := 28) (v := _) rfl (by kernel_rfl) (by kernel_rfl) (by kernel_rfl) (fun _ _ _ h => h) (yields_blk 37 _ w.heap.size 0 37 #[intV l1, intV c1, intV l2, intV c2, strV es] #[intV l1, intV c1, intV l2, intV c2, strV es] _ (by rfl) rfl (by rfl) (fun w' h => h.blk HB3.out (fun h => h)) Tryz.underlying37 rfl infoRe1 (fun j _ => by rw [Nat.zero_add])) (by assumption) ?_
    try simp only [Act.put, List.setIfInBounds_toArray, List.set_cons_zero, List.set_cons_succ, List.getElem_toArray, List.getElem_cons_succ, List.getElem_cons_zero]
    refine wpAnyH_ready (rs := [29]) (by kernel_rfl) (by simp) ?_
    refine AllReadyH.cons rfl (fun K hK => ?_) AllReadyH.nil
    go_simp
    refine (HOw.out _).mono ?_
    rintro e w5 ⟨rfl, hf5⟩
    refine hK.out _ _ (ff0 hHeld hf5) (fun hHeld2 => ?_)
    clear hK K hHeld
    rename_i hHeld2
    have hHeld := hHeld2
    clear hHeld2
    have HF5 := Lib.hid hf5
    clear hf5
    try simp only [Act.put, List.setIfInBounds_toArray, List.set_cons_zero, List.set_cons_succ, List.getElem_toArray, List.getElem_cons_succ, List.getElem_cons_zero]
    refine wpAnyH_ready (rs := [30]) (by kernel_rfl) (by simp) ?_
    refine AllReadyH.cons rfl (fun K hK => ?_) AllReadyH.nil
    go_simp
    refine (HEn.out _).mono ?_
    rintro e w6 ⟨rfl, hf6⟩
    refine hK.out _ _ (ff0 hHeld hf6) (fun hHeld2 => ?_)
    clear hK K hHeld
    rename_i hHeld2
    have hHeld := hHeld2
    clear hHeld2
    have HF6 := Lib.hid (ff0 HF5.out hf6)
    clear hf6
    try simp only [Act.put, List.setIfInBounds_toArray, List.set_cons_zero, List.set_cons_succ, List.getElem_toArray, List.getElem_cons_succ, List.getElem_cons_zero]
    refine wpAnyH_take (i := 31) (v := ?_) rfl (by kernel_rfl) (by kernel_rfl) (by kernel_rfl) (fun _ _ _ h => h) (Or.inl ⟨by rfl, ?_⟩) (by assumption) ?_
    rotate_left
    · intro w' hSw
      go_simp
      try with_reducible rfl
    try simp only [Act.put, List.setIfInBounds_toArray, List.set_cons_zero, List.set_cons_succ, List.getElem_toArray, List.getElem_cons_succ, List.getElem_cons_zero]
    refine wpAnyH_take (i := 32) (v := ?_) rfl (by kernel_rfl) (by kernel_rfl) (by kernel_rfl) (fun _ _ _ h => h) (Or.inl ⟨by rfl, ?_⟩) (by assumption) ?_
    rotate_left
    · intro w' hSw
      go_simp
      try with_reducible rfl
    try simp only [Act.put, List.setIfInBounds_toArray, List.set_cons_zero, List.set_cons_succ, List.getElem_toArray, List.getElem_cons_succ, List.getElem_cons_zero]
    refine wpAnyH_done (by kernel_rfl) ?_ _
    have hfr := ff0 (Fr.drew W4 (fun _ => False)) HF6.out
    have HB6 := Lib.hid (hfr.blk HB3.out (fun h => h))
    have HFF := Lib.hid (ff0 HF3.out hfr)
    clear hHeld hfr HF5 HF6 HB3 HF3 HD3 HEn HTn HLn HRn HDn HLt
    go_wp2_with fail
    refine (HN.out w6 HFF.out).mono ?_
    rintro e w7 hn7
    by_cases hfit : Fits s
    · obtain ⟨g1, rfl, hg1, ht1, hf7⟩ := new_fits hn7 hfit
      have HT1 := Lib.hid ht1
      have HF7 := Lib.hid (ff0 HFF.out hf7)
      have HB7 := Lib.hid (hf7.blk HB6.out (fun h => h))
      have HG1 := Lib.hid (Nat.le_trans HFF.out.size hg1)
      have HFt := Lib.hid hfit
      clear hn7 ht1 hf7 hg1 hfit HB6 HFF
      go_wp2_with fail
      refine (HN.out w7 HF7.out).mono ?_
      rintro e w8 hn8
      obtain ⟨g2, rfl, hg2, ht2, hf8⟩ := new_fits hn8 HFt.out
      have HT1b := Lib.hid (HT1.out.kept hf8)
      have HT2 := Lib.hid ht2
      have HF8 := Lib.hid (ff0 HF7.out hf8)
      have HB8 := Lib.hid (hf8.blk HB7.out (fun h => h))
      have hne12 : g2 ≠ g1 := by
        obtain ⟨cs, hcs⟩ := HT1.out.blk
        have := hcs.lt
        omega
      have HNE := Lib.hid hne12
      clear hn8 ht2 hf8 hg2 hne12 HT1 HF7 HB7
      go_wp2_with (refine wpList_load_blk 37 _ w.heap.size 0 37 #[intV l1, intV c1, intV l2, intV c2, strV es] #[intV l1, intV c1, intV l2, intV c2, strV es] _ (by rfl) rfl rfl HB8.out Tryz.underlying37 rfl infoRe1 (fun j _ => by rw [Nat.zero_add]) ?_)
      refine (HOw.out w8).mono ?_
      rintro e w9 ⟨rfl, hf9⟩
      have HF9 := Lib.hid (ff0 HF8.out hf9)
      have HE9 := Lib.hid (HE.out w9 _ _ _ (ff0 HF8.out hf9) (HT1b.out.kept hf9))
      have HT9 := Lib.hid (HT2.out.kept hf9)
      have HC9 := Lib.hid (HT1b.out.kept hf9).blk
      clear hf9
      go_wp2_with fail
      refine HE9.out.mono ?_
      rintro e w10 ⟨rfl, -, hf10⟩
      have HT10 := Lib.hid (tText_any (Exists.elim HC9.out fun _ hc => HT9.out.far hf10 hc HNE.out))
      have HF10 := Lib.hid (fr_tab HF9.out hf10 HG1.out)
      clear hf10
      go_wp2_with fail
      refine HT10.out.mono ?_
      rintro e w11 ⟨rfl, hf11⟩
      have HF11 := Lib.hid (ff0 HF10.out hf11)
      clear hf11
      go_wp2_with fail
      have HA := Lib.hid (HW.out _ HF11.out)
      refine HA.out.mono ?_
      rintro e wz ⟨rfl, hfz⟩
      have HFZ := Lib.hid (ff0 HF11.out hfz)
      clear hfz
      go_wp2_with fail
      go_ret
      exact ⟨rfl, HFZ.out⟩
    · obtain ⟨rfl, hf7⟩ := new_great hn7 hfit
      have HF7 := Lib.hid (ff0 HFF.out hf7)
      have HFt := Lib.hid hfit
      clear hn7 hf7 hfit
      go_wp2_with fail
      refine (HN.out w7 HF7.out).mono ?_
      rintro e w8 hn8
      obtain ⟨rfl, hf8⟩ := new_great hn8 HFt.out
      have HF8 := Lib.hid (ff0 HF7.out hf8)
      clear hn8 hf8
      go_wp2_with fail
      have HA := Lib.hid (HW.out _ HF8.out)
      refine HA.out.mono ?_
      rintro e wz ⟨rfl, hfz⟩
      have HFZ := Lib.hid (ff0 HF8.out hfz)
      clear hfz
      go_wp2_with fail
      go_ret
      exact ⟨rfl, HFZ.out⟩
  · have HLt := Lib.hid (fun (W : World) => HL.out W false (by simp [hx]))
    unfold edV edC at *
    clear hw hs he HL hx
    go_enter Tryz.func8, Tryz.ntmps8
    go_wp2_with fail
    have HLt1 := Lib.hid (HLt.out (w.alloc (.cells #[intV l1, intV c1, intV l2, intV c2, strV es] 37)))
    rw [show (w.alloc (.cells #[intV l1, intV c1, intV l2, intV c2, strV es] 37)).heap.size = w.heap.size + 1 by simp] at HLt1
    refine HLt1.out.mono ?_
    rintro e w2 ⟨rfl, hf2⟩
    have hf12 := ff0 (Fr.new (w.alloc (.cells #[intV l1, intV c1, intV l2, intV c2, strV es] 37)) (.cells #[intV l1, intV c1, intV l2, intV c2, strV es] 37) (fun _ => False)) hf2
    have HB2 := Lib.hid (hf12.blk (Blk.made w 37 #[intV l1, intV c1, intV l2, intV c2, strV es]) (fun h => h))
    have HF2 := Lib.hid (ff0 (Fr.new w (.cells #[intV l1, intV c1, intV l2, intV c2, strV es] 37) (fun _ => False)) hf12)
    clear hf2 hf12 HLt1
    go_wp2_with fail
    have HA := Lib.hid (HW.out _ HF2.out)
    refine HA.out.mono ?_
    rintro e wz ⟨rfl, hfz⟩
    have HFZ := Lib.hid (ff0 HF2.out hfz)
    clear hfz
    go_wp2_with fail
    go_ret
    exact ⟨rfl, HFZ.out⟩
end Go.Proofs.YtodcnbejnchmhaaGreatDoor
namespace Go.Proofs.YtodcnbejnchmhaaGreatDoor
open Go.Rope hiding Bs
open Go.RowKit Go.Mem Go.Lin Go.Dcm

/- the document's answer: Fits, Do -/
set_option maxRecDepth 100000 in
theorem r3_lines (l : Bs) (w : World) (hl : l.length ≤ 20000) : Calls Tryz.prog 25 #[strV l] w fun e w' => ∃ A c, e = .returned (.slice A (feeds l + 1) c) ∧ Fr w w' (fun _ => False) := by
  refine (S3.rLines_any l w hl).mono ?_
  rintro e w' ⟨v, rfl, hs, hf⟩
  obtain ⟨A, c, rfl, -⟩ := S3.strs_rd hs
  rw [lines_len]
  exact ⟨A, c, rfl, hf⟩
set_option maxRecDepth 100000 in
theorem Fits_any (l : Bs) (w : World) (x : Bool) (hx : x = true ↔ Fits l) : Calls Tryz.prog 12 #[strV l] w fun e w' => e = .returned (.bool x) ∧ Fr w w' (fun _ => False) := by
  have hz := str_size l
  have HX := Lib.hid hx
  clear hx
  by_cases h1 : l.length ≤ 20000
  · have HL := Lib.hid (r3_lines l w h1)
    have hf := feeds_le l
    by_cases h2 : feeds l + 1 ≤ 400
    · obtain rfl : x = true := HX.out.2 ⟨h1, h2⟩
      have h3 : ((feeds l : Int) + 1) ≤ 400 := by omega
      go_enter Tryz.func12, Tryz.ntmps12
      go_wp2_with fail
      refine HL.out.mono ?_
      rintro e w2 ⟨A, c, rfl, hf2⟩
      have HF2 := Lib.hid hf2
      clear hf2
      go_wp2_with fail
      go_ret
      exact ⟨by simp, HF2.out⟩
    · obtain rfl : x = false := by rw [Bool.eq_false_iff]; intro e; exact h2 (HX.out.1 e).2
      go_enter Tryz.func12, Tryz.ntmps12
      go_wp2_with fail
      refine HL.out.mono ?_
      rintro e w2 ⟨A, c, rfl, hf2⟩
      have HF2 := Lib.hid hf2
      clear hf2
      go_wp2_with fail
      go_ret
      exact ⟨by simp; omega, HF2.out⟩
  · obtain rfl : x = false := by rw [Bool.eq_false_iff]; intro e; exact h1 (HX.out.1 e).1
    go_enter Tryz.func12, Tryz.ntmps12
    go_wp2_with fail
    go_ret
    exact ⟨rfl, Fr.refl _ _⟩
/-- how many lines Do tells -/
def doD (l : Bs) (e : EdL) : Int := if (editD l e).2 = 0 then (feeds e.s : Int) + 1 else 0
def DoR (l : Bs) (e : EdL) (w : World) (en : Ending) (w' : World) : Prop := en = .returned (.tuple #[strV (editD l e).1, intV (doD l e), intV (editD l e).2]) ∧ Fr w w' (fun _ => False)
theorem do_of {l : Bs} {e : EdL} {t : Bs} {k : Int} (h : editD l e = (t, k)) : doD l e = if k = 0 then (feeds e.s : Int) + 1 else 0 := by unfold doD; rw [h]
theorem offset_le {l : Bs} {i c : Int} {b : Nat} (h : S3.offsetD l i c = ((b : Int), 0)) : b ≤ l.length := by
  by_cases k : OkP l i c
  · rw [offset_ok k] at h
    have := (Prod.mk.inj h).1
    have := (pos_le k).2.2.2
    omega
  · rw [offset_no k] at h
    exact absurd (Prod.mk.inj h).2 (by decide)
theorem splice_lt {l : Bs} {a b : Nat} {s : Bs} (hb : b ≤ l.length) (h : S3.spliceD l (a : Int) (b : Int) s = ([], 2)) : b < a := by
  refine Decidable.byContradiction fun hn => ?_
  rw [splice_of s hb (by omega)] at h
  split at h
  · exact absurd (Prod.mk.inj h).2 (by decide)
  · exact absurd (Prod.mk.inj h).2 (by decide)
theorem splice_le {l : Bs} {a b : Nat} {s t : Bs} {k : Int} (hk : k ≠ 2) (h : S3.spliceD l (a : Int) (b : Int) s = (t, k)) : a ≤ b := by
  refine Decidable.byContradiction fun hn => ?_
  rw [splice_back s (by omega)] at h
  exact hk (Prod.mk.inj h).2.symm
set_option maxRecDepth 100000 in
set_option maxHeartbeats 3200000 in
theorem Do_any (l : Bs) (e : EdL) (w : World) (hl : l.length ≤ 20000) (hz : e.s.length ≤ 20100) : Calls Tryz.prog 16 #[strV l, edV e] w (DoR l e w) := by
  have HO := Lib.hid (fun (W : World) (o k : Int) (h : S3.offsetD l e.l1 e.c1 = (o, k)) => S3.rOffset_any l e.l1 e.c1 W hl o k h)
  have HP := Lib.hid (fun (W : World) (o k : Int) (h : S3.offsetD l e.l2 e.c2 = (o, k)) => S3.rOffset_any l e.l2 e.c2 W hl o k h)
  have HSp := Lib.hid (fun (W : World) (a b : Int) (t : Bs) (k : Int) (h : S3.spliceD l a b e.s = (t, k)) => S3.rSplice_any l a b e.s W hl hz t k h)
  unfold DoR
  cases ed_way l e with
  | no1 h1 hd =>
    rw [do_of hd, hd]
    obtain ⟨⟨o2, k2⟩, h2⟩ : ∃ p, S3.offsetD l e.l2 e.c2 = p := ⟨_, rfl⟩
    have HO1 := Lib.hid (fun (W : World) => HO.out W _ _ h1)
    have HP1 := Lib.hid (fun (W : World) => HP.out W _ _ h2)
    obtain ⟨l1, c1, l2, c2, es⟩ := e
    unfold edV edC
    clear HO HP HSp h1 h2 hd
    go_enter Tryz.func16, Tryz.ntmps16
    go_wp2_with fail
    refine (HO1.out _).mono ?_
    rintro e w2 ⟨rfl, hf2⟩
    have HB2 := Lib.hid (hf2.blk (Blk.made w 37 #[intV l1, intV c1, intV l2, intV c2, strV es]) (fun h => h))
    have HF2 := Lib.hid (ff0 (Fr.new w (.cells #[intV l1, intV c1, intV l2, intV c2, strV es] 37) (fun _ => False)) hf2)
    have c2' := blkc HB2.out 2 _ rfl
    have c3' := blkc HB2.out 3 _ rfl
    clear hf2
    go_wp2_with fail
    refine (HP1.out _).mono ?_
    rintro e w3 ⟨rfl, hf3⟩
    have HB3 := Lib.hid (hf3.blk HB2.out (fun h => h))
    have HF3 := Lib.hid (ff0 HF2.out hf3)
    clear hf3 c2' c3'
    go_wp2_with fail
    go_ret3
    exact ⟨rfl, HF3.out⟩
  | no2 a h1 h2 hd =>
    rw [do_of hd, hd]
    have HO1 := Lib.hid (fun (W : World) => HO.out W _ _ h1)
    have HP1 := Lib.hid (fun (W : World) => HP.out W _ _ h2)
    obtain ⟨l1, c1, l2, c2, es⟩ := e
    unfold edV edC
    clear HO HP HSp h1 h2 hd
    go_enter Tryz.func16, Tryz.ntmps16
    go_wp2_with fail
    refine (HO1.out _).mono ?_
    rintro e w2 ⟨rfl, hf2⟩
    have HB2 := Lib.hid (hf2.blk (Blk.made w 37 #[intV l1, intV c1, intV l2, intV c2, strV es]) (fun h => h))
    have HF2 := Lib.hid (ff0 (Fr.new w (.cells #[intV l1, intV c1, intV l2, intV c2, strV es] 37) (fun _ => False)) hf2)
    have c2' := blkc HB2.out 2 _ rfl
    have c3' := blkc HB2.out 3 _ rfl
    clear hf2
    go_wp2_with fail
    refine (HP1.out _).mono ?_
    rintro e w3 ⟨rfl, hf3⟩
    have HB3 := Lib.hid (hf3.blk HB2.out (fun h => h))
    have HF3 := Lib.hid (ff0 HF2.out hf3)
    clear hf3 c2' c3'
    go_wp2_with fail
    go_ret3
    exact ⟨rfl, HF3.out⟩
  | back a b h1 h2 h3 hd =>
    rw [do_of hd, hd]
    have hba := splice_lt (offset_le h2) h3
    have hba : (b : Int) < (a : Int) := by omega
    have HO1 := Lib.hid (fun (W : World) => HO.out W _ _ h1)
    have HP1 := Lib.hid (fun (W : World) => HP.out W _ _ h2)
    obtain ⟨l1, c1, l2, c2, es⟩ := e
    unfold edV edC
    clear HO HP HSp h1 h2 h3 hd
    go_enter Tryz.func16, Tryz.ntmps16
    go_wp2_with fail
    refine (HO1.out _).mono ?_
    rintro e w2 ⟨rfl, hf2⟩
    have HB2 := Lib.hid (hf2.blk (Blk.made w 37 #[intV l1, intV c1, intV l2, intV c2, strV es]) (fun h => h))
    have HF2 := Lib.hid (ff0 (Fr.new w (.cells #[intV l1, intV c1, intV l2, intV c2, strV es] 37) (fun _ => False)) hf2)
    have c2' := blkc HB2.out 2 _ rfl
    have c3' := blkc HB2.out 3 _ rfl
    clear hf2
    go_wp2_with fail
    refine (HP1.out _).mono ?_
    rintro e w3 ⟨rfl, hf3⟩
    have HB3 := Lib.hid (hf3.blk HB2.out (fun h => h))
    have HF3 := Lib.hid (ff0 HF2.out hf3)
    clear hf3 c2' c3'
    go_wp2_with fail
    go_ret3
    exact ⟨rfl, HF3.out⟩
  | large a b h1 h2 h3 hd =>
    rw [do_of hd, hd]
    have hab := splice_le (by decide) h3
    have hab : (a : Int) ≤ (b : Int) := by omega
    have HS1 := Lib.hid (fun (W : World) => HSp.out W _ _ _ _ h3)
    have HO1 := Lib.hid (fun (W : World) => HO.out W _ _ h1)
    have HP1 := Lib.hid (fun (W : World) => HP.out W _ _ h2)
    obtain ⟨l1, c1, l2, c2, es⟩ := e
    unfold edV edC
    clear HO HP HSp h1 h2 h3 hd
    go_enter Tryz.func16, Tryz.ntmps16
    go_wp2_with fail
    refine (HO1.out _).mono ?_
    rintro e w2 ⟨rfl, hf2⟩
    have HB2 := Lib.hid (hf2.blk (Blk.made w 37 #[intV l1, intV c1, intV l2, intV c2, strV es]) (fun h => h))
    have HF2 := Lib.hid (ff0 (Fr.new w (.cells #[intV l1, intV c1, intV l2, intV c2, strV es] 37) (fun _ => False)) hf2)
    have c2' := blkc HB2.out 2 _ rfl
    have c3' := blkc HB2.out 3 _ rfl
    clear hf2
    go_wp2_with fail
    refine (HP1.out _).mono ?_
    rintro e w3 ⟨rfl, hf3⟩
    have HB3 := Lib.hid (hf3.blk HB2.out (fun h => h))
    have HF3 := Lib.hid (ff0 HF2.out hf3)
    clear hf3 c2' c3'
    have c4' := blkc HB3.out 4 _ rfl
    go_wp2_with fail
    refine (HS1.out _).mono ?_
    rintro e w4 ⟨rfl, hf4⟩
    have HB4 := Lib.hid (hf4.blk HB3.out (fun h => h))
    have HF4 := Lib.hid (ff0 HF3.out hf4)
    clear hf4 c4'
    go_wp2_with fail
    go_ret3
    exact ⟨rfl, HF4.out⟩
  | many a b t h1 h2 h3 ht hm hd =>
    rw [do_of hd, hd]
    have hab := splice_le (by decide) h3
    have hab : (a : Int) ≤ (b : Int) := by omega
    have HS1 := Lib.hid (fun (W : World) => HSp.out W _ _ _ _ h3)
    have HT1 := Lib.hid (fun (W : World) => Fits_any t W false (by unfold Fits; simp; omega))
    have HO1 := Lib.hid (fun (W : World) => HO.out W _ _ h1)
    have HP1 := Lib.hid (fun (W : World) => HP.out W _ _ h2)
    obtain ⟨l1, c1, l2, c2, es⟩ := e
    unfold edV edC
    clear HO HP HSp h1 h2 h3 hd
    go_enter Tryz.func16, Tryz.ntmps16
    go_wp2_with fail
    refine (HO1.out _).mono ?_
    rintro e w2 ⟨rfl, hf2⟩
    have HB2 := Lib.hid (hf2.blk (Blk.made w 37 #[intV l1, intV c1, intV l2, intV c2, strV es]) (fun h => h))
    have HF2 := Lib.hid (ff0 (Fr.new w (.cells #[intV l1, intV c1, intV l2, intV c2, strV es] 37) (fun _ => False)) hf2)
    have c2' := blkc HB2.out 2 _ rfl
    have c3' := blkc HB2.out 3 _ rfl
    clear hf2
    go_wp2_with fail
    refine (HP1.out _).mono ?_
    rintro e w3 ⟨rfl, hf3⟩
    have HB3 := Lib.hid (hf3.blk HB2.out (fun h => h))
    have HF3 := Lib.hid (ff0 HF2.out hf3)
    clear hf3 c2' c3'
    have c4' := blkc HB3.out 4 _ rfl
    go_wp2_with fail
    refine (HS1.out _).mono ?_
    rintro e w4 ⟨rfl, hf4⟩
    have HB4 := Lib.hid (hf4.blk HB3.out (fun h => h))
    have HF4 := Lib.hid (ff0 HF3.out hf4)
    clear hf4 c4'
    go_wp2_with fail
    refine (HT1.out _).mono ?_
    rintro e w5 ⟨rfl, hf5⟩
    have HF5 := Lib.hid (ff0 HF4.out hf5)
    clear hf5
    go_wp2_with fail
    go_ret3
    exact ⟨rfl, HF5.out⟩
  | ok i j a b t hi hj h1 h2 h3 ht hm hd hs hab hij hc =>
    rw [do_of hd, hd]
    have hab : (a : Int) ≤ (b : Int) := by omega
    have hel : e.s.length ≤ 20000 := by
      rw [hc, List.length_append, List.length_append] at ht
      omega
    have HS1 := Lib.hid (fun (W : World) => HSp.out W _ _ _ _ h3)
    have HT1 := Lib.hid (fun (W : World) => Fits_any t W true (by unfold Fits; simp; omega))
    have HL1 := Lib.hid (fun (W : World) => r3_lines e.s W hel)
    have hfs := feeds_le e.s
    have HO1 := Lib.hid (fun (W : World) => HO.out W _ _ h1)
    have HP1 := Lib.hid (fun (W : World) => HP.out W _ _ h2)
    obtain ⟨l1, c1, l2, c2, es⟩ := e
    unfold edV edC
    clear HO HP HSp h1 h2 h3 hd hs hc hi hj
    go_enter Tryz.func16, Tryz.ntmps16
    go_wp2_with fail
    refine (HO1.out _).mono ?_
    rintro e w2 ⟨rfl, hf2⟩
    have HB2 := Lib.hid (hf2.blk (Blk.made w 37 #[intV l1, intV c1, intV l2, intV c2, strV es]) (fun h => h))
    have HF2 := Lib.hid (ff0 (Fr.new w (.cells #[intV l1, intV c1, intV l2, intV c2, strV es] 37) (fun _ => False)) hf2)
    have c2' := blkc HB2.out 2 _ rfl
    have c3' := blkc HB2.out 3 _ rfl
    clear hf2
    go_wp2_with fail
    refine (HP1.out _).mono ?_
    rintro e w3 ⟨rfl, hf3⟩
    have HB3 := Lib.hid (hf3.blk HB2.out (fun h => h))
    have HF3 := Lib.hid (ff0 HF2.out hf3)
    clear hf3 c2' c3'
    have c4' := blkc HB3.out 4 _ rfl
    go_wp2_with fail
    refine (HS1.out _).mono ?_
    rintro e w4 ⟨rfl, hf4⟩
    have HB4 := Lib.hid (hf4.blk HB3.out (fun h => h))
    have HF4 := Lib.hid (ff0 HF3.out hf4)
    clear hf4 c4'
    go_wp2_with fail
    refine (HT1.out _).mono ?_
    rintro e w5 ⟨rfl, hf5⟩
    have HF5 := Lib.hid (ff0 HF4.out hf5)
    have c4' := blkc (hf5.blk HB4.out (fun h => h)) 4 _ rfl
    clear hf5
    go_wp2_with fail
    refine (HL1.out _).mono ?_
    rintro e w6 ⟨A6, c6, rfl, hf6⟩
    have HF6 := Lib.hid (ff0 HF5.out hf6)
    clear hf6
    go_wp2_with fail
    go_ret3
    exact ⟨rfl, HF6.out⟩
end Go.Proofs.YtodcnbejnchmhaaGreatDoor
namespace Go.Proofs.YtodcnbejnchmhaaGreatDoor
open Go.Rope hiding Bs
open Go.RowKit Go.Mem Go.Lin Go.Dcm

set_option maxRecDepth 100000 in
set_option maxHeartbeats 6400000 in
theorem great_any (s : Bs) (e : EdL) (w : World) (hw : LOk w) (hs : s.length ≤ maxLen) (he : EdR e) : Calls Tryz.prog 4 #[strV s, edV e] w (TrueT w) := by
  have HW := Lib.hid (fun (W : World) (f : Fr w W (fun _ => False)) => alive11_any W (hw.fr f))
  have hsm := hs
  have hem := he.s
  unfold maxLen at hsm hem
  obtain ⟨l1, c1, l2, c2, es⟩ := e
  have hem : es.length ≤ 2 ^ 63 - 1 := hem
  have hz1 := str_size s
  have hz2 := str_size es
  by_cases hx : 20010 < s.length
  · unfold edV edC
    clear hw hs he
    go_enter Tryz.func4, Tryz.ntmps4
    go_wp2_with fail
    have HF2 := Lib.hid (Fr.new w (.cells #[intV l1, intV c1, intV l2, intV c2, strV es] 37) (fun _ => False))
    have HA := Lib.hid (HW.out _ HF2.out)
    refine HA.out.mono ?_
    rintro e wz ⟨rfl, hfz⟩
    have HFZ := Lib.hid (ff0 HF2.out hfz)
    clear hfz
    go_wp2_with fail
    go_ret
    exact ⟨rfl, HFZ.out⟩
  · by_cases hy : 20010 < es.length
    · have hx' : s.length ≤ 20010 := by omega
      unfold edV edC
      clear hw hs he hx
      go_enter Tryz.func4, Tryz.ntmps4
      go_wp2_with fail
      have HF2 := Lib.hid (Fr.new w (.cells #[intV l1, intV c1, intV l2, intV c2, strV es] 37) (fun _ => False))
      have HA := Lib.hid (HW.out _ HF2.out)
      refine HA.out.mono ?_
      rintro e wz ⟨rfl, hfz⟩
      have HFZ := Lib.hid (ff0 HF2.out hfz)
      clear hfz
      go_wp2_with fail
      go_ret
      exact ⟨rfl, HFZ.out⟩
    · have hx' : s.length ≤ 20010 := by omega
      have hy' : es.length ≤ 20010 := by omega
      have HOw := Lib.hid (fun (W : World) => Own_any ⟨l1, c1, l2, c2, es⟩ W)
      have HN := Lib.hid (fun (W : World) (f : Fr w W (fun _ => False)) => tNew_any s W (hw.fr f) (by omega))
      have HE := Lib.hid (fun (W : World) (g : Nat) (l : Bs) (n : Int) (f : Fr w W (fun _ => False)) (h : TabAt W g l n) => tEdit_any h (hw.fr f) ⟨l1, c1, l2, c2, es⟩ (by show es.length ≤ 20100; omega))
      have HFi := Lib.hid (fun (W : World) => Fits_any s W)
      have HDo := Lib.hid (fun (W : World) (h : s.length ≤ 20000) => Do_any s ⟨l1, c1, l2, c2, es⟩ W h (show es.length ≤ 20100 by omega))
      unfold edV edC at *
      clear hw hs he hx hy
      go_enter Tryz.func4, Tryz.ntmps4
      go_wp2_with fail
      have HB2 := Lib.hid (Blk.made w 37 #[intV l1, intV c1, intV l2, intV c2, strV es])
      have HF2 := Lib.hid (Fr.new w (.cells #[intV l1, intV c1, intV l2, intV c2, strV es] 37) (fun _ => False))
      refine (HN.out _ HF2.out).mono ?_
      rintro e w3 hn3
      by_cases hfit : Fits s
      · obtain ⟨g, rfl, hg, ht, hf3⟩ := new_fits hn3 hfit
        have hne := fun w => eq_nil_tab w g
        have HT3 := Lib.hid ht
        have HF3 := Lib.hid (ff0 HF2.out hf3)
        have HB3 := Lib.hid (hf3.blk HB2.out (fun h => h))
        have HG := Lib.hid (Nat.le_trans HF2.out.size hg)
        have HL := Lib.hid hfit.1
        have HFi3 := Lib.hid (HFi.out w3 true (by simp [hfit]))
        clear hn3 ht hf3 hg hfit HB2 HF2
        go_wp2_with fail
        refine HFi3.out.mono ?_
        rintro e w4 ⟨rfl, hf4⟩
        have HT4 := Lib.hid (HT3.out.kept hf4)
        have HF4 := Lib.hid (ff0 HF3.out hf4)
        have HB4 := Lib.hid (hf4.blk HB3.out (fun h => h))
        clear hf4
        go_wp2_with (refine wpList_load_blk 37 _ w.heap.size 0 37 #[intV l1, intV c1, intV l2, intV c2, strV es] #[intV l1, intV c1, intV l2, intV c2, strV es] _ (by rfl) rfl rfl HB4.out Tryz.underlying37 rfl infoRe1 (fun j _ => by rw [Nat.zero_add]) ?_)
        refine (HDo.out w4 HL.out).mono ?_
        rintro e w5 ⟨rfl, hf5⟩
        have HT5 := Lib.hid (HT4.out.kept hf5)
        have HF5 := Lib.hid (ff0 HF4.out hf5)
        have HB5 := Lib.hid (hf5.blk HB4.out (fun h => h))
        clear hf5
        go_wp2_with (refine wpList_load_blk 37 _ w.heap.size 0 37 #[intV l1, intV c1, intV l2, intV c2, strV es] #[intV l1, intV c1, intV l2, intV c2, strV es] _ (by rfl) rfl rfl HB5.out Tryz.underlying37 rfl infoRe1 (fun j _ => by rw [Nat.zero_add]) ?_)
        refine (HOw.out w5).mono ?_
        rintro e w6 ⟨rfl, hf6⟩
        have HE6 := Lib.hid (HE.out w6 _ _ _ (ff0 HF5.out hf6) (HT5.out.kept hf6))
        have HF6 := Lib.hid (ff0 HF5.out hf6)
        clear hf6
        go_wp2_with fail
        refine HE6.out.mono ?_
        rintro e w7 ⟨rfl, ht7, hf7⟩
        have HT7 := Lib.hid (tText_any ht7)
        have HF7 := Lib.hid (fr_tab HF6.out hf7 HG.out)
        clear ht7 hf7
        go_wp2_with fail
        refine HT7.out.mono ?_
        rintro e w8 ⟨rfl, hf8⟩
        have HF8 := Lib.hid (ff0 HF7.out hf8)
        clear hf8
        go_wp2_with fail
        have HA := Lib.hid (HW.out _ HF8.out)
        refine HA.out.mono ?_
        rintro e wz ⟨rfl, hfz⟩
        have HFZ := Lib.hid (ff0 HF8.out hfz)
        clear hfz
        go_wp2_with fail
        go_ret
        exact ⟨rfl, HFZ.out⟩
      · obtain ⟨rfl, hf3⟩ := new_great hn3 hfit
        have HF3 := Lib.hid (ff0 HF2.out hf3)
        have HFi3 := Lib.hid (HFi.out w3 false (by simp [hfit]))
        clear hn3 hf3 hfit
        go_wp2_with fail
        refine HFi3.out.mono ?_
        rintro e w4 ⟨rfl, hf4⟩
        have HF4 := Lib.hid (ff0 HF3.out hf4)
        clear hf4
        go_wp2_with fail
        have HA := Lib.hid (HW.out _ HF4.out)
        refine HA.out.mono ?_
        rintro e wz ⟨rfl, hfz⟩
        have HFZ := Lib.hid (ff0 HF4.out hfz)
        clear hfz
        go_wp2_with fail
        go_ret
        exact ⟨rfl, HFZ.out⟩
end Go.Proofs.YtodcnbejnchmhaaGreatDoor
namespace Go.Proofs.YtodcnbejnchmhaaGreatDoor
open Go.Rope hiding Bs
open Go.RowKit Go.Mem Go.Lin Go.Dcm

/- an edit put back -/
theorem feeds_step {es : Bs} {i : Nat} (h : i < es.length) : feeds (es.take (i + 1)) = feeds (es.take i) + (if es[i] = 10 then 1 else 0) := by
  rw [List.take_succ_eq_append_getElem h, feeds_app]
  congr 1
  by_cases hc : es[i] = 10
  · rw [hc]; simp [feeds]
  · simp [feeds, hc]
end Go.Proofs.YtodcnbejnchmhaaGreatDoor
