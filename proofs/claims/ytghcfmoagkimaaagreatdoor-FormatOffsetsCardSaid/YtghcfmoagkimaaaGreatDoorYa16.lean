import Derived.Test.YtghcfmoagkimaaaGreatDoorYa14
import Derived.Test.YtghcfmoagkimaaaGreatDoorYa15
import Derived.Deep.RegionHeld3
import Derived.Deep.LoopGhost
import Derived.Test.YtghcfmoagkimaaaGreatDoorYa09
import Derived.Test.YtghcfmoagkimaaaGreatDoorYa13
import Derived.Deep.Slices
namespace Go.Proofs.YtghcfmoagkimaaaGreatDoor
open Go.RowKit Go.Mem Go.Lin Go.Xpd

theorem flat_take {X : Type} {f : X → List Value} {k : Nat} (hf : ∀ x, (f x).length = k) (L : List X) (i : Nat) (h : i ≤ L.length) : ((L.flatMap f).drop (0 * k)).take ((i - 0) * k) = (L.take i).flatMap f := by
  have e : L.flatMap f = (L.take i).flatMap f ++ (L.drop i).flatMap f := by rw [← List.flatMap_append, List.take_append_drop]
  have hl : ((L.take i).flatMap f).length = i * k := by rw [flat_len f k hf, List.length_take]; congr 1; omega
  rw [Nat.zero_mul, List.drop_zero, Nat.sub_zero, e, List.take_left' hl]
theorem flat_drop {X : Type} {f : X → List Value} {k : Nat} (hf : ∀ x, (f x).length = k) (L : List X) (j : Nat) (h : j ≤ L.length) : ((L.flatMap f).drop (j * k)).take ((L.length - j) * k) = (L.drop j).flatMap f := by
  have e : L.flatMap f = (L.take j).flatMap f ++ (L.drop j).flatMap f := by rw [← List.flatMap_append, List.take_append_drop]
  have hl : ((L.take j).flatMap f).length = j * k := by rw [flat_len f k hf, List.length_take]; congr 1; omega
  have hd : ((L.drop j).flatMap f).length = (L.length - j) * k := by rw [flat_len f k hf, List.length_drop]
  rw [e, List.drop_left' hl, ← hd, List.take_length]
/-- what Of says, as numbers -/
theorem num_of {x : DayL} {y m n j : Int} (h : S6.ofD x.k x.d x.w y m = (n, j)) : (j = 0 → numX x y m = some n) ∧ (j ≠ 0 → numX x y m = none) := by
  unfold S6.ofD at h
  unfold numX
  by_cases hb : Go.Dfm.rightB x.k x.d x.w = true
  · rw [if_pos hb] at h
    have ed : S6.dayOf x.k x.d y m = dayX x y m := rfl
    rw [ed] at h
    by_cases hr : Go.Civil.rightB y m (dayX x y m) = true
    · have e0 : S6.daysE y m (dayX x y m) = 0 := if_pos hr
      have ek : S6.daysK y m (dayX x y m) = Go.Civil.numD y m (dayX x y m) := if_pos hr
      rw [e0, if_pos rfl, ek] at h
      rw [if_pos ⟨hb, hr⟩]
      obtain ⟨h1, h2⟩ := Prod.mk.inj h
      exact ⟨fun _ => by rw [h1], fun hj => absurd h2.symm hj⟩
    · have e0 : S6.daysE y m (dayX x y m) = 6 := if_neg hr
      rw [e0, if_neg (by decide)] at h
      rw [if_neg (fun c => hr c.2)]
      obtain ⟨h1, h2⟩ := Prod.mk.inj h
      exact ⟨fun hj => by omega, fun _ => rfl⟩
  · rw [if_neg hb] at h
    rw [if_neg (fun c => hb c.1)]
    obtain ⟨h1, h2⟩ := Prod.mk.inj h
    exact ⟨fun hj => by omega, fun _ => rfl⟩
/-- where a fire is put in -/
def aheadN (f : FireL) : List FireL → Nat
  | [] => 0
  | g :: l => if befo g f then aheadN f l + 1 else 0
theorem ahead_le (f : FireL) : ∀ l, aheadN f l ≤ l.length
  | [] => Nat.le_refl _
  | g :: l => by
    unfold aheadN
    have := ahead_le f l
    split
    · rw [List.length_cons]; omega
    · exact Nat.zero_le _
theorem ahead_put (f : FireL) : ∀ l, putF f l = l.take (aheadN f l) ++ f :: l.drop (aheadN f l)
  | [] => rfl
  | g :: l => by
    unfold putF aheadN
    split
    · rw [ahead_put f l]; rfl
    · rfl
theorem ahead_yes {f g : FireL} : ∀ {l : List FireL} {i : Nat}, i < aheadN f l → l[i]? = some g → befo g f
  | [], i, h, _ => by simp [aheadN] at h
  | x :: l, i, h, hg => by
    unfold aheadN at h
    split at h
    · rename_i hx
      cases i with
      | zero =>
        have hg : x = g := by simpa using hg
        rw [← hg]; exact hx
      | succ i => exact ahead_yes (l := l) (i := i) (by omega) (by simpa using hg)
    · omega
theorem ahead_no {f g : FireL} : ∀ {l : List FireL}, l[aheadN f l]? = some g → ¬ befo g f
  | [], h => by simp at h
  | x :: l, h => by
    unfold aheadN at h
    split at h
    · exact ahead_no (by simpa using h)
    · rename_i hx
      have h : x = g := by simpa using h
      rw [← h]; exact hx
theorem info_rfire : (Tryz.prog.info? 134).map (fun i => (i.zero, i.size, i.bytes)) = some (some (.agg #[intV 0, intV 0, intV 0, intV 0]), 4, 32) := by kernel_rfl
theorem infoRF (f : FireL) : (Tryz.prog.info? 134).map (·.size) = some (fireC f).size := show _ = some 4 by kernel_rfl
/-- a row of fires -/
abbrev FiresAt (w : World) (base : Nat) (v : Value) (l : List FireL) : Prop := Own w base 134 4 fireL v l
theorem FiresAt.at_ {w : World} {A : Option Addr} {l : List FireL} (h : Rd w 4 A l.length (l.flatMap fireL)) {i : Nat} {f : FireL} (hf : l[i]? = some f) : ∃ b off, A = some ⟨b, off, none⟩ ∧ ∀ j, j < (fireC f).size → w.cell? ⟨b, off + i * 4 + j, none⟩ = (fireC f)[j]? := by
  obtain ⟨b, off, e, hc⟩ := rows_at fireL_len h hf
  refine ⟨b, off, e, fun j hj => ?_⟩
  rw [hc j hj]
  show (fireC f).toList[j]? = _
  simp
theorem before_yes {f g : FireL} (h : befo f g) (w : World) : Calls Tryz.prog 107 #[fireV f, fireV g] w fun e w' => e = .returned (.bool true) ∧ Fr w w' (fun _ => False) := by
  have := before_any f g w
  rwa [decide_eq_true h] at this
theorem before_no {f g : FireL} (h : ¬ befo f g) (w : World) : Calls Tryz.prog 107 #[fireV f, fireV g] w fun e w' => e = .returned (.bool false) ∧ Fr w w' (fun _ => False) := by
  have := before_any f g w
  rwa [decide_eq_false h] at this
def YrR (l : List RuleL) (y : Int) (w : World) (g : Nat) (v5 v6 : Value) (wr : World) : Prop := ∃ i : Nat, i + g = l.length ∧ v6 = intV i ∧ FiresAt wr w.heap.size v5 (yearN l y i) ∧ Fr w wr (fun _ => False)
def YrI (f : FireL) (P : List FireL) (w W : World) (gf : Nat) (v5 : Value) (g : Nat) (v10 : Value) (wr : World) : Prop := ∃ i : Nat, i + g = aheadN f P ∧ v10 = intV i ∧ FiresAt wr w.heap.size v5 P ∧ Blk wr gf 134 (fireC f) ∧ Fr W wr (fun _ => False)
set_option maxHeartbeats 3200000 in
set_option maxRecDepth 100000 in
theorem year_any (l : List RuleL) (A : Option Addr) (cap : Nat) (y : Int) (w : World) (hl : RusAt w A l) (hn : l.length ≤ 1000) (hr : ∀ r ∈ l, -700000 ≤ r.at_.s ∧ r.at_.s ≤ 700000) :
    Calls Tryz.prog 106 #[.slice A l.length cap, intV y] w fun e w' => ∃ v, e = .returned v ∧ FiresAt w' w.heap.size v (yearD l y) ∧ Fr w w' (fun _ => False) := by
  have HL := Lib.hid hl
  have HR := Lib.hid hr
  clear hl hr
  go_enter Tryz.func106, Tryz.ntmps106
  go_wp2_with fail
  go_loopg [5, 6, 7, 8, 9, 10] l.length (fun g v5 v6 _ _ _ _ wr => YrR l y w g v5 v6 wr)
  case atStart => exact ⟨0, by simp, rfl, own_none _ _ _ _ _, Fr.refl _ _⟩
  case round =>
    obtain ⟨i, hi, rfl, ho, hf⟩ := hrel
    by_cases hlt : i < l.length
    · obtain ⟨r, hri⟩ : ∃ r, l[i]? = some r := ⟨l[i], List.getElem?_eq_getElem hlt⟩
      have hrs := HR.out r (List.mem_of_getElem? hri)
      obtain ⟨b, off, hA, hc⟩ := (HL.out.kept hf).at_ hri
      subst hA
      have i0 : (i : Int) < (l.length : Int) := by omega
      have HRI := Lib.hid hri
      obtain ⟨P, hP⟩ : ∃ P, yearN l y i = P := ⟨_, rfl⟩
      have hPl : P.length ≤ 1000 := by have := yearN_len l y i; rw [hP] at this; omega
      rw [hP] at ho
      obtain ⟨A5, cp5, hv5, hpc, -, hrd⟩ := ho.rd
      subst hv5
      have HP := Lib.hid hP
      clear hrd hP
      have HO := Lib.hid ho
      have HF := Lib.hid hf
      have HC := Lib.hid hc
      have c1 : wr.cell? ⟨b, off + i * 11 + 1, none⟩ = some (.int .i64 r.fr) := HC.out 1 (show 1 < 11 by decide)
      have c2 : wr.cell? ⟨b, off + i * 11 + 2, none⟩ = some (.int .i64 r.to) := HC.out 2 (show 2 < 11 by decide)
      clear hri ho hf hc
      by_cases hla : lasts r y
      · obtain ⟨y1, y2, y3, y4⟩ := hla
        obtain ⟨n, j, hnj⟩ : ∃ n j, S6.ofD r.on.k r.on.d r.on.w y r.month = (n, j) := ⟨_, _, rfl⟩
        have HO4 := Lib.hid (fun W => S6.rOf4_any r.on.k r.on.d r.on.w y r.month W n j hnj)
        obtain ⟨N0, N1⟩ := num_of hnj
        have c3 : wr.cell? ⟨b, off + i * 11 + 3, none⟩ = some (.int .i64 r.month) := HC.out 3 (show 3 < 11 by decide)
        have c4 : wr.cell? ⟨b, off + i * 11 + 4, none⟩ = some (.int .i64 r.on.k) := HC.out 4 (show 4 < 11 by decide)
        have c5 : wr.cell? ⟨b, off + i * 11 + 5, none⟩ = some (.int .i64 r.on.d) := HC.out 5 (show 5 < 11 by decide)
        have c6 : wr.cell? ⟨b, off + i * 11 + 6, none⟩ = some (.int .i64 r.on.w) := HC.out 6 (show 6 < 11 by decide)
        have HS0 := Lib.hid (show Fr wr wr (fun _ => False) ∧ wr.cell? ⟨b, off + i * 11 + 3, none⟩ = some (.int .i64 r.month) ∧ wr.cell? ⟨b, off + i * 11 + 4, none⟩ = some (.int .i64 r.on.k) ∧ wr.cell? ⟨b, off + i * 11 + 5, none⟩ = some (.int .i64 r.on.d) ∧ wr.cell? ⟨b, off + i * 11 + 6, none⟩ = some (.int .i64 r.on.w) from ⟨Fr.refl _ _, c3, c4, c5, c6⟩)
        clear hnj c3 c4 c5 c6
        go_wp2_with fail
        clear c1 c2
        go_region_held3 (fun w' => Fr wr w' (fun _ => False) ∧ w'.cell? ⟨b, off + i * 11 + 3, none⟩ = some (.int .i64 r.month) ∧ w'.cell? ⟨b, off + i * 11 + 4, none⟩ = some (.int .i64 r.on.k) ∧ w'.cell? ⟨b, off + i * 11 + 5, none⟩ = some (.int .i64 r.on.d) ∧ w'.cell? ⟨b, off + i * 11 + 6, none⟩ = some (.int .i64 r.on.w))
          (first | with_reducible exact kq4 HS0.out (Fr.drew _ _) | (rename_i hS _ _; with_reducible exact kq4 hS hf5) | with_reducible exact kq4 hS hf5 | with_reducible assumption)
          ((go_at_call 71; refine (HO4.out _).mono ?_; rintro e w5 ⟨rfl, hf5⟩))
        rename_i hS
        have HF5 := Lib.hid hS.1
        clear hS HS0
        by_cases hj : j = 0
        · subst hj
          have hnum := N0 rfl
          have hnr := numX_range hnum
          obtain ⟨a, ha⟩ : ∃ a, n * 86400 + r.at_.s = a := ⟨_, rfl⟩
          have HAT := Lib.hid (show atR r y = some a by rw [← ha]; exact atR_num ⟨y1, y2, y3, y4⟩ hnum)
          have c7 : w5.cell? ⟨b, off + i * 11 + 7, none⟩ = some (.int .i64 r.at_.s) := cell_far HF5.out (HC.out 7 (show 7 < 11 by decide)) (fun h => h)
          have HA := Lib.hid ha
          clear N0 N1 hnum y1 y2 y3 y4 ha
          go_wp2_with fail
          have hb9 : Blk (w5.alloc (.cells #[.int .i64 (i : Int), .int .i64 y, .int .i64 (n * 86400 + r.at_.s), .int .i64 0] 134)) w5.heap.size 134 (fireC ⟨i, y, a, 0⟩) := by rw [← HA.out]; exact Blk.made _ _ _
          have hf9 := Fr.new w5 (.cells #[.int .i64 (i : Int), .int .i64 y, .int .i64 (n * 86400 + r.at_.s), .int .i64 0] 134) (fun _ => False)
          generalize w5.alloc (.cells #[.int .i64 (i : Int), .int .i64 y, .int .i64 (n * 86400 + r.at_.s), .int .i64 0] 134) = W at *
          generalize w5.heap.size = gf at *
          have HB9 := Lib.hid hb9
          have HF9 := Lib.hid (ff4 (ff4 HF.out HF5.out) hf9)
          have HO9 := Lib.hid ((HO.out.kept HF5.out).kept hf9)
          clear hb9 hf9 c7 hnr
          go_loopg [10] (aheadN ⟨i, y, a, 0⟩ P) (fun g v10 wr => YrI ⟨i, y, a, 0⟩ P w W gf (.slice A5 P.length cp5) g v10 wr)
          case atStart => exact ⟨0, by simp, rfl, HO9.out, HB9.out, Fr.refl _ _⟩
          case round =>
            obtain ⟨m, hm, rfl, ho2, hb2, hf2⟩ := hrel
            have hle := ahead_le ⟨i, y, a, 0⟩ P
            obtain ⟨A6, c6, hv6, -, -, hrd⟩ := ho2.rd
            cases hv6
            have HO2 := Lib.hid ho2
            have HB2 := Lib.hid hb2
            have HF2 := Lib.hid hf2
            have HR2 := Lib.hid hrd
            clear ho2 hb2 hf2 hrd
            by_cases hmt : m < aheadN ⟨i, y, a, 0⟩ P
            · have m0 : (m : Int) < (P.length : Int) := by omega
              obtain ⟨g, hg⟩ : ∃ g, P[m]? = some g := ⟨P[m], List.getElem?_eq_getElem (by omega)⟩
              have HBE := Lib.hid (fun W => before_yes (ahead_yes hmt hg) W)
              obtain ⟨b2, off2, hA2, hc2⟩ := FiresAt.at_ HR2.out hg
              subst hA2
              have HC2 := Lib.hid hc2
              clear hg hc2
              go_wp2_with fail
              refine wp_region_held_drew (S := fun w' => Fr wr w' (fun _ => False)) (by kernel_rfl) (Fr.drew wr _) (fun hHeld => ?_)
              refine wpAnyH_take (i := 0) (v := ?_) rfl (by kernel_rfl) (by kernel_rfl) (by kernel_rfl) (fun _ _ _ h => h) (Or.inl ⟨by rfl, ?_⟩) (by assumption) ?_
              rotate_left
              · intro w' hSw
                go_simp
                try with_reducible rfl
              try simp only [Act.put, List.setIfInBounds_toArray, List.set_cons_zero, List.set_cons_succ, List.getElem_toArray, List.getElem_cons_zero]
              refine wpAnyH_take (i := 1) (v := ?_) rfl (by kernel_rfl) (by kernel_rfl) (by kernel_rfl) (fun _ _ _ h => h) (Or.inl ⟨by rfl, ?_⟩) (by assumption) ?_
              rotate_left
              · intro w' hSw
                go_simp
                try with_reducible rfl
              try simp only [Act.put, List.setIfInBounds_toArray, List.set_cons_zero, List.set_cons_succ, List.getElem_toArray, List.getElem_cons_succ, List.getElem_cons_zero]
              refine wpAnyH_take (i := 2) (v := ?_) rfl (by kernel_rfl) (by kernel_rfl) (by kernel_rfl) (fun _ _ _ h => h) (Or.inl ⟨by rfl, ?_⟩) (by assumption) ?_
              rotate_left
              · intro w' hSw
                go_simp
                try with_reducible rfl
              try simp only [Act.put, List.setIfInBounds_toArray, List.set_cons_zero, List.set_cons_succ, List.getElem_toArray, List.getElem_cons_succ, List.getElem_cons_zero]
              refine wpAnyH_take (i := 3) (v := .bool true) rfl (by kernel_rfl) (by kernel_rfl) (by kernel_rfl) (fun _ _ _ h => h) (Or.inl ⟨by rfl, ?_⟩) (by assumption) ?_
              · intro w' hSw
                go_simp
              try simp only [Act.put, List.setIfInBounds_toArray, List.set_cons_zero, List.set_cons_succ, List.getElem_toArray, List.getElem_cons_succ, List.getElem_cons_zero]
              refine wpAnyH_take (i := 4) (v := ?_) rfl (by kernel_rfl) (by kernel_rfl) (by kernel_rfl) (fun _ _ _ h => h) (Or.inl ⟨by rfl, ?_⟩) (by assumption) ?_
              rotate_left
              · intro w' hSw
                go_simp
                try with_reducible rfl
              try simp only [Act.put, List.setIfInBounds_toArray, List.set_cons_zero, List.set_cons_succ, List.getElem_toArray, List.getElem_cons_succ, List.getElem_cons_zero]
              refine wpAnyH_take (i := 5) (v := ?_) rfl (by kernel_rfl) (by kernel_rfl) (by kernel_rfl) (fun _ _ _ h => h) (Or.inl ⟨by rfl, ?_⟩) (by assumption) ?_
              rotate_left
              · intro w' hSw
                go_simp
                try with_reducible rfl
              try simp only [Act.put, List.setIfInBounds_toArray, List.set_cons_zero, List.set_cons_succ, List.getElem_toArray, List.getElem_cons_succ, List.getElem_cons_zero]
              refine wpAnyH_take (i := 6) (v := ?_) rfl (by kernel_rfl) (by kernel_rfl) (by kernel_rfl) (fun _ _ _ h => h) (Or.inl ⟨by rfl, ?_⟩) (by assumption) ?_
              rotate_left
              · intro w' hSw
                go_simp
                try with_reducible rfl
              try simp only [Act.put, List.setIfInBounds_toArray, List.set_cons_zero, List.set_cons_succ, List.getElem_toArray, List.getElem_cons_succ, List.getElem_cons_zero]
              refine wpAnyH_take (i := 7) (v := ?_) rfl (by kernel_rfl) (by kernel_rfl) (by kernel_rfl) (fun _ _ _ h => h) (Or.inl ⟨by rfl, ?_⟩) (by assumption) ?_
              rotate_left
              · intro w' hSw
                go_simp
                try with_reducible rfl
              try simp only [Act.put, List.setIfInBounds_toArray, List.set_cons_zero, List.set_cons_succ, List.getElem_toArray, List.getElem_cons_succ, List.getElem_cons_zero]
              refine wpAnyH_take (i := 8) (v := _) rfl (by kernel_rfl) (by kernel_rfl) (by kernel_rfl) (fun _ _ _ h => h) (yields_at 134 _ b2 (off2 + m * 4) (fireC g) _ (by rfl) rfl (by rfl) (fun w' h => cells_far h HC2.out (Nat.le_refl _) (fun h => h)) Tryz.underlying134 rfl (infoRF _)) (by assumption) ?_
              try simp only [Act.put, List.setIfInBounds_toArray, List.set_cons_zero, List.set_cons_succ, List.getElem_toArray, List.getElem_cons_succ, List.getElem_cons_zero]
              refine wpAnyH_take (i := 9) (v := _) rfl (by kernel_rfl) (by kernel_rfl) (by kernel_rfl) (fun _ _ _ h => h) (yields_at 134 _ gf 0 (fireC ⟨i, y, a, 0⟩) _ (by rfl) rfl (by rfl) (fun w' h j hj => by rw [Nat.zero_add]; exact cell_at (h.blk HB2.out (fun h => h)) j) Tryz.underlying134 rfl (infoRF _)) (by assumption) ?_
              try simp only [Act.put, List.setIfInBounds_toArray, List.set_cons_zero, List.set_cons_succ, List.getElem_toArray, List.getElem_cons_succ, List.getElem_cons_zero]
              refine wpAnyH_ready (rs := [10]) (by kernel_rfl) (by simp) ?_
              refine AllReadyH.cons rfl (fun K hK => ?_) AllReadyH.nil
              go_simp
              refine (HBE.out _).mono ?_
              rintro e w10 ⟨rfl, hf10⟩
              refine hK.out _ _ (ff4 hHeld hf10) (fun hHeld2 => ?_)
              clear hK K hHeld hf10
              rename_i hHeld2
              have hHeld := hHeld2
              clear hHeld2
              try simp only [Act.put, List.setIfInBounds_toArray, List.set_cons_zero, List.set_cons_succ, List.getElem_toArray, List.getElem_cons_succ, List.getElem_cons_zero]
              refine wpAnyH_take (i := 11) (v := ?_) rfl (by kernel_rfl) (by kernel_rfl) (by kernel_rfl) (fun _ _ _ h => h) (Or.inl ⟨by rfl, ?_⟩) (by assumption) ?_
              rotate_left
              · intro w' hSw
                go_simp
                try with_reducible rfl
              try simp only [Act.put, List.setIfInBounds_toArray, List.set_cons_zero, List.set_cons_succ, List.getElem_toArray, List.getElem_cons_succ, List.getElem_cons_zero]
              refine wpAnyH_done (by kernel_rfl) ?_ _
              go_wp2_with fail
              go_roundg (aheadN ⟨i, y, a, 0⟩ P - (m + 1))
              case measure => omega
              case rel => exact ⟨m + 1, by omega, by go_num, HO2.out.kept hHeld, hHeld.blk HB2.out (fun h => h), ff4 HF2.out hHeld⟩
            · obtain hmt : m = aheadN ⟨i, y, a, 0⟩ P := by omega
              have HM := Lib.hid hmt
              have hc0 := fun w => run_cut_hi (P := Tryz.prog) w 130 134 4 Tryz.underlying130 (fun w => by kernel_rfl) A5 P.length cp5 m (by omega)
              have hc1 := fun w => run_cut_lo (P := Tryz.prog) w 130 134 4 Tryz.underlying130 (fun w => by kernel_rfl) A5 P.length cp5 m (by omega)
              by_cases hend : m < P.length
              · have m0 : (m : Int) < (P.length : Int) := by omega
                obtain ⟨g, hg⟩ : ∃ g, P[m]? = some g := ⟨P[m], List.getElem?_eq_getElem hend⟩
                have HBE := Lib.hid (fun W => before_no (ahead_no (hmt ▸ hg)) W)
                obtain ⟨b2, off2, hA2, hc2⟩ := FiresAt.at_ HR2.out hg
                subst hA2
                have HC2 := Lib.hid hc2
                clear hg hc2 hmt
                go_wp2_with fail
                refine wp_region_held_drew (S := fun w' => Fr wr w' (fun _ => False)) (by kernel_rfl) (Fr.drew wr _) (fun hHeld => ?_)
                refine wpAnyH_take (i := 0) (v := ?_) rfl (by kernel_rfl) (by kernel_rfl) (by kernel_rfl) (fun _ _ _ h => h) (Or.inl ⟨by rfl, ?_⟩) (by assumption) ?_
                rotate_left
                · intro w' hSw
                  go_simp
                  try with_reducible rfl
                try simp only [Act.put, List.setIfInBounds_toArray, List.set_cons_zero, List.set_cons_succ, List.getElem_toArray, List.getElem_cons_zero]
                refine wpAnyH_take (i := 1) (v := ?_) rfl (by kernel_rfl) (by kernel_rfl) (by kernel_rfl) (fun _ _ _ h => h) (Or.inl ⟨by rfl, ?_⟩) (by assumption) ?_
                rotate_left
                · intro w' hSw
                  go_simp
                  try with_reducible rfl
                try simp only [Act.put, List.setIfInBounds_toArray, List.set_cons_zero, List.set_cons_succ, List.getElem_toArray, List.getElem_cons_succ, List.getElem_cons_zero]
                refine wpAnyH_take (i := 2) (v := ?_) rfl (by kernel_rfl) (by kernel_rfl) (by kernel_rfl) (fun _ _ _ h => h) (Or.inl ⟨by rfl, ?_⟩) (by assumption) ?_
                rotate_left
                · intro w' hSw
                  go_simp
                  try with_reducible rfl
                try simp only [Act.put, List.setIfInBounds_toArray, List.set_cons_zero, List.set_cons_succ, List.getElem_toArray, List.getElem_cons_succ, List.getElem_cons_zero]
                refine wpAnyH_take (i := 3) (v := .bool true) rfl (by kernel_rfl) (by kernel_rfl) (by kernel_rfl) (fun _ _ _ h => h) (Or.inl ⟨by rfl, ?_⟩) (by assumption) ?_
                · intro w' hSw
                  go_simp
                try simp only [Act.put, List.setIfInBounds_toArray, List.set_cons_zero, List.set_cons_succ, List.getElem_toArray, List.getElem_cons_succ, List.getElem_cons_zero]
                refine wpAnyH_take (i := 4) (v := ?_) rfl (by kernel_rfl) (by kernel_rfl) (by kernel_rfl) (fun _ _ _ h => h) (Or.inl ⟨by rfl, ?_⟩) (by assumption) ?_
                rotate_left
                · intro w' hSw
                  go_simp
                  try with_reducible rfl
                try simp only [Act.put, List.setIfInBounds_toArray, List.set_cons_zero, List.set_cons_succ, List.getElem_toArray, List.getElem_cons_succ, List.getElem_cons_zero]
                refine wpAnyH_take (i := 5) (v := ?_) rfl (by kernel_rfl) (by kernel_rfl) (by kernel_rfl) (fun _ _ _ h => h) (Or.inl ⟨by rfl, ?_⟩) (by assumption) ?_
                rotate_left
                · intro w' hSw
                  go_simp
                  try with_reducible rfl
                try simp only [Act.put, List.setIfInBounds_toArray, List.set_cons_zero, List.set_cons_succ, List.getElem_toArray, List.getElem_cons_succ, List.getElem_cons_zero]
                refine wpAnyH_take (i := 6) (v := ?_) rfl (by kernel_rfl) (by kernel_rfl) (by kernel_rfl) (fun _ _ _ h => h) (Or.inl ⟨by rfl, ?_⟩) (by assumption) ?_
                rotate_left
                · intro w' hSw
                  go_simp
                  try with_reducible rfl
                try simp only [Act.put, List.setIfInBounds_toArray, List.set_cons_zero, List.set_cons_succ, List.getElem_toArray, List.getElem_cons_succ, List.getElem_cons_zero]
                refine wpAnyH_take (i := 7) (v := ?_) rfl (by kernel_rfl) (by kernel_rfl) (by kernel_rfl) (fun _ _ _ h => h) (Or.inl ⟨by rfl, ?_⟩) (by assumption) ?_
                rotate_left
                · intro w' hSw
                  go_simp
                  try with_reducible rfl
                try simp only [Act.put, List.setIfInBounds_toArray, List.set_cons_zero, List.set_cons_succ, List.getElem_toArray, List.getElem_cons_succ, List.getElem_cons_zero]
                refine wpAnyH_take (i := 8) (v := _) rfl (by kernel_rfl) (by kernel_rfl) (by kernel_rfl) (fun _ _ _ h => h) (yields_at 134 _ b2 (off2 + m * 4) (fireC g) _ (by rfl) rfl (by rfl) (fun w' h => cells_far h HC2.out (Nat.le_refl _) (fun h => h)) Tryz.underlying134 rfl (infoRF _)) (by assumption) ?_
                try simp only [Act.put, List.setIfInBounds_toArray, List.set_cons_zero, List.set_cons_succ, List.getElem_toArray, List.getElem_cons_succ, List.getElem_cons_zero]
                refine wpAnyH_take (i := 9) (v := _) rfl (by kernel_rfl) (by kernel_rfl) (by kernel_rfl) (fun _ _ _ h => h) (yields_at 134 _ gf 0 (fireC ⟨i, y, a, 0⟩) _ (by rfl) rfl (by rfl) (fun w' h j hj => by rw [Nat.zero_add]; exact cell_at (h.blk HB2.out (fun h => h)) j) Tryz.underlying134 rfl (infoRF _)) (by assumption) ?_
                try simp only [Act.put, List.setIfInBounds_toArray, List.set_cons_zero, List.set_cons_succ, List.getElem_toArray, List.getElem_cons_succ, List.getElem_cons_zero]
                refine wpAnyH_ready (rs := [10]) (by kernel_rfl) (by simp) ?_
                refine AllReadyH.cons rfl (fun K hK => ?_) AllReadyH.nil
                go_simp
                refine (HBE.out _).mono ?_
                rintro e w10 ⟨rfl, hf10⟩
                refine hK.out _ _ (ff4 hHeld hf10) (fun hHeld2 => ?_)
                clear hK K hHeld hf10
                rename_i hHeld2
                have hHeld := hHeld2
                clear hHeld2
                try simp only [Act.put, List.setIfInBounds_toArray, List.set_cons_zero, List.set_cons_succ, List.getElem_toArray, List.getElem_cons_succ, List.getElem_cons_zero]
                refine wpAnyH_take (i := 11) (v := ?_) rfl (by kernel_rfl) (by kernel_rfl) (by kernel_rfl) (fun _ _ _ h => h) (Or.inl ⟨by rfl, ?_⟩) (by assumption) ?_
                rotate_left
                · intro w' hSw
                  go_simp
                  try with_reducible rfl
                try simp only [Act.put, List.setIfInBounds_toArray, List.set_cons_zero, List.set_cons_succ, List.getElem_toArray, List.getElem_cons_succ, List.getElem_cons_zero]
                refine wpAnyH_done (by kernel_rfl) ?_ _
                go_wp2_with fail
                have HW2 := Lib.hid hHeld
                clear hHeld
                refine wp_region_held_drew (S := fun w' => Fr w10 w' (fun _ => False)) (by kernel_rfl) (Fr.drew w10 _) (fun hHeld => ?_)
                refine wpAnyH_take (i := 1) (v := ?_) rfl (by kernel_rfl) (by kernel_rfl) (by kernel_rfl) (fun _ _ _ h => h) (Or.inl ⟨by rfl, ?_⟩) (by assumption) ?_
                rotate_left
                · intro w' hSw
                  go_simp
                  try with_reducible rfl
                try simp only [Act.put, List.setIfInBounds_toArray, List.set_cons_zero, List.set_cons_succ, List.getElem_toArray, List.getElem_cons_succ, List.getElem_cons_zero]
                refine wpAnyH_take (i := 2) (v := ?_) rfl (by kernel_rfl) (by kernel_rfl) (by kernel_rfl) (fun _ _ _ h => h) (Or.inl ⟨by rfl, ?_⟩) (by assumption) ?_
                rotate_left
                · intro w' hSw
                  go_simp
                  try with_reducible rfl
                try simp only [Act.put, List.setIfInBounds_toArray, List.set_cons_zero, List.set_cons_succ, List.getElem_toArray, List.getElem_cons_succ, List.getElem_cons_zero]
                refine wpAnyH_take (i := 3) (v := ?_) rfl (by kernel_rfl) (by kernel_rfl) (by kernel_rfl) (fun _ _ _ h => h) (Or.inl ⟨by rfl, ?_⟩) (by assumption) ?_
                rotate_left
                · intro w' hSw
                  have hc0 := hc0
                  go_simp
                  try with_reducible rfl
                try simp only [Act.put, List.setIfInBounds_toArray, List.set_cons_zero, List.set_cons_succ, List.getElem_toArray, List.getElem_cons_succ, List.getElem_cons_zero]
                refine wpAnyH_take (i := 5) (v := _) rfl (by kernel_rfl) (by kernel_rfl) (by kernel_rfl) (fun _ _ _ h => h) (yields_at 134 _ gf 0 (fireC ⟨i, y, a, 0⟩) _ (by rfl) rfl (by rfl) (fun w' h j hj => by rw [Nat.zero_add]; exact cell_at ((ff4 HW2.out h).blk HB2.out (fun h => h)) j) Tryz.underlying134 rfl (infoRF _)) (by assumption) ?_
                try simp only [Act.put, List.setIfInBounds_toArray, List.set_cons_zero, List.set_cons_succ, List.getElem_toArray, List.getElem_cons_succ, List.getElem_cons_zero]
                refine wpAnyH_take (i := 8) (v := ?_) rfl (by kernel_rfl) (by kernel_rfl) (by kernel_rfl) (fun _ _ _ h => h) (Or.inl ⟨by rfl, ?_⟩) (by assumption) ?_
                rotate_left
                · intro w' hSw
                  go_simp
                  try with_reducible rfl
                try simp only [Act.put, List.setIfInBounds_toArray, List.set_cons_zero, List.set_cons_succ, List.getElem_toArray, List.getElem_cons_succ, List.getElem_cons_zero]
                refine wpAnyH_take (i := 9) (v := ?_) rfl (by kernel_rfl) (by kernel_rfl) (by kernel_rfl) (fun _ _ _ h => h) (Or.inl ⟨by rfl, ?_⟩) (by assumption) ?_
                rotate_left
                · intro w' hSw
                  go_simp
                  try with_reducible rfl
                try simp only [Act.put, List.setIfInBounds_toArray, List.set_cons_zero, List.set_cons_succ, List.getElem_toArray, List.getElem_cons_succ, List.getElem_cons_zero]
                refine wpAnyH_take (i := 10) (v := ?_) rfl (by kernel_rfl) (by kernel_rfl) (by kernel_rfl) (fun _ _ _ h => h) (Or.inl ⟨by rfl, ?_⟩) (by assumption) ?_
                rotate_left
                · intro w' hSw
                  have hc1 := hc1
                  go_simp
                  try with_reducible rfl
                try simp only [Act.put, List.setIfInBounds_toArray, List.set_cons_zero, List.set_cons_succ, List.getElem_toArray, List.getElem_cons_succ, List.getElem_cons_zero]
                have hR9 := Rd.fr HR2.out (ff4 HW2.out (Fr.drew w10 (fun _ => False))) (fun _ _ _ _ h => h)
                have hr1 := hR9.cutA (lo := 0) (hi := m) (cap := cp5) (Nat.zero_le _) (by omega) (by omega)
                have hr4 := hR9.cutA (lo := m) (hi := P.length) (cap := cp5) (by omega) (Nat.le_refl _) (by omega)
                rw [flat_take fireL_len _ _ (by omega)] at hr1
                rw [flat_drop fireL_len _ _ (by omega)] at hr4
                have lt : (P.take m).length = m := by rw [List.length_take]; omega
                have ld : (P.drop m).length = P.length - m := List.length_drop
                refine wpAnyH_insert (f := fireL) (p := P.take m) (q := P.drop m) (x := ⟨i, y, a, 0⟩) 0 4 6 7 11 _ _ _ _ _ rfl rfl rfl rfl rfl (by decide) (by decide) (by decide) (by kernel_rfl) (by kernel_rfl) (by kernel_rfl) (by kernel_rfl) (by kernel_rfl) (by kernel_rfl) (by kernel_rfl) rfl rfl rfl rfl rfl rfl rfl rfl rfl rfl rfl rfl rfl rfl (by decide) (by decide) (by decide) (by decide) (by decide) (by decide) ⟨(by decide : 84 < 97), (by decide : 88 < 97), (by decide : 90 < 97), (by decide : 91 < 97)⟩
                  (Mem.cutA (some ⟨b2, off2, none⟩) cp5 0 4) cp5 (by rw [lt]; rfl) (by rw [lt]; exact hr1) (Mem.cutA (some ⟨b2, off2, none⟩) cp5 m 4) (cp5 - m) (by rw [ld]; rfl) (by rw [ld]; exact hr4) (.agg (fireC ⟨i, y, a, 0⟩)) (fireC ⟨i, y, a, 0⟩) rfl (fun w => by kernel_rfl) (fun w => by kernel_rfl) rfl fireL_one _ 32 Tryz.underlying130 info_rfire rfl (by decide) rfl (by omega) (by omega) (by decide)
                  (fun W hf => ff4 (Fr.drew w10 _) hf) ?_
                intro A9 c9 x0 x1 x2 x3 W9 hS9 ho9 hf9
                clear hHeld
                try simp only [Act.put, List.setIfInBounds_toArray, List.set_cons_zero, List.set_cons_succ, List.getElem_toArray, List.getElem_cons_succ, List.getElem_cons_zero]
                refine wpAnyH_take (i := 12) (v := ?_) rfl (by kernel_rfl) (by kernel_rfl) (by kernel_rfl) (fun _ _ _ h => h) (Or.inl ⟨by rfl, ?_⟩) (by assumption) ?_
                rotate_left
                · intro w' hSw
                  go_simp
                  try with_reducible rfl
                try simp only [Act.put, List.setIfInBounds_toArray, List.set_cons_zero, List.set_cons_succ, List.getElem_toArray, List.getElem_cons_succ, List.getElem_cons_zero]
                refine wpAnyH_done (by kernel_rfl) ?_ _
                have HF12 := Lib.hid (ff4 (ff4 (ff4 HF9.out HF2.out) HW2.out) hS9)
                rw [lt, ld] at ho9
                have HO12 := Lib.hid (own_base ho9 (show w.heap.size ≤ _ from (ff4 (ff4 (ff4 HF9.out HF2.out) HW2.out) (Fr.drew w10 (fun _ => False))).size))
                clear hS9 ho9 hf9 hr1 hr4 hR9 lt ld
                go_wp2_with fail
                go_roundg (l.length - (i + 1))
                case measure => omega
                case rel => exact ⟨i + 1, by omega, by go_num, by rw [yearN_some HRI.out HAT.out, HP.out, ahead_put, ← HM.out]; exact HO12.out, HF12.out⟩
              · have m0 : ¬ ((m : Int) < (P.length : Int)) := by omega
                clear hmt
                go_wp2_with fail
                refine wp_region_held_drew (S := fun w' => Fr wr w' (fun _ => False)) (by kernel_rfl) (Fr.drew wr _) (fun hHeld => ?_)
                refine wpAnyH_take (i := 0) (v := ?_) rfl (by kernel_rfl) (by kernel_rfl) (by kernel_rfl) (fun _ _ _ h => h) (Or.inl ⟨by rfl, ?_⟩) (by assumption) ?_
                rotate_left
                · intro w' hSw
                  go_simp
                  try with_reducible rfl
                try simp only [Act.put, List.setIfInBounds_toArray, List.set_cons_zero, List.set_cons_succ, List.getElem_toArray, List.getElem_cons_zero]
                refine wpAnyH_take (i := 1) (v := ?_) rfl (by kernel_rfl) (by kernel_rfl) (by kernel_rfl) (fun _ _ _ h => h) (Or.inl ⟨by rfl, ?_⟩) (by assumption) ?_
                rotate_left
                · intro w' hSw
                  go_simp
                  try with_reducible rfl
                try simp only [Act.put, List.setIfInBounds_toArray, List.set_cons_zero, List.set_cons_succ, List.getElem_toArray, List.getElem_cons_succ, List.getElem_cons_zero]
                refine wpAnyH_take (i := 2) (v := ?_) rfl (by kernel_rfl) (by kernel_rfl) (by kernel_rfl) (fun _ _ _ h => h) (Or.inl ⟨by rfl, ?_⟩) (by assumption) ?_
                rotate_left
                · intro w' hSw
                  go_simp
                  try with_reducible rfl
                try simp only [Act.put, List.setIfInBounds_toArray, List.set_cons_zero, List.set_cons_succ, List.getElem_toArray, List.getElem_cons_succ, List.getElem_cons_zero]
                refine wpAnyH_take (i := 3) (v := .bool false) rfl (by kernel_rfl) (by kernel_rfl) (by kernel_rfl) (fun _ _ _ h => h) (Or.inl ⟨by rfl, ?_⟩) (by assumption) ?_
                · intro w' hSw
                  go_simp
                try simp only [Act.put, List.setIfInBounds_toArray, List.set_cons_zero, List.set_cons_succ, List.getElem_toArray, List.getElem_cons_succ, List.getElem_cons_zero]
                refine wpAnyH_take (i := 4) (v := ?_) rfl (by kernel_rfl) (by kernel_rfl) (by kernel_rfl) (fun _ _ _ h => h) (Or.inl ⟨by rfl, ?_⟩) (by assumption) ?_
                rotate_left
                · intro w' hSw
                  go_simp
                  try with_reducible rfl
                try simp only [Act.put, List.setIfInBounds_toArray, List.set_cons_zero, List.set_cons_succ, List.getElem_toArray, List.getElem_cons_succ, List.getElem_cons_zero]
                refine wpAnyH_take (i := 5) (v := undef) rfl (by kernel_rfl) (by kernel_rfl) (by kernel_rfl) (fun _ _ _ h => h) (Or.inr ⟨by rfl, rfl⟩) (by assumption) ?_
                try simp only [Act.put, List.setIfInBounds_toArray, List.set_cons_zero, List.set_cons_succ, List.getElem_toArray, List.getElem_cons_succ, List.getElem_cons_zero]
                refine wpAnyH_take (i := 6) (v := undef) rfl (by kernel_rfl) (by kernel_rfl) (by kernel_rfl) (fun _ _ _ h => h) (Or.inr ⟨by rfl, rfl⟩) (by assumption) ?_
                try simp only [Act.put, List.setIfInBounds_toArray, List.set_cons_zero, List.set_cons_succ, List.getElem_toArray, List.getElem_cons_succ, List.getElem_cons_zero]
                refine wpAnyH_take (i := 7) (v := undef) rfl (by kernel_rfl) (by kernel_rfl) (by kernel_rfl) (fun _ _ _ h => h) (Or.inr ⟨by rfl, rfl⟩) (by assumption) ?_
                try simp only [Act.put, List.setIfInBounds_toArray, List.set_cons_zero, List.set_cons_succ, List.getElem_toArray, List.getElem_cons_succ, List.getElem_cons_zero]
                refine wpAnyH_take (i := 8) (v := undef) rfl (by kernel_rfl) (by kernel_rfl) (by kernel_rfl) (fun _ _ _ h => h) (Or.inr ⟨by rfl, rfl⟩) (by assumption) ?_
                try simp only [Act.put, List.setIfInBounds_toArray, List.set_cons_zero, List.set_cons_succ, List.getElem_toArray, List.getElem_cons_succ, List.getElem_cons_zero]
                refine wpAnyH_take (i := 9) (v := undef) rfl (by kernel_rfl) (by kernel_rfl) (by kernel_rfl) (fun _ _ _ h => h) (Or.inr ⟨by rfl, rfl⟩) (by assumption) ?_
                try simp only [Act.put, List.setIfInBounds_toArray, List.set_cons_zero, List.set_cons_succ, List.getElem_toArray, List.getElem_cons_succ, List.getElem_cons_zero]
                refine wpAnyH_take (i := 10) (v := undef) rfl (by kernel_rfl) (by kernel_rfl) (by kernel_rfl) (fun _ _ _ h => h) (Or.inr ⟨by rfl, rfl⟩) (by assumption) ?_
                try simp only [Act.put, List.setIfInBounds_toArray, List.set_cons_zero, List.set_cons_succ, List.getElem_toArray, List.getElem_cons_succ, List.getElem_cons_zero]
                refine wpAnyH_take (i := 11) (v := ?_) rfl (by kernel_rfl) (by kernel_rfl) (by kernel_rfl) (fun _ _ _ h => h) (Or.inl ⟨by rfl, ?_⟩) (by assumption) ?_
                rotate_left
                · intro w' hSw
                  go_simp
                  try with_reducible rfl
                try simp only [Act.put, List.setIfInBounds_toArray, List.set_cons_zero, List.set_cons_succ, List.getElem_toArray, List.getElem_cons_succ, List.getElem_cons_zero]
                refine wpAnyH_done (by kernel_rfl) ?_ _
                go_wp2_with fail
                have HW2 := Lib.hid hHeld
                clear hHeld
                generalize wr.drew = w10 at *
                refine wp_region_held_drew (S := fun w' => Fr w10 w' (fun _ => False)) (by kernel_rfl) (Fr.drew w10 _) (fun hHeld => ?_)
                refine wpAnyH_take (i := 1) (v := ?_) rfl (by kernel_rfl) (by kernel_rfl) (by kernel_rfl) (fun _ _ _ h => h) (Or.inl ⟨by rfl, ?_⟩) (by assumption) ?_
                rotate_left
                · intro w' hSw
                  go_simp
                  try with_reducible rfl
                try simp only [Act.put, List.setIfInBounds_toArray, List.set_cons_zero, List.set_cons_succ, List.getElem_toArray, List.getElem_cons_succ, List.getElem_cons_zero]
                refine wpAnyH_take (i := 2) (v := ?_) rfl (by kernel_rfl) (by kernel_rfl) (by kernel_rfl) (fun _ _ _ h => h) (Or.inl ⟨by rfl, ?_⟩) (by assumption) ?_
                rotate_left
                · intro w' hSw
                  go_simp
                  try with_reducible rfl
                try simp only [Act.put, List.setIfInBounds_toArray, List.set_cons_zero, List.set_cons_succ, List.getElem_toArray, List.getElem_cons_succ, List.getElem_cons_zero]
                refine wpAnyH_take (i := 3) (v := ?_) rfl (by kernel_rfl) (by kernel_rfl) (by kernel_rfl) (fun _ _ _ h => h) (Or.inl ⟨by rfl, ?_⟩) (by assumption) ?_
                rotate_left
                · intro w' hSw
                  have hc0 := hc0
                  go_simp
                  try with_reducible rfl
                try simp only [Act.put, List.setIfInBounds_toArray, List.set_cons_zero, List.set_cons_succ, List.getElem_toArray, List.getElem_cons_succ, List.getElem_cons_zero]
                refine wpAnyH_take (i := 5) (v := _) rfl (by kernel_rfl) (by kernel_rfl) (by kernel_rfl) (fun _ _ _ h => h) (yields_at 134 _ gf 0 (fireC ⟨i, y, a, 0⟩) _ (by rfl) rfl (by rfl) (fun w' h j hj => by rw [Nat.zero_add]; exact cell_at ((ff4 HW2.out h).blk HB2.out (fun h => h)) j) Tryz.underlying134 rfl (infoRF _)) (by assumption) ?_
                try simp only [Act.put, List.setIfInBounds_toArray, List.set_cons_zero, List.set_cons_succ, List.getElem_toArray, List.getElem_cons_succ, List.getElem_cons_zero]
                refine wpAnyH_take (i := 8) (v := ?_) rfl (by kernel_rfl) (by kernel_rfl) (by kernel_rfl) (fun _ _ _ h => h) (Or.inl ⟨by rfl, ?_⟩) (by assumption) ?_
                rotate_left
                · intro w' hSw
                  go_simp
                  try with_reducible rfl
                try simp only [Act.put, List.setIfInBounds_toArray, List.set_cons_zero, List.set_cons_succ, List.getElem_toArray, List.getElem_cons_succ, List.getElem_cons_zero]
                refine wpAnyH_take (i := 9) (v := ?_) rfl (by kernel_rfl) (by kernel_rfl) (by kernel_rfl) (fun _ _ _ h => h) (Or.inl ⟨by rfl, ?_⟩) (by assumption) ?_
                rotate_left
                · intro w' hSw
                  go_simp
                  try with_reducible rfl
                try simp only [Act.put, List.setIfInBounds_toArray, List.set_cons_zero, List.set_cons_succ, List.getElem_toArray, List.getElem_cons_succ, List.getElem_cons_zero]
                refine wpAnyH_take (i := 10) (v := ?_) rfl (by kernel_rfl) (by kernel_rfl) (by kernel_rfl) (fun _ _ _ h => h) (Or.inl ⟨by rfl, ?_⟩) (by assumption) ?_
                rotate_left
                · intro w' hSw
                  have hc1 := hc1
                  go_simp
                  try with_reducible rfl
                try simp only [Act.put, List.setIfInBounds_toArray, List.set_cons_zero, List.set_cons_succ, List.getElem_toArray, List.getElem_cons_succ, List.getElem_cons_zero]
                have hR9 := Rd.fr HR2.out (ff4 HW2.out (Fr.drew w10 (fun _ => False))) (fun _ _ _ _ h => h)
                have hr1 := hR9.cutA (lo := 0) (hi := m) (cap := cp5) (Nat.zero_le _) (by omega) (by omega)
                have hr4 := hR9.cutA (lo := m) (hi := P.length) (cap := cp5) (by omega) (Nat.le_refl _) (by omega)
                rw [flat_take fireL_len _ _ (by omega)] at hr1
                rw [flat_drop fireL_len _ _ (by omega)] at hr4
                have lt : (P.take m).length = m := by rw [List.length_take]; omega
                have ld : (P.drop m).length = P.length - m := List.length_drop
                refine wpAnyH_insert (f := fireL) (p := P.take m) (q := P.drop m) (x := ⟨i, y, a, 0⟩) 0 4 6 7 11 _ _ _ _ _ rfl rfl rfl rfl rfl (by decide) (by decide) (by decide) (by kernel_rfl) (by kernel_rfl) (by kernel_rfl) (by kernel_rfl) (by kernel_rfl) (by kernel_rfl) (by kernel_rfl) rfl rfl rfl rfl rfl rfl rfl rfl rfl rfl rfl rfl rfl rfl (by decide) (by decide) (by decide) (by decide) (by decide) (by decide) ⟨(by decide : 84 < 97), (by decide : 88 < 97), (by decide : 90 < 97), (by decide : 91 < 97)⟩
                  (Mem.cutA A5 cp5 0 4) cp5 (by rw [lt]; rfl) (by rw [lt]; exact hr1) (Mem.cutA A5 cp5 m 4) (cp5 - m) (by rw [ld]; rfl) (by rw [ld]; exact hr4) (.agg (fireC ⟨i, y, a, 0⟩)) (fireC ⟨i, y, a, 0⟩) rfl (fun w => by kernel_rfl) (fun w => by kernel_rfl) rfl fireL_one _ 32 Tryz.underlying130 info_rfire rfl (by decide) rfl (by omega) (by omega) (by decide)
                  (fun W hf => ff4 (Fr.drew w10 _) hf) ?_
                intro A9 c9 x0 x1 x2 x3 W9 hS9 ho9 hf9
                clear hHeld
                try simp only [Act.put, List.setIfInBounds_toArray, List.set_cons_zero, List.set_cons_succ, List.getElem_toArray, List.getElem_cons_succ, List.getElem_cons_zero]
                refine wpAnyH_take (i := 12) (v := ?_) rfl (by kernel_rfl) (by kernel_rfl) (by kernel_rfl) (fun _ _ _ h => h) (Or.inl ⟨by rfl, ?_⟩) (by assumption) ?_
                rotate_left
                · intro w' hSw
                  go_simp
                  try with_reducible rfl
                try simp only [Act.put, List.setIfInBounds_toArray, List.set_cons_zero, List.set_cons_succ, List.getElem_toArray, List.getElem_cons_succ, List.getElem_cons_zero]
                refine wpAnyH_done (by kernel_rfl) ?_ _
                have HF12 := Lib.hid (ff4 (ff4 (ff4 HF9.out HF2.out) HW2.out) hS9)
                rw [lt, ld] at ho9
                have HO12 := Lib.hid (own_base ho9 (show w.heap.size ≤ _ from (ff4 (ff4 (ff4 HF9.out HF2.out) HW2.out) (Fr.drew w10 (fun _ => False))).size))
                clear hS9 ho9 hf9 hr1 hr4 hR9 lt ld
                go_wp2_with fail
                go_roundg (l.length - (i + 1))
                case measure => omega
                case rel => exact ⟨i + 1, by omega, by go_num, by rw [yearN_some HRI.out HAT.out, HP.out, ahead_put, ← HM.out]; exact HO12.out, HF12.out⟩
        · have hj2 : (j != 0) = true := by simpa using hj
          have hno := N1 hj
          clear hj
          go_wp2_with fail
          go_roundg (l.length - (i + 1))
          case measure => omega
          case rel => exact ⟨i + 1, by omega, by go_num, by rw [yearN_none HRI.out (atR_none hno), HP.out]; exact HO.out.kept HF5.out, ff4 HF.out HF5.out⟩
      · have hno := atR_no hla
        have h4 : y < r.fr ∨ (r.fr ≤ y ∧ r.to < y) ∨ (r.fr ≤ y ∧ y ≤ r.to ∧ y < 1) ∨ (r.fr ≤ y ∧ y ≤ r.to ∧ 1 ≤ y ∧ 9999 < y) := by unfold lasts at hla; omega
        clear hla
        rcases h4 with h | ⟨h, h1⟩ | ⟨h, h1, h2⟩ | ⟨h, h1, h2, h3⟩
        all_goals
          go_wp2_with fail
          go_roundg (l.length - (i + 1))
          case measure => omega
          case rel => exact ⟨i + 1, by omega, by go_num, by rw [yearN_none HRI.out hno, HP.out]; exact HO.out, HF.out⟩
    · obtain rfl : i = l.length := by omega
      have HO := Lib.hid ho
      have HF := Lib.hid hf
      clear ho hf
      go_wp2_with fail
      go_ret
      exact ⟨_, rfl, HO.out, HF.out⟩
end Go.Proofs.YtghcfmoagkimaaaGreatDoor
namespace Go.Proofs.YtghcfmoagkimaaaGreatDoor
open Go.RowKit Go.Mem Go.Lin Go.Xpd Go.Den

theorem date_reach {t y m d k : Int} (h : S6.DateR (t / 86400) y m d k) : (k = 0 → reachY t = if -9998 ≤ y ∧ y ≤ 9998 then some y else none) ∧ (k ≠ 0 → reachY t = none) := by
  rcases h with ⟨h1, h2, h3, h4, rfl⟩ | ⟨h1, rfl, rfl, rfl, rfl⟩
  · refine ⟨fun _ => ?_, fun h => absurd rfl h⟩
    have hn := Go.Civil.numD_in h3
    rw [h4] at hn
    by_cases hy : -9998 ≤ y ∧ y ≤ 9998
    · rw [if_pos hy]; exact reach_in hy hn.1 hn.2.1
    · rw [if_neg hy]; exact reach_none hy hn.1 hn.2.1
  · exact ⟨fun h => absurd h (by decide), fun _ => reach_far h1⟩
/-- what the reference's Reach answers -/
def ReachR (t : Int) (w : World) (e : Ending) (w' : World) : Prop := ∃ (y : Int) (b : Bool), e = .returned (.tuple #[intV y, .bool b]) ∧ Fr w w' (fun _ => False) ∧ -10000 ≤ y ∧ y ≤ 10000 ∧ (b = true → reachY t = some y) ∧ (b = false → reachY t = none)
theorem Reach_any (t : Int) (w : World) (ht : S6.inRange t) : Calls Tryz.prog 27 #[intV t] w (ReachR t w) := by
  obtain ⟨y, m, d, k, hD⟩ := S6.date_of (t / 86400)
  obtain ⟨h0, h1⟩ := date_reach hD
  have HC := Lib.hid (S6.rClock_any t w ht)
  have HD := Lib.hid (S6.rDate_any (t / 86400) y m d k w (by unfold S6.inRange at *; omega) hD)
  have hy : -10000 ≤ y ∧ y ≤ 10000 := by
    rcases hD with ⟨-, -, h3, -, -⟩ | ⟨-, rfl, -, -, -⟩
    · have := Go.Civil.rightB_iff.1 h3
      omega
    · omega
  clear hD
  generalize t / 86400 = n at *
  by_cases hk : k = 0
  · subst hk
    have h0 := h0 rfl
    by_cases b1 : -9998 ≤ y
    · have H0 := Lib.hid h0
      clear h0 h1
      go_enter Tryz.func27, Tryz.ntmps27
      go_wp2_with fail
      refine HC.out.mono ?_
      rintro e w2 ⟨rfl, rfl⟩
      go_wp2_with fail
      refine HD.out.mono ?_
      rintro e w3 ⟨rfl, rfl⟩
      go_wp2_with fail
      go_ret2
      exact ⟨y, decide (y ≤ 9998), rfl, Fr.refl _ _, by omega, by omega, fun h => by rw [H0.out, if_pos ⟨b1, of_decide_eq_true h⟩], fun h => by rw [H0.out, if_neg (fun c => of_decide_eq_false h c.2)]⟩
    · rw [if_neg (fun h => b1 h.1)] at h0
      have H0 := Lib.hid h0
      clear h0 h1
      go_enter Tryz.func27, Tryz.ntmps27
      go_wp2_with fail
      refine HC.out.mono ?_
      rintro e w2 ⟨rfl, rfl⟩
      go_wp2_with fail
      refine HD.out.mono ?_
      rintro e w3 ⟨rfl, rfl⟩
      go_wp2_with fail
      go_ret2
      exact ⟨y, false, rfl, Fr.refl _ _, by omega, by omega, (fun h => nomatch h), fun _ => H0.out⟩
  · have H0 := Lib.hid (h1 hk)
    have k1 : (k == 0) = false := by rw [beq_eq_false_iff_ne]; exact hk
    clear h0 h1 hk
    go_enter Tryz.func27, Tryz.ntmps27
    go_wp2_with fail
    refine HC.out.mono ?_
    rintro e w2 ⟨rfl, rfl⟩
    go_wp2_with fail
    refine HD.out.mono ?_
    rintro e w3 ⟨rfl, rfl⟩
    go_wp2_with fail
    go_ret2
    exact ⟨y, false, rfl, Fr.refl _ _, by omega, by omega, (fun h => nomatch h), fun _ => H0.out⟩
theorem zwithin_any (n m : Int) (w : World) (hm : 0 ≤ m ∧ m ≤ 1000000) : Calls Tryz.prog 43 #[intV n, intV m] w fun e w' => e = .returned (.bool (decide (within n m))) ∧ w' = w := by
  by_cases h1 : -m ≤ n
  · by_cases h2 : n ≤ m
    · have H := Lib.hid (show decide (within n m) = true from decide_eq_true ⟨h1, h2⟩)
      go_enter Tryz.func43, Tryz.ntmps43
      go_wp2_with fail
      go_ret
      exact ⟨by rw [H.out]; rfl, rfl⟩
    · have H := Lib.hid (show decide (within n m) = false from decide_eq_false fun h => h2 h.2)
      go_enter Tryz.func43, Tryz.ntmps43
      go_wp2_with fail
      go_ret
      exact ⟨by rw [H.out]; rfl, rfl⟩
  · have H := Lib.hid (show decide (within n m) = false from decide_eq_false fun h => h1 h.1)
    go_enter Tryz.func43, Tryz.ntmps43
    go_wp2_with fail
    go_ret
    exact ⟨by rw [H.out]; rfl, rfl⟩
end Go.Proofs.YtghcfmoagkimaaaGreatDoor
namespace Go.Proofs.YtghcfmoagkimaaaGreatDoor
open Go.RowKit Go.Mem Go.Lin Go.WideShapes

/-- a slice of rules that came in: its room -/
theorem rules_cap {H : Type} {enc : TypeId × Value → H} {w : World} {base fuel : Nat} {spare : Nat → Bool} {held : Bool} {a : Option Addr} {len cap : Nat} {x : DataW H × List MemPlace}
    (h : DataW.trod enc Tryz.prog w base spare held fuel 51 [Value.slice a len cap] = some x) : len ≤ cap ∧ cap ≤ maxLen := by
  rcases Go.Deep.open_slice Tryz.underlying51 h with ⟨hcs, -⟩ | ⟨ad, l, c, m, n, D, Pl, hcs, hb, hl, hm, hmm, hx, hi⟩
  · simp at hcs
    obtain ⟨rfl, rfl, rfl⟩ := hcs
    exact ⟨Nat.le_refl _, Nat.zero_le _⟩
  · simp at hcs
    obtain ⟨rfl, rfl, rfl⟩ := hcs
    exact ⟨hl, hm⟩
theorem wf_in {a : Int} (h : (Lit.int .i64 a).wf = true) : inR a := by unfold inR; simpa [Lit.wf, IntKind.min, IntKind.max, IntKind.signed, IntKind.bits] using h
end Go.Proofs.YtghcfmoagkimaaaGreatDoor
namespace Go.Proofs.YtghcfmoagkimaaaGreatDoor
open Go.RowKit Go.Mem Go.Lin Go.WideShapes Go.Xpd Go.Den

/- eras in their cells -/
def eraA (e : EraL) : List Value := (eraC e).toList
theorem eraA_len (e : EraL) : (eraA e).length = 13 := rfl
instance : Inhabited EraL := ⟨⟨0, 0, 0, [], [], ⟨false, 0, 0, ⟨0, 0, 0⟩, ⟨0, 0⟩⟩⟩⟩
/-- a slice of eras -/
def ErasAt (w : World) (A : Option Addr) (l : List EraL) : Prop := Rd w 13 A l.length (l.flatMap eraA)
theorem ErasAt.kept {w w' : World} {A : Option Addr} {l : List EraL} (h : ErasAt w A l) (hf : Fr w w' (fun _ => False)) : ErasAt w' A l := Rd.fr h hf (fun _ _ _ _ h => h)
theorem ErasAt.at_ {w : World} {A : Option Addr} {l : List EraL} (h : ErasAt w A l) {i : Nat} {r : EraL} (hr : l[i]? = some r) : ∃ b off, A = some ⟨b, off, none⟩ ∧ ∀ j, j < (eraC r).size → w.cell? ⟨b, off + i * 13 + j, none⟩ = (eraC r)[j]? := by
  obtain ⟨b, off, e, hc⟩ := rows_at eraA_len h hr
  refine ⟨b, off, e, fun j hj => ?_⟩
  rw [hc j hj]
  show (eraC r).toList[j]? = _
  simp
theorem array13 {α : Type} {cs : Array α} (h : cs.size = 13) : ∃ c0 c1 c2 c3 c4 c5 c6 c7 c8 c9 c10 c11 c12, cs = #[c0, c1, c2, c3, c4, c5, c6, c7, c8, c9, c10, c11, c12] := by
  obtain ⟨l⟩ := cs
  match l, h with
  | [c0, c1, c2, c3, c4, c5, c6, c7, c8, c9, c10, c11, c12], _ => exact ⟨c0, c1, c2, c3, c4, c5, c6, c7, c8, c9, c10, c11, c12, rfl⟩
/-- numbers that an int can be, texts that a string can be -/
structure EraR (e : EraL) : Prop where
  off : inR e.off
  kind : inR e.kind
  save : inR e.save
  rules : e.rules.length ≤ maxLen
  format : e.format.length ≤ maxLen
  year : inR e.til.year
  month : inR e.til.month
  k : inR e.til.on.k
  d : inR e.til.on.d
  w : inR e.til.on.w
  s : inR e.til.at_.s
  tk : inR e.til.at_.k
/-- a slice of eras that came in -/
theorem eras_in {H : Type} {enc : TypeId × Value → H} {w : World} {base fuel : Nat} {spare : Nat → Bool} {held : Bool} {a : Option Addr} {len cap : Nat} {x : DataW H × List MemPlace}
    (h : DataW.trod enc Tryz.prog w base spare held fuel 22 [Value.slice a len cap] = some x) :
    ∃ l : List EraL, ErasAt w a l ∧ l.length = len ∧ len ≤ maxLen ∧ ∀ r ∈ l, EraR r := by
  rcases Go.Deep.open_slice Tryz.underlying22 h with ⟨hcs, -⟩ | ⟨ad, l, c, m, n, D, Pl, hcs, hb, hl, hm, hmm, hx, hi⟩
  · simp at hcs
    obtain ⟨rfl, rfl, rfl⟩ := hcs
    exact ⟨[], ⟨rfl, fun h => absurd h (by simp)⟩, rfl, Nat.zero_le _, by simp⟩
  · simp at hcs
    obtain ⟨rfl, rfl, rfl⟩ := hcs
    have hlm : len ≤ m := by rw [hmm]; split <;> omega
    rw [cells_era] at hi
    have each : ∀ i, i < len → ∃ e : EraL, (∀ j, j < 13 → w.cell? (ad.add (i * 13 + j)) = (eraA e)[j]?) ∧ EraR e := by
      intro i hlt
      obtain ⟨cs, h1, h2⟩ := hi i (by omega)
      obtain ⟨-, hlen, hat⟩ := World.cells?_some h1
      obtain ⟨c0, c1, c2, c3, c4, c5, c6, c7, c8, c9, c10, c11, c12, e⟩ := array13 (cs := cs.toArray) (by simpa using hlen)
      have e : cs = [c0, c1, c2, c3, c4, c5, c6, c7, c8, c9, c10, c11, c12] := by simpa using congrArg Array.toList e
      subst e
      obtain ⟨x, e0, e1, e2, e3, e4, e5, e6, e7, e8, e9, e10, e11, e12, g0, g1, g2, g3, g4, g5, g6, g7, g8, g9, g10, g11⟩ := open_era h2
      subst e0 e1 e2 e3 e4 e5 e6 e7 e8 e9 e10 e11 e12
      refine ⟨x, fun j hj => ?_, g0, g1, g2, g3, g4, g5, g6, g7, g8, g9, g10, g11⟩
      have k := hat j hj
      rw [Go.Deep.add_add] at k
      exact k
    obtain ⟨f, hf⟩ := Go.Deep.choose_lt each
    refine ⟨(List.range len).map f, ⟨?_, fun hpos => ?_⟩, by simp, by omega, fun r hr => ?_⟩
    · rw [flat_len eraA 13 eraA_len]
    · rw [List.length_map, List.length_range] at hpos
      have h0 := (hf 0 hpos).1 0 (by omega)
      obtain ⟨b, off, rfl⟩ : ∃ b off, ad = ⟨b, off, none⟩ := by
        obtain ⟨b, off, spot⟩ := ad
        cases spot with
        | none => exact ⟨b, off, rfl⟩
        | some s =>
          exfalso
          have h0 : w.cell? ((⟨b, off, some s⟩ : Addr).add (0 * 13 + 0)) = some (intV (f 0).off) := h0
          simp [Addr.add, World.cell?] at h0
          split at h0 <;> simp at h0
      have hadd : ∀ j, (⟨b, off, none⟩ : Addr).add j = ⟨b, off + j, none⟩ := fun j => by unfold Addr.add; split <;> simp_all
      refine ⟨b, off, rfl, fun j u hu => ?_⟩
      have hj : j < len * 13 := by
        have := (List.getElem?_eq_some_iff.1 hu).1
        rw [flat_len eraA 13 eraA_len, List.length_map, List.length_range] at this
        exact this
      have h1 : ((List.range len).map f)[j / 13]? = some (f (j / 13)) := by
        rw [List.getElem?_map, List.getElem?_range (by omega)]
        rfl
      have h2 := flat_get eraA 13 eraA_len h1 (j % 13) (Nat.mod_lt _ (by omega))
      rw [show j / 13 * 13 + j % 13 = j by omega] at h2
      have h3 := (hf (j / 13) (by omega)).1 (j % 13) (Nat.mod_lt _ (by omega))
      rw [hadd, show j / 13 * 13 + j % 13 = j by omega] at h3
      rw [h3, ← h2, hu]
    · obtain ⟨i, hi, rfl⟩ := List.mem_map.1 hr
      exact (hf i (by simpa using hi)).2

/- slices of rules, as a slice holds them -/
structure RuV where
  A : Option Addr
  c : Nat
  l : List RuleL
instance : Inhabited RuV := ⟨⟨none, 0, []⟩⟩
def ruvL (v : RuV) : List Value := [.slice v.A v.l.length v.c]
theorem ruvL_len (v : RuV) : (ruvL v).length = 1 := rfl
structure RusIn (w : World) (B : Option Addr) (Z : List RuV) : Prop where
  r : Rd w 1 B Z.length (Z.flatMap ruvL)
  e : ∀ v ∈ Z, RusAt w v.A v.l
theorem RusIn.kept {w w' : World} {B : Option Addr} {Z : List RuV} (h : RusIn w B Z) (hf : Fr w w' (fun _ => False)) : RusIn w' B Z := ⟨Rd.fr h.r hf (fun _ _ _ _ h => h), fun v hv => (h.e v hv).kept hf⟩
theorem RusIn.at_ {w : World} {B : Option Addr} {Z : List RuV} (h : RusIn w B Z) {i : Nat} {v : RuV} (hv : Z[i]? = some v) : ∃ b off, B = some ⟨b, off, none⟩ ∧ w.cell? ⟨b, off + i, none⟩ = some (.slice v.A v.l.length v.c) ∧ RusAt w v.A v.l := by
  obtain ⟨b, off, e, hc⟩ := rows_at ruvL_len h.r hv
  have := hc 0 (by omega)
  rw [Nat.mul_one, Nat.add_zero] at this
  exact ⟨b, off, e, this, h.e v (List.mem_of_getElem? hv)⟩
theorem cells_rules : Tryz.prog.cellsOf 51 = 1 := by kernel_rfl
theorem russ_in {H : Type} {enc : TypeId × Value → H} {w : World} {base fuel : Nat} {spare : Nat → Bool} {held : Bool} {a : Option Addr} {len cap : Nat} {x : DataW H × List MemPlace}
    (h : DataW.trod enc Tryz.prog w base spare held fuel 23 [Value.slice a len cap] = some x) :
    ∃ Z : List RuV, RusIn w a Z ∧ Z.length = len ∧ len ≤ maxLen ∧ ∀ v ∈ Z, v.l.length ≤ v.c ∧ v.l.length ≤ maxLen ∧ ∀ r ∈ v.l, RuR r := by
  rcases Go.Deep.open_slice Tryz.underlying23 h with ⟨hcs, -⟩ | ⟨ad, l, c, m, n, D, Pl, hcs, hb, hl, hm, hmm, hx, hi⟩
  · simp at hcs
    obtain ⟨rfl, rfl, rfl⟩ := hcs
    exact ⟨[], ⟨⟨rfl, fun h => absurd h (by simp)⟩, by simp⟩, rfl, Nat.zero_le _, by simp⟩
  · simp at hcs
    obtain ⟨rfl, rfl, rfl⟩ := hcs
    have hlm : len ≤ m := by rw [hmm]; split <;> omega
    rw [cells_rules] at hi
    have each : ∀ i, i < len → ∃ e : RuV, (w.cell? (ad.add i) = some (.slice e.A e.l.length e.c)) ∧ RusAt w e.A e.l ∧ e.l.length ≤ e.c ∧ e.l.length ≤ maxLen ∧ ∀ r ∈ e.l, RuR r := by
      intro i hlt
      obtain ⟨cs, h1, h2⟩ := hi i (by omega)
      obtain ⟨-, hlen, hat⟩ := World.cells?_some h1
      obtain ⟨u, rfl⟩ : ∃ u, cs = [u] := by
        match cs, hlen with
        | [u], _ => exact ⟨u, rfl⟩
      have k := hat 0 (by omega)
      rw [Go.Deep.add_add, Nat.mul_one, Nat.add_zero] at k
      have hu : ∃ a' n' c', u = .slice a' n' c' := by
        rcases Go.Deep.open_slice Tryz.underlying51 h2 with ⟨hcs, -⟩ | ⟨ad', l', c', m', n', D', Pl', hcs, -⟩
        · simp at hcs; exact ⟨_, _, _, hcs⟩
        · simp at hcs; exact ⟨_, _, _, hcs⟩
      obtain ⟨a', n', c', rfl⟩ := hu
      obtain ⟨l', r1, rfl, r3, r4⟩ := rules_in h2
      exact ⟨⟨a', c', l'⟩, k, r1, (rules_cap h2).1, r3, r4⟩
    obtain ⟨f, hf⟩ := Go.Deep.choose_lt each
    have hmem : ∀ v ∈ (List.range len).map f, ∃ i, i < len ∧ v = f i := fun v hv => by
      obtain ⟨i, hi, e⟩ := List.mem_map.1 hv
      exact ⟨i, by simpa using hi, e.symm⟩
    refine ⟨(List.range len).map f, ⟨⟨?_, fun hpos => ?_⟩, fun v hv => ?_⟩, by simp, by omega, fun v hv => ?_⟩
    · rw [flat_len ruvL 1 ruvL_len]
    · rw [List.length_map, List.length_range] at hpos
      have h0 := (hf 0 hpos).1
      obtain ⟨b, off, rfl⟩ : ∃ b off, ad = ⟨b, off, none⟩ := by
        obtain ⟨b, off, spot⟩ := ad
        cases spot with
        | none => exact ⟨b, off, rfl⟩
        | some s =>
          exfalso
          simp [Addr.add, World.cell?] at h0
          split at h0 <;> simp at h0
      have hadd : ∀ j, (⟨b, off, none⟩ : Addr).add j = ⟨b, off + j, none⟩ := fun j => by unfold Addr.add; split <;> simp_all
      refine ⟨b, off, rfl, fun j u hu => ?_⟩
      have hj : j < len := by
        have := (List.getElem?_eq_some_iff.1 hu).1
        rw [flat_len ruvL 1 ruvL_len, List.length_map, List.length_range] at this
        omega
      have h1 : ((List.range len).map f)[j]? = some (f j) := by
        rw [List.getElem?_map, List.getElem?_range hj]
        rfl
      have h2 := flat_get ruvL 1 ruvL_len h1 0 (by omega)
      rw [Nat.mul_one, Nat.add_zero, hu] at h2
      have h3 := (hf j hj).1
      rw [hadd] at h3
      rw [h3, h2]; rfl
    · obtain ⟨i, hi, rfl⟩ := hmem v hv
      exact (hf i hi).2.1
    · obtain ⟨i, hi, rfl⟩ := hmem v hv
      exact (hf i hi).2.2
end Go.Proofs.YtghcfmoagkimaaaGreatDoor
