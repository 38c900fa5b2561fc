import Derived.Test.YtbkjafaijkmpfaaDoorYa11
import Derived.Deep.RegionHeld3
import Derived.Deep.LoopGhost
import Derived.Test.YtbkjafaijkmpfaaDoorYa10
namespace Go.Proofs.YtbkjafaijkmpfaaDoor
open Go.RowKit Go.Mem Go.Lin Go.Xpd

theorem flat_take {X : Type} {f : X → List Value} {k : Nat} (hf : ∀ x, (f x).length = k) (L : List X) (i : Nat) (h : i ≤ L.length) : ((L.flatMap f).drop (0 * k)).take ((i - 0) * k) = (L.take i).flatMap f := by
  have e : L.flatMap f = (L.take i).flatMap f ++ (L.drop i).flatMap f := by rw [← List.flatMap_append, List.take_append_drop]
  have hl : ((L.take i).flatMap f).length = i * k := by rw [flat_len f k hf, List.length_take]; congr 1; omega
  rw [Nat.zero_mul, List.drop_zero, Nat.sub_zero, e, List.take_left' hl]
theorem flat_drop {X : Type} {f : X → List Value} {k : Nat} (hf : ∀ x, (f x).length = k) (L : List X) (j : Nat) (h : j ≤ L.length) : ((L.flatMap f).drop (j * k)).take ((L.length - j) * k) = (L.drop j).flatMap f := by
  have e : L.flatMap f = (L.take j).flatMap f ++ (L.drop j).flatMap f := by rw [← List.flatMap_append, List.take_append_drop]
  have hl : ((L.take j).flatMap f).length = j * k := by rw [flat_len f k hf, List.length_take]; congr 1; omega
  have hd : ((L.drop j).flatMap f).length = (L.length - j) * k := by rw [flat_len f k hf, List.length_drop]
  rw [e, List.drop_left' hl, ← hd, List.take_length]
/-- what Of says, as numbers -/
theorem num_of {x : DayL} {y m n j : Int} (h : S6.ofD x.k x.d x.w y m = (n, j)) : (j = 0 → numX x y m = some n) ∧ (j ≠ 0 → numX x y m = none) := by
  unfold S6.ofD at h
  unfold numX
  by_cases hb : Go.Dfm.rightB x.k x.d x.w = true
  · rw [if_pos hb] at h
    have ed : S6.dayOf x.k x.d y m = dayX x y m := rfl
    rw [ed] at h
    by_cases hr : Go.Civil.rightB y m (dayX x y m) = true
    · have e0 : S6.daysE y m (dayX x y m) = 0 := if_pos hr
      have ek : S6.daysK y m (dayX x y m) = Go.Civil.numD y m (dayX x y m) := if_pos hr
      rw [e0, if_pos rfl, ek] at h
      rw [if_pos ⟨hb, hr⟩]
      obtain ⟨h1, h2⟩ := Prod.mk.inj h
      exact ⟨fun _ => by rw [h1], fun hj => absurd h2.symm hj⟩
    · have e0 : S6.daysE y m (dayX x y m) = 6 := if_neg hr
      rw [e0, if_neg (by decide)] at h
      rw [if_neg (fun c => hr c.2)]
      obtain ⟨h1, h2⟩ := Prod.mk.inj h
      exact ⟨fun hj => by omega, fun _ => rfl⟩
  · rw [if_neg hb] at h
    rw [if_neg (fun c => hb c.1)]
    obtain ⟨h1, h2⟩ := Prod.mk.inj h
    exact ⟨fun hj => by omega, fun _ => rfl⟩
/-- where a fire is put in -/
def aheadN (f : FireL) : List FireL → Nat
  | [] => 0
  | g :: l => if befo g f then aheadN f l + 1 else 0
theorem ahead_le (f : FireL) : ∀ l, aheadN f l ≤ l.length
  | [] => Nat.le_refl _
  | g :: l => by
    unfold aheadN
    have := ahead_le f l
    split
    · rw [List.length_cons]; omega
    · exact Nat.zero_le _
theorem ahead_put (f : FireL) : ∀ l, putF f l = l.take (aheadN f l) ++ f :: l.drop (aheadN f l)
  | [] => rfl
  | g :: l => by
    unfold putF aheadN
    split
    · rw [ahead_put f l]; rfl
    · rfl
theorem ahead_yes {f g : FireL} : ∀ {l : List FireL} {i : Nat}, i < aheadN f l → l[i]? = some g → befo g f
  | [], i, h, _ => by simp [aheadN] at h
  | x :: l, i, h, hg => by
    unfold aheadN at h
    split at h
    · rename_i hx
      cases i with
      | zero =>
        have hg : x = g := by simpa using hg
        rw [← hg]; exact hx
      | succ i => exact ahead_yes (l := l) (i := i) (by omega) (by simpa using hg)
    · omega
theorem ahead_no {f g : FireL} : ∀ {l : List FireL}, l[aheadN f l]? = some g → ¬ befo g f
  | [], h => by simp at h
  | x :: l, h => by
    unfold aheadN at h
    split at h
    · exact ahead_no (by simpa using h)
    · rename_i hx
      have h : x = g := by simpa using h
      rw [← h]; exact hx
theorem info_rfire : (Tryd.prog.info? 47).map (fun i => (i.zero, i.size, i.bytes)) = some (some (.agg #[intV 0, intV 0, intV 0, intV 0]), 4, 32) := by kernel_rfl
theorem infoRF (f : FireL) : (Tryd.prog.info? 47).map (·.size) = some (fireC f).size := show _ = some 4 by kernel_rfl
/-- a row of fires -/
abbrev FiresAt (w : World) (base : Nat) (v : Value) (l : List FireL) : Prop := Own w base 47 4 fireL v l
theorem FiresAt.at_ {w : World} {A : Option Addr} {l : List FireL} (h : Rd w 4 A l.length (l.flatMap fireL)) {i : Nat} {f : FireL} (hf : l[i]? = some f) : ∃ b off, A = some ⟨b, off, none⟩ ∧ ∀ j, j < (fireC f).size → w.cell? ⟨b, off + i * 4 + j, none⟩ = (fireC f)[j]? := by
  obtain ⟨b, off, e, hc⟩ := rows_at fireL_len h hf
  refine ⟨b, off, e, fun j hj => ?_⟩
  rw [hc j hj]
  show (fireC f).toList[j]? = _
  simp
theorem before_yes {f g : FireL} (h : befo f g) (w : World) : Calls Tryd.prog 38 #[fireV f, fireV g] w fun e w' => e = .returned (.bool true) ∧ Fr w w' (fun _ => False) := by
  have := before_any f g w
  rwa [decide_eq_true h] at this
theorem before_no {f g : FireL} (h : ¬ befo f g) (w : World) : Calls Tryd.prog 38 #[fireV f, fireV g] w fun e w' => e = .returned (.bool false) ∧ Fr w w' (fun _ => False) := by
  have := before_any f g w
  rwa [decide_eq_false h] at this
def YrR (l : List RuleL) (y : Int) (w : World) (g : Nat) (v5 v6 : Value) (wr : World) : Prop := ∃ i : Nat, i + g = l.length ∧ v6 = intV i ∧ FiresAt wr w.heap.size v5 (yearN l y i) ∧ Fr w wr (fun _ => False)
def YrI (f : FireL) (P : List FireL) (w W : World) (gf : Nat) (v5 : Value) (g : Nat) (v10 : Value) (wr : World) : Prop := ∃ i : Nat, i + g = aheadN f P ∧ v10 = intV i ∧ FiresAt wr w.heap.size v5 P ∧ Blk wr gf 47 (fireC f) ∧ Fr W wr (fun _ => False)
set_option maxHeartbeats 3200000 in
set_option maxRecDepth 100000 in
theorem year_any (l : List RuleL) (A : Option Addr) (cap : Nat) (y : Int) (w : World) (hl : RusAt w A l) (hn : l.length ≤ 1000) (hr : ∀ r ∈ l, -700000 ≤ r.at_.s ∧ r.at_.s ≤ 700000) :
    Calls Tryd.prog 25 #[.slice A l.length cap, intV y] w fun e w' => ∃ v, e = .returned v ∧ FiresAt w' w.heap.size v (yearD l y) ∧ Fr w w' (fun _ => False) := by
  have HL := Lib.hid hl
  have HR := Lib.hid hr
  clear hl hr
  go_enter Tryd.func25, Tryd.ntmps25
  go_wp2_with fail
  go_loopg [5, 6, 7, 8, 9, 10] l.length (fun g v5 v6 _ _ _ _ wr => YrR l y w g v5 v6 wr)
  case atStart => exact ⟨0, by simp, rfl, own_none _ _ _ _ _, Fr.refl _ _⟩
  case round =>
    obtain ⟨i, hi, rfl, ho, hf⟩ := hrel
    by_cases hlt : i < l.length
    · obtain ⟨r, hri⟩ : ∃ r, l[i]? = some r := ⟨l[i], List.getElem?_eq_getElem hlt⟩
      have hrs := HR.out r (List.mem_of_getElem? hri)
      obtain ⟨b, off, hA, hc⟩ := (HL.out.kept hf).at_ hri
      subst hA
      have i0 : (i : Int) < (l.length : Int) := by omega
      have HRI := Lib.hid hri
      obtain ⟨P, hP⟩ : ∃ P, yearN l y i = P := ⟨_, rfl⟩
      have hPl : P.length ≤ 1000 := by have := yearN_len l y i; rw [hP] at this; omega
      rw [hP] at ho
      obtain ⟨A5, cp5, hv5, hpc, -, hrd⟩ := ho.rd
      subst hv5
      have HP := Lib.hid hP
      clear hrd hP
      have HO := Lib.hid ho
      have HF := Lib.hid hf
      have HC := Lib.hid hc
      have c1 : wr.cell? ⟨b, off + i * 11 + 1, none⟩ = some (.int .i64 r.fr) := HC.out 1 (show 1 < 11 by decide)
      have c2 : wr.cell? ⟨b, off + i * 11 + 2, none⟩ = some (.int .i64 r.to) := HC.out 2 (show 2 < 11 by decide)
      clear hri ho hf hc
      by_cases hla : lasts r y
      · obtain ⟨y1, y2, y3, y4⟩ := hla
        obtain ⟨n, j, hnj⟩ : ∃ n j, S6.ofD r.on.k r.on.d r.on.w y r.month = (n, j) := ⟨_, _, rfl⟩
        have HO4 := Lib.hid (fun W => S6.rOf4_any r.on.k r.on.d r.on.w y r.month W n j hnj)
        obtain ⟨N0, N1⟩ := num_of hnj
        have c3 : wr.cell? ⟨b, off + i * 11 + 3, none⟩ = some (.int .i64 r.month) := HC.out 3 (show 3 < 11 by decide)
        have c4 : wr.cell? ⟨b, off + i * 11 + 4, none⟩ = some (.int .i64 r.on.k) := HC.out 4 (show 4 < 11 by decide)
        have c5 : wr.cell? ⟨b, off + i * 11 + 5, none⟩ = some (.int .i64 r.on.d) := HC.out 5 (show 5 < 11 by decide)
        have c6 : wr.cell? ⟨b, off + i * 11 + 6, none⟩ = some (.int .i64 r.on.w) := HC.out 6 (show 6 < 11 by decide)
        have HS0 := Lib.hid (show Fr wr wr (fun _ => False) ∧ wr.cell? ⟨b, off + i * 11 + 3, none⟩ = some (.int .i64 r.month) ∧ wr.cell? ⟨b, off + i * 11 + 4, none⟩ = some (.int .i64 r.on.k) ∧ wr.cell? ⟨b, off + i * 11 + 5, none⟩ = some (.int .i64 r.on.d) ∧ wr.cell? ⟨b, off + i * 11 + 6, none⟩ = some (.int .i64 r.on.w) from ⟨Fr.refl _ _, c3, c4, c5, c6⟩)
        clear hnj c3 c4 c5 c6
        go_wp2_with fail
        clear c1 c2
        go_region_held3 (fun w' => Fr wr w' (fun _ => False) ∧ w'.cell? ⟨b, off + i * 11 + 3, none⟩ = some (.int .i64 r.month) ∧ w'.cell? ⟨b, off + i * 11 + 4, none⟩ = some (.int .i64 r.on.k) ∧ w'.cell? ⟨b, off + i * 11 + 5, none⟩ = some (.int .i64 r.on.d) ∧ w'.cell? ⟨b, off + i * 11 + 6, none⟩ = some (.int .i64 r.on.w))
          (first | with_reducible exact kq4 HS0.out (Fr.drew _ _) | (rename_i hS _ _; with_reducible exact kq4 hS hf5) | with_reducible exact kq4 hS hf5 | with_reducible assumption)
          ((go_at_call 37; refine (HO4.out _).mono ?_; rintro e w5 ⟨rfl, hf5⟩))
        rename_i hS
        have HF5 := Lib.hid hS.1
        clear hS HS0
        by_cases hj : j = 0
        · subst hj
          have hnum := N0 rfl
          have hnr := numX_range hnum
          obtain ⟨a, ha⟩ : ∃ a, n * 86400 + r.at_.s = a := ⟨_, rfl⟩
          have HAT := Lib.hid (show atR r y = some a by rw [← ha]; exact atR_num ⟨y1, y2, y3, y4⟩ hnum)
          have c7 : w5.cell? ⟨b, off + i * 11 + 7, none⟩ = some (.int .i64 r.at_.s) := cell_far HF5.out (HC.out 7 (show 7 < 11 by decide)) (fun h => h)
          have HA := Lib.hid ha
          clear N0 N1 hnum y1 y2 y3 y4 ha
          go_wp2_with fail
          have hb9 : Blk (w5.alloc (.cells #[.int .i64 (i : Int), .int .i64 y, .int .i64 (n * 86400 + r.at_.s), .int .i64 0] 47)) w5.heap.size 47 (fireC ⟨i, y, a, 0⟩) := by rw [← HA.out]; exact Blk.made _ _ _
          have hf9 := Fr.new w5 (.cells #[.int .i64 (i : Int), .int .i64 y, .int .i64 (n * 86400 + r.at_.s), .int .i64 0] 47) (fun _ => False)
          generalize w5.alloc (.cells #[.int .i64 (i : Int), .int .i64 y, .int .i64 (n * 86400 + r.at_.s), .int .i64 0] 47) = W at *
          generalize w5.heap.size = gf at *
          have HB9 := Lib.hid hb9
          have HF9 := Lib.hid (ff4 (ff4 HF.out HF5.out) hf9)
          have HO9 := Lib.hid ((HO.out.kept HF5.out).kept hf9)
          clear hb9 hf9 c7 hnr
          go_loopg [10] (aheadN ⟨i, y, a, 0⟩ P) (fun g v10 wr => YrI ⟨i, y, a, 0⟩ P w W gf (.slice A5 P.length cp5) g v10 wr)
          case atStart => exact ⟨0, by simp, rfl, HO9.out, HB9.out, Fr.refl _ _⟩
          case round =>
            obtain ⟨m, hm, rfl, ho2, hb2, hf2⟩ := hrel
            have hle := ahead_le ⟨i, y, a, 0⟩ P
            obtain ⟨A6, c6, hv6, -, -, hrd⟩ := ho2.rd
            cases hv6
            have HO2 := Lib.hid ho2
            have HB2 := Lib.hid hb2
            have HF2 := Lib.hid hf2
            have HR2 := Lib.hid hrd
            clear ho2 hb2 hf2 hrd
            by_cases hmt : m < aheadN ⟨i, y, a, 0⟩ P
            · have m0 : (m : Int) < (P.length : Int) := by omega
              obtain ⟨g, hg⟩ : ∃ g, P[m]? = some g := ⟨P[m], List.getElem?_eq_getElem (by omega)⟩
              have HBE := Lib.hid (fun W => before_yes (ahead_yes hmt hg) W)
              obtain ⟨b2, off2, hA2, hc2⟩ := FiresAt.at_ HR2.out hg
              subst hA2
              have HC2 := Lib.hid hc2
              clear hg hc2
              go_wp2_with fail
              refine wp_region_held_drew (S := fun w' => Fr wr w' (fun _ => False)) (by kernel_rfl) (Fr.drew wr _) (fun hHeld => ?_)
              refine wpAnyH_take (i := 0) (v := ?_) rfl (by kernel_rfl) (by kernel_rfl) (by kernel_rfl) (fun _ _ _ h => h) (Or.inl ⟨by rfl, ?_⟩) (by assumption) ?_
              rotate_left
              · intro w' hSw
                go_simp
                try with_reducible rfl
              try simp only [Act.put, List.setIfInBounds_toArray, List.set_cons_zero, List.set_cons_succ, List.getElem_toArray, List.getElem_cons_zero]
              refine wpAnyH_take (i := 1) (v := ?_) rfl (by kernel_rfl) (by kernel_rfl) (by kernel_rfl) (fun _ _ _ h => h) (Or.inl ⟨by rfl, ?_⟩) (by assumption) ?_
              rotate_left
              · intro w' hSw
                go_simp
                try with_reducible rfl
              try simp only [Act.put, List.setIfInBounds_toArray, List.set_cons_zero, List.set_cons_succ, List.getElem_toArray, List.getElem_cons_succ, List.getElem_cons_zero]
              refine wpAnyH_take (i := 2) (v := ?_) rfl (by kernel_rfl) (by kernel_rfl) (by kernel_rfl) (fun _ _ _ h => h) (Or.inl ⟨by rfl, ?_⟩) (by assumption) ?_
              rotate_left
              · intro w' hSw
                go_simp
                try with_reducible rfl
              try simp only [Act.put, List.setIfInBounds_toArray, List.set_cons_zero, List.set_cons_succ, List.getElem_toArray, List.getElem_cons_succ, List.getElem_cons_zero]
              refine wpAnyH_take (i := 3) (v := .bool true) rfl (by kernel_rfl) (by kernel_rfl) (by kernel_rfl) (fun _ _ _ h => h) (Or.inl ⟨by rfl, ?_⟩) (by assumption) ?_
              · intro w' hSw
                go_simp
              try simp only [Act.put, List.setIfInBounds_toArray, List.set_cons_zero, List.set_cons_succ, List.getElem_toArray, List.getElem_cons_succ, List.getElem_cons_zero]
              refine wpAnyH_take (i := 4) (v := ?_) rfl (by kernel_rfl) (by kernel_rfl) (by kernel_rfl) (fun _ _ _ h => h) (Or.inl ⟨by rfl, ?_⟩) (by assumption) ?_
              rotate_left
              · intro w' hSw
                go_simp
                try with_reducible rfl
              try simp only [Act.put, List.setIfInBounds_toArray, List.set_cons_zero, List.set_cons_succ, List.getElem_toArray, List.getElem_cons_succ, List.getElem_cons_zero]
              refine wpAnyH_take (i := 5) (v := ?_) rfl (by kernel_rfl) (by kernel_rfl) (by kernel_rfl) (fun _ _ _ h => h) (Or.inl ⟨by rfl, ?_⟩) (by assumption) ?_
              rotate_left
              · intro w' hSw
                go_simp
                try with_reducible rfl
              try simp only [Act.put, List.setIfInBounds_toArray, List.set_cons_zero, List.set_cons_succ, List.getElem_toArray, List.getElem_cons_succ, List.getElem_cons_zero]
              refine wpAnyH_take (i := 6) (v := ?_) rfl (by kernel_rfl) (by kernel_rfl) (by kernel_rfl) (fun _ _ _ h => h) (Or.inl ⟨by rfl, ?_⟩) (by assumption) ?_
              rotate_left
              · intro w' hSw
                go_simp
                try with_reducible rfl
              try simp only [Act.put, List.setIfInBounds_toArray, List.set_cons_zero, List.set_cons_succ, List.getElem_toArray, List.getElem_cons_succ, List.getElem_cons_zero]
              refine wpAnyH_take (i := 7) (v := ?_) rfl (by kernel_rfl) (by kernel_rfl) (by kernel_rfl) (fun _ _ _ h => h) (Or.inl ⟨by rfl, ?_⟩) (by assumption) ?_
              rotate_left
              · intro w' hSw
                go_simp
                try with_reducible rfl
              try simp only [Act.put, List.setIfInBounds_toArray, List.set_cons_zero, List.set_cons_succ, List.getElem_toArray, List.getElem_cons_succ, List.getElem_cons_zero]
              refine wpAnyH_take (i := 8) (v := _) rfl (by kernel_rfl) (by kernel_rfl) (by kernel_rfl) (fun _ _ _ h => h) (yields_at 47 _ b2 (off2 + m * 4) (fireC g) _ (by rfl) rfl (by rfl) (fun w' h => cells_far h HC2.out (Nat.le_refl _) (fun h => h)) Tryd.underlying47 rfl (infoRF _)) (by assumption) ?_
              try simp only [Act.put, List.setIfInBounds_toArray, List.set_cons_zero, List.set_cons_succ, List.getElem_toArray, List.getElem_cons_succ, List.getElem_cons_zero]
              refine wpAnyH_take (i := 9) (v := _) rfl (by kernel_rfl) (by kernel_rfl) (by kernel_rfl) (fun _ _ _ h => h) (yields_at 47 _ gf 0 (fireC ⟨i, y, a, 0⟩) _ (by rfl) rfl (by rfl) (fun w' h j hj => by rw [Nat.zero_add]; exact cell_at (h.blk HB2.out (fun h => h)) j) Tryd.underlying47 rfl (infoRF _)) (by assumption) ?_
              try simp only [Act.put, List.setIfInBounds_toArray, List.set_cons_zero, List.set_cons_succ, List.getElem_toArray, List.getElem_cons_succ, List.getElem_cons_zero]
              refine wpAnyH_ready (rs := [10]) (by kernel_rfl) (by simp) ?_
              refine AllReadyH.cons rfl (fun K hK => ?_) AllReadyH.nil
              go_simp
              refine (HBE.out _).mono ?_
              rintro e w10 ⟨rfl, hf10⟩
              refine hK.out _ _ (ff4 hHeld hf10) (fun hHeld2 => ?_)
              clear hK K hHeld hf10
              rename_i hHeld2
              have hHeld := hHeld2
              clear hHeld2
              try simp only [Act.put, List.setIfInBounds_toArray, List.set_cons_zero, List.set_cons_succ, List.getElem_toArray, List.getElem_cons_succ, List.getElem_cons_zero]
              refine wpAnyH_take (i := 11) (v := ?_) rfl (by kernel_rfl) (by kernel_rfl) (by kernel_rfl) (fun _ _ _ h => h) (Or.inl ⟨by rfl, ?_⟩) (by assumption) ?_
              rotate_left
              · intro w' hSw
                go_simp
                try with_reducible rfl
              try simp only [Act.put, List.setIfInBounds_toArray, List.set_cons_zero, List.set_cons_succ, List.getElem_toArray, List.getElem_cons_succ, List.getElem_cons_zero]
              refine wpAnyH_done (by kernel_rfl) ?_ _
              go_wp2_with fail
              go_roundg (aheadN ⟨i, y, a, 0⟩ P - (m + 1))
              case measure => omega
              case rel => exact ⟨m + 1, by omega, by go_num, HO2.out.kept hHeld, hHeld.blk HB2.out (fun h => h), ff4 HF2.out hHeld⟩
            · obtain hmt : m = aheadN ⟨i, y, a, 0⟩ P := by omega
              have HM := Lib.hid hmt
              have hc0 := fun w => run_cut_hi (P := Tryd.prog) w 26 47 4 Tryd.underlying26 (fun w => by kernel_rfl) A5 P.length cp5 m (by omega)
              have hc1 := fun w => run_cut_lo (P := Tryd.prog) w 26 47 4 Tryd.underlying26 (fun w => by kernel_rfl) A5 P.length cp5 m (by omega)
              by_cases hend : m < P.length
              · have m0 : (m : Int) < (P.length : Int) := by omega
                obtain ⟨g, hg⟩ : ∃ g, P[m]? = some g := ⟨P[m], List.getElem?_eq_getElem hend⟩
                have HBE := Lib.hid (fun W => before_no (ahead_no (hmt ▸ hg)) W)
                obtain ⟨b2, off2, hA2, hc2⟩ := FiresAt.at_ HR2.out hg
                subst hA2
                have HC2 := Lib.hid hc2
                clear hg hc2 hmt
                go_wp2_with fail
                refine wp_region_held_drew (S := fun w' => Fr wr w' (fun _ => False)) (by kernel_rfl) (Fr.drew wr _) (fun hHeld => ?_)
                refine wpAnyH_take (i := 0) (v := ?_) rfl (by kernel_rfl) (by kernel_rfl) (by kernel_rfl) (fun _ _ _ h => h) (Or.inl ⟨by rfl, ?_⟩) (by assumption) ?_
                rotate_left
                · intro w' hSw
                  go_simp
                  try with_reducible rfl
                try simp only [Act.put, List.setIfInBounds_toArray, List.set_cons_zero, List.set_cons_succ, List.getElem_toArray, List.getElem_cons_zero]
                refine wpAnyH_take (i := 1) (v := ?_) rfl (by kernel_rfl) (by kernel_rfl) (by kernel_rfl) (fun _ _ _ h => h) (Or.inl ⟨by rfl, ?_⟩) (by assumption) ?_
                rotate_left
                · intro w' hSw
                  go_simp
                  try with_reducible rfl
                try simp only [Act.put, List.setIfInBounds_toArray, List.set_cons_zero, List.set_cons_succ, List.getElem_toArray, List.getElem_cons_succ, List.getElem_cons_zero]
                refine wpAnyH_take (i := 2) (v := ?_) rfl (by kernel_rfl) (by kernel_rfl) (by kernel_rfl) (fun _ _ _ h => h) (Or.inl ⟨by rfl, ?_⟩) (by assumption) ?_
                rotate_left
                · intro w' hSw
                  go_simp
                  try with_reducible rfl
                try simp only [Act.put, List.setIfInBounds_toArray, List.set_cons_zero, List.set_cons_succ, List.getElem_toArray, List.getElem_cons_succ, List.getElem_cons_zero]
                refine wpAnyH_take (i := 3) (v := .bool true) rfl (by kernel_rfl) (by kernel_rfl) (by kernel_rfl) (fun _ _ _ h => h) (Or.inl ⟨by rfl, ?_⟩) (by assumption) ?_
                · intro w' hSw
                  go_simp
                try simp only [Act.put, List.setIfInBounds_toArray, List.set_cons_zero, List.set_cons_succ, List.getElem_toArray, List.getElem_cons_succ, List.getElem_cons_zero]
                refine wpAnyH_take (i := 4) (v := ?_) rfl (by kernel_rfl) (by kernel_rfl) (by kernel_rfl) (fun _ _ _ h => h) (Or.inl ⟨by rfl, ?_⟩) (by assumption) ?_
                rotate_left
                · intro w' hSw
                  go_simp
                  try with_reducible rfl
                try simp only [Act.put, List.setIfInBounds_toArray, List.set_cons_zero, List.set_cons_succ, List.getElem_toArray, List.getElem_cons_succ, List.getElem_cons_zero]
                refine wpAnyH_take (i := 5) (v := ?_) rfl (by kernel_rfl) (by kernel_rfl) (by kernel_rfl) (fun _ _ _ h => h) (Or.inl ⟨by rfl, ?_⟩) (by assumption) ?_
                rotate_left
                · intro w' hSw
                  go_simp
                  try with_reducible rfl
                try simp only [Act.put, List.setIfInBounds_toArray, List.set_cons_zero, List.set_cons_succ, List.getElem_toArray, List.getElem_cons_succ, List.getElem_cons_zero]
                refine wpAnyH_take (i := 6) (v := ?_) rfl (by kernel_rfl) (by kernel_rfl) (by kernel_rfl) (fun _ _ _ h => h) (Or.inl ⟨by rfl, ?_⟩) (by assumption) ?_
                rotate_left
                · intro w' hSw
                  go_simp
                  try with_reducible rfl
                try simp only [Act.put, List.setIfInBounds_toArray, List.set_cons_zero, List.set_cons_succ, List.getElem_toArray, List.getElem_cons_succ, List.getElem_cons_zero]
                refine wpAnyH_take (i := 7) (v := ?_) rfl (by kernel_rfl) (by kernel_rfl) (by kernel_rfl) (fun _ _ _ h => h) (Or.inl ⟨by rfl, ?_⟩) (by assumption) ?_
                rotate_left
                · intro w' hSw
                  go_simp
                  try with_reducible rfl
                try simp only [Act.put, List.setIfInBounds_toArray, List.set_cons_zero, List.set_cons_succ, List.getElem_toArray, List.getElem_cons_succ, List.getElem_cons_zero]
                refine wpAnyH_take (i := 8) (v := _) rfl (by kernel_rfl) (by kernel_rfl) (by kernel_rfl) (fun _ _ _ h => h) (yields_at 47 _ b2 (off2 + m * 4) (fireC g) _ (by rfl) rfl (by rfl) (fun w' h => cells_far h HC2.out (Nat.le_refl _) (fun h => h)) Tryd.underlying47 rfl (infoRF _)) (by assumption) ?_
                try simp only [Act.put, List.setIfInBounds_toArray, List.set_cons_zero, List.set_cons_succ, List.getElem_toArray, List.getElem_cons_succ, List.getElem_cons_zero]
                refine wpAnyH_take (i := 9) (v := _) rfl (by kernel_rfl) (by kernel_rfl) (by kernel_rfl) (fun _ _ _ h => h) (yields_at 47 _ gf 0 (fireC ⟨i, y, a, 0⟩) _ (by rfl) rfl (by rfl) (fun w' h j hj => by rw [Nat.zero_add]; exact cell_at (h.blk HB2.out (fun h => h)) j) Tryd.underlying47 rfl (infoRF _)) (by assumption) ?_
                try simp only [Act.put, List.setIfInBounds_toArray, List.set_cons_zero, List.set_cons_succ, List.getElem_toArray, List.getElem_cons_succ, List.getElem_cons_zero]
                refine wpAnyH_ready (rs := [10]) (by kernel_rfl) (by simp) ?_
                refine AllReadyH.cons rfl (fun K hK => ?_) AllReadyH.nil
                go_simp
                refine (HBE.out _).mono ?_
                rintro e w10 ⟨rfl, hf10⟩
                refine hK.out _ _ (ff4 hHeld hf10) (fun hHeld2 => ?_)
                clear hK K hHeld hf10
                rename_i hHeld2
                have hHeld := hHeld2
                clear hHeld2
                try simp only [Act.put, List.setIfInBounds_toArray, List.set_cons_zero, List.set_cons_succ, List.getElem_toArray, List.getElem_cons_succ, List.getElem_cons_zero]
                refine wpAnyH_take (i := 11) (v := ?_) rfl (by kernel_rfl) (by kernel_rfl) (by kernel_rfl) (fun _ _ _ h => h) (Or.inl ⟨by rfl, ?_⟩) (by assumption) ?_
                rotate_left
                · intro w' hSw
                  go_simp
                  try with_reducible rfl
                try simp only [Act.put, List.setIfInBounds_toArray, List.set_cons_zero, List.set_cons_succ, List.getElem_toArray, List.getElem_cons_succ, List.getElem_cons_zero]
                refine wpAnyH_done (by kernel_rfl) ?_ _
                go_wp2_with fail
                have HW2 := Lib.hid hHeld
                clear hHeld
                refine wp_region_held_drew (S := fun w' => Fr w10 w' (fun _ => False)) (by kernel_rfl) (Fr.drew w10 _) (fun hHeld => ?_)
                refine wpAnyH_take (i := 1) (v := ?_) rfl (by kernel_rfl) (by kernel_rfl) (by kernel_rfl) (fun _ _ _ h => h) (Or.inl ⟨by rfl, ?_⟩) (by assumption) ?_
                rotate_left
                · intro w' hSw
                  go_simp
                  try with_reducible rfl
                try simp only [Act.put, List.setIfInBounds_toArray, List.set_cons_zero, List.set_cons_succ, List.getElem_toArray, List.getElem_cons_succ, List.getElem_cons_zero]
                refine wpAnyH_take (i := 2) (v := ?_) rfl (by kernel_rfl) (by kernel_rfl) (by kernel_rfl) (fun _ _ _ h => h) (Or.inl ⟨by rfl, ?_⟩) (by assumption) ?_
                rotate_left
                · intro w' hSw
                  go_simp
                  try with_reducible rfl
                try simp only [Act.put, List.setIfInBounds_toArray, List.set_cons_zero, List.set_cons_succ, List.getElem_toArray, List.getElem_cons_succ, List.getElem_cons_zero]
                refine wpAnyH_take (i := 3) (v := ?_) rfl (by kernel_rfl) (by kernel_rfl) (by kernel_rfl) (fun _ _ _ h => h) (Or.inl ⟨by rfl, ?_⟩) (by assumption) ?_
                rotate_left
                · intro w' hSw
                  have hc0 := hc0
                  go_simp
                  try with_reducible rfl
                try simp only [Act.put, List.setIfInBounds_toArray, List.set_cons_zero, List.set_cons_succ, List.getElem_toArray, List.getElem_cons_succ, List.getElem_cons_zero]
                refine wpAnyH_take (i := 5) (v := _) rfl (by kernel_rfl) (by kernel_rfl) (by kernel_rfl) (fun _ _ _ h => h) (yields_at 47 _ gf 0 (fireC ⟨i, y, a, 0⟩) _ (by rfl) rfl (by rfl) (fun w' h j hj => by rw [Nat.zero_add]; exact cell_at ((ff4 HW2.out h).blk HB2.out (fun h => h)) j) Tryd.underlying47 rfl (infoRF _)) (by assumption) ?_
                try simp only [Act.put, List.setIfInBounds_toArray, List.set_cons_zero, List.set_cons_succ, List.getElem_toArray, List.getElem_cons_succ, List.getElem_cons_zero]
                refine wpAnyH_take (i := 8) (v := ?_) rfl (by kernel_rfl) (by kernel_rfl) (by kernel_rfl) (fun _ _ _ h => h) (Or.inl ⟨by rfl, ?_⟩) (by assumption) ?_
                rotate_left
                · intro w' hSw
                  go_simp
                  try with_reducible rfl
                try simp only [Act.put, List.setIfInBounds_toArray, List.set_cons_zero, List.set_cons_succ, List.getElem_toArray, List.getElem_cons_succ, List.getElem_cons_zero]
                refine wpAnyH_take (i := 9) (v := ?_) rfl (by kernel_rfl) (by kernel_rfl) (by kernel_rfl) (fun _ _ _ h => h) (Or.inl ⟨by rfl, ?_⟩) (by assumption) ?_
                rotate_left
                · intro w' hSw
                  go_simp
                  try with_reducible rfl
                try simp only [Act.put, List.setIfInBounds_toArray, List.set_cons_zero, List.set_cons_succ, List.getElem_toArray, List.getElem_cons_succ, List.getElem_cons_zero]
                refine wpAnyH_take (i := 10) (v := ?_) rfl (by kernel_rfl) (by kernel_rfl) (by kernel_rfl) (fun _ _ _ h => h) (Or.inl ⟨by rfl, ?_⟩) (by assumption) ?_
                rotate_left
                · intro w' hSw
                  have hc1 := hc1
                  go_simp
                  try with_reducible rfl
                try simp only [Act.put, List.setIfInBounds_toArray, List.set_cons_zero, List.set_cons_succ, List.getElem_toArray, List.getElem_cons_succ, List.getElem_cons_zero]
                have hR9 := Rd.fr HR2.out (ff4 HW2.out (Fr.drew w10 (fun _ => False))) (fun _ _ _ _ h => h)
                have hr1 := hR9.cutA (lo := 0) (hi := m) (cap := cp5) (Nat.zero_le _) (by omega) (by omega)
                have hr4 := hR9.cutA (lo := m) (hi := P.length) (cap := cp5) (by omega) (Nat.le_refl _) (by omega)
                rw [flat_take fireL_len _ _ (by omega)] at hr1
                rw [flat_drop fireL_len _ _ (by omega)] at hr4
                have lt : (P.take m).length = m := by rw [List.length_take]; omega
                have ld : (P.drop m).length = P.length - m := List.length_drop
                refine wpAnyH_insert (f := fireL) (p := P.take m) (q := P.drop m) (x := ⟨i, y, a, 0⟩) 0 4 6 7 11 _ _ _ _ _ rfl rfl rfl rfl rfl (by decide) (by decide) (by decide) (by kernel_rfl) (by kernel_rfl) (by kernel_rfl) (by kernel_rfl) (by kernel_rfl) (by kernel_rfl) (by kernel_rfl) rfl rfl rfl rfl rfl rfl rfl rfl rfl rfl rfl rfl rfl rfl (by decide) (by decide) (by decide) (by decide) (by decide) (by decide) ⟨(by decide : 84 < 97), (by decide : 88 < 97), (by decide : 90 < 97), (by decide : 91 < 97)⟩
                  (Mem.cutA (some ⟨b2, off2, none⟩) cp5 0 4) cp5 (by rw [lt]; rfl) (by rw [lt]; exact hr1) (Mem.cutA (some ⟨b2, off2, none⟩) cp5 m 4) (cp5 - m) (by rw [ld]; rfl) (by rw [ld]; exact hr4) (.agg (fireC ⟨i, y, a, 0⟩)) (fireC ⟨i, y, a, 0⟩) rfl (fun w => by kernel_rfl) (fun w => by kernel_rfl) rfl fireL_one _ 32 Tryd.underlying26 info_rfire rfl (by decide) rfl (by omega) (by omega) (by decide)
                  (fun W hf => ff4 (Fr.drew w10 _) hf) ?_
                intro A9 c9 x0 x1 x2 x3 W9 hS9 ho9 hf9
                clear hHeld
                try simp only [Act.put, List.setIfInBounds_toArray, List.set_cons_zero, List.set_cons_succ, List.getElem_toArray, List.getElem_cons_succ, List.getElem_cons_zero]
                refine wpAnyH_take (i := 12) (v := ?_) rfl (by kernel_rfl) (by kernel_rfl) (by kernel_rfl) (fun _ _ _ h => h) (Or.inl ⟨by rfl, ?_⟩) (by assumption) ?_
                rotate_left
                · intro w' hSw
                  go_simp
                  try with_reducible rfl
                try simp only [Act.put, List.setIfInBounds_toArray, List.set_cons_zero, List.set_cons_succ, List.getElem_toArray, List.getElem_cons_succ, List.getElem_cons_zero]
                refine wpAnyH_done (by kernel_rfl) ?_ _
                have HF12 := Lib.hid (ff4 (ff4 (ff4 HF9.out HF2.out) HW2.out) hS9)
                rw [lt, ld] at ho9
                have HO12 := Lib.hid (own_base ho9 (show w.heap.size ≤ _ from (ff4 (ff4 (ff4 HF9.out HF2.out) HW2.out) (Fr.drew w10 (fun _ => False))).size))
                clear hS9 ho9 hf9 hr1 hr4 hR9 lt ld
                go_wp2_with fail
                go_roundg (l.length - (i + 1))
                case measure => omega
                case rel => exact ⟨i + 1, by omega, by go_num, by rw [yearN_some HRI.out HAT.out, HP.out, ahead_put, ← HM.out]; exact HO12.out, HF12.out⟩
              · have m0 : ¬ ((m : Int) < (P.length : Int)) := by omega
                clear hmt
                go_wp2_with fail
                refine wp_region_held_drew (S := fun w' => Fr wr w' (fun _ => False)) (by kernel_rfl) (Fr.drew wr _) (fun hHeld => ?_)
                refine wpAnyH_take (i := 0) (v := ?_) rfl (by kernel_rfl) (by kernel_rfl) (by kernel_rfl) (fun _ _ _ h => h) (Or.inl ⟨by rfl, ?_⟩) (by assumption) ?_
                rotate_left
                · intro w' hSw
                  go_simp
                  try with_reducible rfl
                try simp only [Act.put, List.setIfInBounds_toArray, List.set_cons_zero, List.set_cons_succ, List.getElem_toArray, List.getElem_cons_zero]
                refine wpAnyH_take (i := 1) (v := ?_) rfl (by kernel_rfl) (by kernel_rfl) (by kernel_rfl) (fun _ _ _ h => h) (Or.inl ⟨by rfl, ?_⟩) (by assumption) ?_
                rotate_left
                · intro w' hSw
                  go_simp
                  try with_reducible rfl
                try simp only [Act.put, List.setIfInBounds_toArray, List.set_cons_zero, List.set_cons_succ, List.getElem_toArray, List.getElem_cons_succ, List.getElem_cons_zero]
                refine wpAnyH_take (i := 2) (v := ?_) rfl (by kernel_rfl) (by kernel_rfl) (by kernel_rfl) (fun _ _ _ h => h) (Or.inl ⟨by rfl, ?_⟩) (by assumption) ?_
                rotate_left
                · intro w' hSw
                  go_simp
                  try with_reducible rfl
                try simp only [Act.put, List.setIfInBounds_toArray, List.set_cons_zero, List.set_cons_succ, List.getElem_toArray, List.getElem_cons_succ, List.getElem_cons_zero]
                refine wpAnyH_take (i := 3) (v := .bool false) rfl (by kernel_rfl) (by kernel_rfl) (by kernel_rfl) (fun _ _ _ h => h) (Or.inl ⟨by rfl, ?_⟩) (by assumption) ?_
                · intro w' hSw
                  go_simp
                try simp only [Act.put, List.setIfInBounds_toArray, List.set_cons_zero, List.set_cons_succ, List.getElem_toArray, List.getElem_cons_succ, List.getElem_cons_zero]
                refine wpAnyH_take (i := 4) (v := ?_) rfl (by kernel_rfl) (by kernel_rfl) (by kernel_rfl) (fun _ _ _ h => h) (Or.inl ⟨by rfl, ?_⟩) (by assumption) ?_
                rotate_left
                · intro w' hSw
                  go_simp
                  try with_reducible rfl
                try simp only [Act.put, List.setIfInBounds_toArray, List.set_cons_zero, List.set_cons_succ, List.getElem_toArray, List.getElem_cons_succ, List.getElem_cons_zero]
                refine wpAnyH_take (i := 5) (v := undef) rfl (by kernel_rfl) (by kernel_rfl) (by kernel_rfl) (fun _ _ _ h => h) (Or.inr ⟨by rfl, rfl⟩) (by assumption) ?_
                try simp only [Act.put, List.setIfInBounds_toArray, List.set_cons_zero, List.set_cons_succ, List.getElem_toArray, List.getElem_cons_succ, List.getElem_cons_zero]
                refine wpAnyH_take (i := 6) (v := undef) rfl (by kernel_rfl) (by kernel_rfl) (by kernel_rfl) (fun _ _ _ h => h) (Or.inr ⟨by rfl, rfl⟩) (by assumption) ?_
                try simp only [Act.put, List.setIfInBounds_toArray, List.set_cons_zero, List.set_cons_succ, List.getElem_toArray, List.getElem_cons_succ, List.getElem_cons_zero]
                refine wpAnyH_take (i := 7) (v := undef) rfl (by kernel_rfl) (by kernel_rfl) (by kernel_rfl) (fun _ _ _ h => h) (Or.inr ⟨by rfl, rfl⟩) (by assumption) ?_
                try simp only [Act.put, List.setIfInBounds_toArray, List.set_cons_zero, List.set_cons_succ, List.getElem_toArray, List.getElem_cons_succ, List.getElem_cons_zero]
                refine wpAnyH_take (i := 8) (v := undef) rfl (by kernel_rfl) (by kernel_rfl) (by kernel_rfl) (fun _ _ _ h => h) (Or.inr ⟨by rfl, rfl⟩) (by assumption) ?_
                try simp only [Act.put, List.setIfInBounds_toArray, List.set_cons_zero, List.set_cons_succ, List.getElem_toArray, List.getElem_cons_succ, List.getElem_cons_zero]
                refine wpAnyH_take (i := 9) (v := undef) rfl (by kernel_rfl) (by kernel_rfl) (by kernel_rfl) (fun _ _ _ h => h) (Or.inr ⟨by rfl, rfl⟩) (by assumption) ?_
                try simp only [Act.put, List.setIfInBounds_toArray, List.set_cons_zero, List.set_cons_succ, List.getElem_toArray, List.getElem_cons_succ, List.getElem_cons_zero]
                refine wpAnyH_take (i := 10) (v := undef) rfl (by kernel_rfl) (by kernel_rfl) (by kernel_rfl) (fun _ _ _ h => h) (Or.inr ⟨by rfl, rfl⟩) (by assumption) ?_
                try simp only [Act.put, List.setIfInBounds_toArray, List.set_cons_zero, List.set_cons_succ, List.getElem_toArray, List.getElem_cons_succ, List.getElem_cons_zero]
                refine wpAnyH_take (i := 11) (v := ?_) rfl (by kernel_rfl) (by kernel_rfl) (by kernel_rfl) (fun _ _ _ h => h) (Or.inl ⟨by rfl, ?_⟩) (by assumption) ?_
                rotate_left
                · intro w' hSw
                  go_simp
                  try with_reducible rfl
                try simp only [Act.put, List.setIfInBounds_toArray, List.set_cons_zero, List.set_cons_succ, List.getElem_toArray, List.getElem_cons_succ, List.getElem_cons_zero]
                refine wpAnyH_done (by kernel_rfl) ?_ _
                go_wp2_with fail
                have HW2 := Lib.hid hHeld
                clear hHeld
                generalize wr.drew = w10 at *
                refine wp_region_held_drew (S := fun w' => Fr w10 w' (fun _ => False)) (by kernel_rfl) (Fr.drew w10 _) (fun hHeld => ?_)
                refine wpAnyH_take (i := 1) (v := ?_) rfl (by kernel_rfl) (by kernel_rfl) (by kernel_rfl) (fun _ _ _ h => h) (Or.inl ⟨by rfl, ?_⟩) (by assumption) ?_
                rotate_left
                · intro w' hSw
                  go_simp
                  try with_reducible rfl
                try simp only [Act.put, List.setIfInBounds_toArray, List.set_cons_zero, List.set_cons_succ, List.getElem_toArray, List.getElem_cons_succ, List.getElem_cons_zero]
                refine wpAnyH_take (i := 2) (v := ?_) rfl (by kernel_rfl) (by kernel_rfl) (by kernel_rfl) (fun _ _ _ h => h) (Or.inl ⟨by rfl, ?_⟩) (by assumption) ?_
                rotate_left
                · intro w' hSw
                  go_simp
                  try with_reducible rfl
                try simp only [Act.put, List.setIfInBounds_toArray, List.set_cons_zero, List.set_cons_succ, List.getElem_toArray, List.getElem_cons_succ, List.getElem_cons_zero]
                refine wpAnyH_take (i := 3) (v := ?_) rfl (by kernel_rfl) (by kernel_rfl) (by kernel_rfl) (fun _ _ _ h => h) (Or.inl ⟨by rfl, ?_⟩) (by assumption) ?_
                rotate_left
                · intro w' hSw
                  have hc0 := hc0
                  go_simp
                  try with_reducible rfl
                try simp only [Act.put, List.setIfInBounds_toArray, List.set_cons_zero, List.set_cons_succ, List.getElem_toArray, List.getElem_cons_succ, List.getElem_cons_zero]
                refine wpAnyH_take (i := 5) (v := _) rfl (by kernel_rfl) (by kernel_rfl) (by kernel_rfl) (fun _ _ _ h => h) (yields_at 47 _ gf 0 (fireC ⟨i, y, a, 0⟩) _ (by rfl) rfl (by rfl) (fun w' h j hj => by rw [Nat.zero_add]; exact cell_at ((ff4 HW2.out h).blk HB2.out (fun h => h)) j) Tryd.underlying47 rfl (infoRF _)) (by assumption) ?_
                try simp only [Act.put, List.setIfInBounds_toArray, List.set_cons_zero, List.set_cons_succ, List.getElem_toArray, List.getElem_cons_succ, List.getElem_cons_zero]
                refine wpAnyH_take (i := 8) (v := ?_) rfl (by kernel_rfl) (by kernel_rfl) (by kernel_rfl) (fun _ _ _ h => h) (Or.inl ⟨by rfl, ?_⟩) (by assumption) ?_
                rotate_left
                · intro w' hSw
                  go_simp
                  try with_reducible rfl
                try simp only [Act.put, List.setIfInBounds_toArray, List.set_cons_zero, List.set_cons_succ, List.getElem_toArray, List.getElem_cons_succ, List.getElem_cons_zero]
                refine wpAnyH_take (i := 9) (v := ?_) rfl (by kernel_rfl) (by kernel_rfl) (by kernel_rfl) (fun _ _ _ h => h) (Or.inl ⟨by rfl, ?_⟩) (by assumption) ?_
                rotate_left
                · intro w' hSw
                  go_simp
                  try with_reducible rfl
                try simp only [Act.put, List.setIfInBounds_toArray, List.set_cons_zero, List.set_cons_succ, List.getElem_toArray, List.getElem_cons_succ, List.getElem_cons_zero]
                refine wpAnyH_take (i := 10) (v := ?_) rfl (by kernel_rfl) (by kernel_rfl) (by kernel_rfl) (fun _ _ _ h => h) (Or.inl ⟨by rfl, ?_⟩) (by assumption) ?_
                rotate_left
                · intro w' hSw
                  have hc1 := hc1
                  go_simp
                  try with_reducible rfl
                try simp only [Act.put, List.setIfInBounds_toArray, List.set_cons_zero, List.set_cons_succ, List.getElem_toArray, List.getElem_cons_succ, List.getElem_cons_zero]
                have hR9 := Rd.fr HR2.out (ff4 HW2.out (Fr.drew w10 (fun _ => False))) (fun _ _ _ _ h => h)
                have hr1 := hR9.cutA (lo := 0) (hi := m) (cap := cp5) (Nat.zero_le _) (by omega) (by omega)
                have hr4 := hR9.cutA (lo := m) (hi := P.length) (cap := cp5) (by omega) (Nat.le_refl _) (by omega)
                rw [flat_take fireL_len _ _ (by omega)] at hr1
                rw [flat_drop fireL_len _ _ (by omega)] at hr4
                have lt : (P.take m).length = m := by rw [List.length_take]; omega
                have ld : (P.drop m).length = P.length - m := List.length_drop
                refine wpAnyH_insert (f := fireL) (p := P.take m) (q := P.drop m) (x := ⟨i, y, a, 0⟩) 0 4 6 7 11 _ _ _ _ _ rfl rfl rfl rfl rfl (by decide) (by decide) (by decide) (by kernel_rfl) (by kernel_rfl) (by kernel_rfl) (by kernel_rfl) (by kernel_rfl) (by kernel_rfl) (by kernel_rfl) rfl rfl rfl rfl rfl rfl rfl rfl rfl rfl rfl rfl rfl rfl (by decide) (by decide) (by decide) (by decide) (by decide) (by decide) ⟨(by decide : 84 < 97), (by decide : 88 < 97), (by decide : 90 < 97), (by decide : 91 < 97)⟩
                  (Mem.cutA A5 cp5 0 4) cp5 (by rw [lt]; rfl) (by rw [lt]; exact hr1) (Mem.cutA A5 cp5 m 4) (cp5 - m) (by rw [ld]; rfl) (by rw [ld]; exact hr4) (.agg (fireC ⟨i, y, a, 0⟩)) (fireC ⟨i, y, a, 0⟩) rfl (fun w => by kernel_rfl) (fun w => by kernel_rfl) rfl fireL_one _ 32 Tryd.underlying26 info_rfire rfl (by decide) rfl (by omega) (by omega) (by decide)
                  (fun W hf => ff4 (Fr.drew w10 _) hf) ?_
                intro A9 c9 x0 x1 x2 x3 W9 hS9 ho9 hf9
                clear hHeld
                try simp only [Act.put, List.setIfInBounds_toArray, List.set_cons_zero, List.set_cons_succ, List.getElem_toArray, List.getElem_cons_succ, List.getElem_cons_zero]
                refine wpAnyH_take (i := 12) (v := ?_) rfl (by kernel_rfl) (by kernel_rfl) (by kernel_rfl) (fun _ _ _ h => h) (Or.inl ⟨by rfl, ?_⟩) (by assumption) ?_
                rotate_left
                · intro w' hSw
                  go_simp
                  try with_reducible rfl
                try simp only [Act.put, List.setIfInBounds_toArray, List.set_cons_zero, List.set_cons_succ, List.getElem_toArray, List.getElem_cons_succ, List.getElem_cons_zero]
                refine wpAnyH_done (by kernel_rfl) ?_ _
                have HF12 := Lib.hid (ff4 (ff4 (ff4 HF9.out HF2.out) HW2.out) hS9)
                rw [lt, ld] at ho9
                have HO12 := Lib.hid (own_base ho9 (show w.heap.size ≤ _ from (ff4 (ff4 (ff4 HF9.out HF2.out) HW2.out) (Fr.drew w10 (fun _ => False))).size))
                clear hS9 ho9 hf9 hr1 hr4 hR9 lt ld
                go_wp2_with fail
                go_roundg (l.length - (i + 1))
                case measure => omega
                case rel => exact ⟨i + 1, by omega, by go_num, by rw [yearN_some HRI.out HAT.out, HP.out, ahead_put, ← HM.out]; exact HO12.out, HF12.out⟩
        · have hj2 : (j != 0) = true := by simpa using hj
          have hno := N1 hj
          clear hj
          go_wp2_with fail
          go_roundg (l.length - (i + 1))
          case measure => omega
          case rel => exact ⟨i + 1, by omega, by go_num, by rw [yearN_none HRI.out (atR_none hno), HP.out]; exact HO.out.kept HF5.out, ff4 HF.out HF5.out⟩
      · have hno := atR_no hla
        have h4 : y < r.fr ∨ (r.fr ≤ y ∧ r.to < y) ∨ (r.fr ≤ y ∧ y ≤ r.to ∧ y < 1) ∨ (r.fr ≤ y ∧ y ≤ r.to ∧ 1 ≤ y ∧ 9999 < y) := by unfold lasts at hla; omega
        clear hla
        rcases h4 with h | ⟨h, h1⟩ | ⟨h, h1, h2⟩ | ⟨h, h1, h2, h3⟩
        all_goals
          go_wp2_with fail
          go_roundg (l.length - (i + 1))
          case measure => omega
          case rel => exact ⟨i + 1, by omega, by go_num, by rw [yearN_none HRI.out hno, HP.out]; exact HO.out, HF.out⟩
    · obtain rfl : i = l.length := by omega
      have HO := Lib.hid ho
      have HF := Lib.hid hf
      clear ho hf
      go_wp2_with fail
      go_ret
      exact ⟨_, rfl, HO.out, HF.out⟩
end Go.Proofs.YtbkjafaijkmpfaaDoor
namespace Go.Proofs.YtbkjafaijkmpfaaDoor
open Go.RowKit Go.Mem Go.Lin Go.Xpd

/-- rules as Light lets them by -/
structure OkR (r : RuleL) : Prop where
  s : -700000 ≤ r.at_.s ∧ r.at_.s ≤ 700000
  fr : -20000 ≤ r.fr ∧ r.fr ≤ 20000
  to : -20000 ≤ r.to ∧ r.to ≤ 20000
/-- one cell of an element of a row is turned -/
theorem own_put {X : Type} {w : World} {base : Nat} {e : TypeId} {k : Nat} {f : X → List Value} (hf : ∀ x, (f x).length = k) {v : Value} {p q : List X} {x : X} (h : Own w base e k f v (p ++ x :: q)) {j : Nat} (hj : j < k) :
    ∃ g c cur, v = .slice (some ⟨g, 0, none⟩) (p ++ x :: q).length c ∧ base ≤ g ∧ Blk w g e cur ∧ p.length * k + j < cur.size ∧
      ∀ W u y, f y = (f x).set j u → Blk W g e (cur.setIfInBounds (p.length * k + j) u) → Own W base e k f v (p ++ y :: q) := by
  have hl := h.1
  rcases h.2 with ⟨-, h2⟩ | ⟨g, cap, cur, rfl, hg, hb, hn, hm, hs, ht⟩
  · exact absurd h2 (by simp)
  · refine ⟨g, cap, cur, rfl, hg, hb, ?_, fun W u y hy hW => ⟨flat_len f k hf _, ?_⟩⟩
    · have h1 : (p ++ x :: q).length * k ≤ cap * k := Nat.mul_le_mul_right _ hn
      have h2 : (p ++ x :: q).length * k = p.length * k + (q.length + 1) * k := by rw [← Nat.add_mul]; congr 1; simp
      have h3 : k ≤ (q.length + 1) * k := Nat.le_mul_of_pos_left _ (by omega)
      omega
    · have el : (p ++ y :: q).length = (p ++ x :: q).length := by simp
      rw [el]
      refine .inr ⟨g, cap, _, rfl, hg, hW, hn, hm, by rw [Array.size_setIfInBounds]; exact hs, ?_⟩
      rw [Array.toList_setIfInBounds, List.take_set, ht]
      have hp : (p.flatMap f).length = p.length * k := flat_len f k hf p
      rw [List.flatMap_append, List.flatMap_append, ← hp, List.set_append_right _ _ (Nat.le_add_right _ _), Nat.add_sub_cancel_left]
      rw [List.flatMap_cons, List.flatMap_cons, List.set_append_left _ _ (by rw [hf]; exact hj), hy]
/-- the reference's ahead -/
theorem sav_of {l : List RuleL} {y : Int} {f : FireL} (h : f ∈ yearD l y) : ∃ (k : Nat) (r : RuleL), l[k]? = some r ∧ f.i = k ∧ savD l f.i = r.save := by
  obtain ⟨k, r, h1, -, h3⟩ := yearD_mem.1 h
  have e : f.i = k := by rw [h3]
  refine ⟨k, r, h1, e, ?_⟩
  unfold savD
  rw [e, Int.toNat_natCast, h1]
set_option maxHeartbeats 3200000 in
set_option maxRecDepth 100000 in
theorem ahead_any (l : List RuleL) (A : Option Addr) (cap : Nat) (y : Int) (w : World) (hl : RusAt w A l) (hn : l.length ≤ 1000) (hr : ∀ r ∈ l, OkR r) (hy : -1000000 ≤ y ∧ y ≤ 1000000) :
    Calls Tryd.prog 23 #[.slice A l.length cap, intV y] w fun e w' => e = .returned (intV (befY l y)) ∧ Fr w w' (fun _ => False) := by
  have HS := Lib.hid (span_any l A cap w hl hn)
  have HL := Lib.hid hl
  have HLe := Lib.hid (fun (W : World) (f : Fr w W (fun _ => False)) => least_any l A cap W (hl.kept f) hn)
  have HYr := Lib.hid (fun (x : Int) (W : World) (f : Fr w W (fun _ => False)) => year_any l A cap x W (hl.kept f) hn (fun r h => (hr r h).s))
  obtain ⟨sb1, sb2, sb3, sb4⟩ := span_bound (l := l) (n := 20000) (by omega) (fun r h => ⟨(hr r h).fr.1, (hr r h).fr.2, (hr r h).to.1, (hr r h).to.2⟩)
  have hle := least_range l
  have HC := Lib.hid (fun x (hx : x = min (capY l y - 1) 9999) => show befY l (x + 1) = befY l y by rw [hx, befY_top, befY_cap])
  have HD := Lib.hid (show ∀ (x : Int), yearD l x = [] → befY l (x + 1) = befY l x from fun _ => befY_down)
  have HZ := Lib.hid (show ∀ (x : Int), x < leastD l → befY l (x + 1) = 0 from fun _ => befY_least)
  have HB := Lib.hid (show ∀ (x : Int) (f : FireL), (yearD l x).getLast? = some f → befY l (x + 1) = savD l f.i from fun _ _ => befY_some)
  obtain ⟨B, hB⟩ : ∃ B, befY l y = B := ⟨_, rfl⟩
  have hcap : (∃ S1 S2, spanD l = (S1, S2, true) ∧ capY l y = y) ∨ (∃ S1 S2, spanD l = (S1, S2, false) ∧ -20000 ≤ S2 ∧ S2 ≤ 20000 ∧ capY l y = min y (S2 + 1)) := by
    unfold capY
    generalize spanD l = S at *
    obtain ⟨S1, S2, S3⟩ := S
    cases S3 with
    | true => exact .inl ⟨S1, S2, rfl, rfl⟩
    | false => exact .inr ⟨S1, S2, rfl, sb3, sb4, rfl⟩
  unfold SpanR at HS
  rw [hB] at HC ⊢
  generalize capY l y = Y at *
  clear hl hr sb1 sb2 sb3 sb4 hB
  rcases hcap with ⟨S1, S2, hS, hY⟩ | ⟨S1, S2, hS, h1, h2, hY⟩
  · rw [hS] at HS
    subst hY
    clear hS
    go_enter Tryd.func23, Tryd.ntmps23
    go_wp2_with fail
    refine HS.out.mono ?_
    rintro e w2 ⟨rfl, hf2⟩
    have HF2 := Lib.hid hf2
    clear hf2
    go_wp2_with fail
    all_goals
      go_loopg [8, 9] 10001 (fun g v8 _ wr => ∃ x : Int, v8 = intV x ∧ x + 1 - leastD l ≤ g ∧ -1000001 ≤ x ∧ x ≤ 9999 ∧ befY l (x + 1) = B ∧ Fr w wr (fun _ => False))
      case atStart => exact ⟨_, rfl, by omega, by omega, by omega, HC.out _ (by omega), HF2.out⟩
      case round =>
        obtain ⟨x, rfl, hg, hx1, hx2, hb, hf⟩ := hrel
        have HF := Lib.hid hf
        have HBx := Lib.hid hb
        have HLx := Lib.hid (HLe.out wr hf)
        have HYx := Lib.hid (HYr.out x)
        clear hf hb
        by_cases hx : leastD l ≤ x
        · go_wp2_with fail
          refine HLx.out.mono ?_
          rintro e w3 ⟨rfl, hf3⟩
          have HF3 := Lib.hid (ff4 HF.out hf3)
          clear hf3
          go_wp2_with fail
          refine (HYx.out w3 HF3.out).mono ?_
          rintro e w4 ⟨v, rfl, ho, hf4⟩
          obtain ⟨A4, c4, rfl, -, -, hrd⟩ := ho.rd
          have HF4 := Lib.hid (ff4 HF3.out hf4)
          have HR4 := Lib.hid hrd
          clear ho hf4 hrd
          rcases List.eq_nil_or_concat (yearD l x) with he | ⟨F, f, hFf⟩
          · have HBn := Lib.hid ((HD.out _ he).symm.trans HBx.out)
            rw [he]
            clear he
            go_wp2_with fail
            go_roundg (gk - 1)
            case measure => omega
            case rel => exact ⟨x - 1, by go_num, by omega, by omega, by omega, by rw [show x - 1 + 1 = x by omega]; exact HBn.out, HF4.out⟩
          · rw [List.concat_eq_append] at hFf
            obtain ⟨k, r, hk, hfi, hsv⟩ := sav_of (show f ∈ yearD l x by rw [hFf]; simp)
            have HRes := Lib.hid (show r.save = B by rw [← hsv, ← HB.out _ _ (show (yearD l x).getLast? = some f by rw [hFf]; simp)]; exact HBx.out)
            have hR4 := HR4.out
            rw [hFf] at hR4
            obtain ⟨b4, off4, hA4, hc4⟩ := FiresAt.at_ hR4 (show (F ++ [f])[F.length]? = some f by simp)
            subst hA4
            obtain ⟨b, off, hA, hc⟩ := (HL.out.kept HF4.out).at_ hk
            have c0 : w4.cell? ⟨b4, off4 + F.length * 4, none⟩ = some (.int .i64 (k : Int)) := by
              have := hc4 0 (show 0 < 4 by decide)
              rw [Nat.add_zero] at this
              rw [this, ← hfi]; rfl
            have c9 : w4.cell? ⟨b, off + k * 11 + 9, none⟩ = some (.int .i64 r.save) := hc 9 (show 9 < 11 by decide)
            have k0 : (k : Int) < (l.length : Int) := by have := (List.getElem?_eq_some_iff.1 hk).1; omega
            rw [hFf, List.length_append, List.length_singleton]
            obtain ⟨N, hN⟩ : ∃ N, F.length = N := ⟨_, rfl⟩
            rw [hN] at c0 ⊢
            have hNl : N < 1000 := by
              have := yearN_len l x l.length
              have h2 : yearN l x l.length = F ++ [f] := hFf
              rw [h2, List.length_append, List.length_singleton] at this
              omega
            subst hA
            clear hFf hk hfi hsv hR4 hc4 hc hN
            go_wp2_with fail
            go_ret
            refine ⟨?_, HF4.out⟩
            rw [← HRes.out]
            rfl
        · have HBn := Lib.hid (show (0 : Int) = B from (HZ.out _ (by omega)).symm.trans HBx.out)
          go_wp2_with fail
          refine HLx.out.mono ?_
          rintro e w3 ⟨rfl, hf3⟩
          have HF3 := Lib.hid (ff4 HF.out hf3)
          clear hf3
          go_wp2_with fail
          go_ret
          refine ⟨?_, HF3.out⟩
          rw [← HBn.out]
          rfl
  · rw [hS] at HS
    clear hS
    go_enter Tryd.func23, Tryd.ntmps23
    go_wp2_with fail
    refine HS.out.mono ?_
    rintro e w2 ⟨rfl, hf2⟩
    have HF2 := Lib.hid hf2
    clear hf2
    go_wp2_with fail
    all_goals
      go_loopg [8, 9] 10001 (fun g v8 _ wr => ∃ x : Int, v8 = intV x ∧ x + 1 - leastD l ≤ g ∧ -1000001 ≤ x ∧ x ≤ 9999 ∧ befY l (x + 1) = B ∧ Fr w wr (fun _ => False))
      case atStart => exact ⟨_, rfl, by omega, by omega, by omega, HC.out _ (by omega), HF2.out⟩
      case round =>
        obtain ⟨x, rfl, hg, hx1, hx2, hb, hf⟩ := hrel
        have HF := Lib.hid hf
        have HBx := Lib.hid hb
        have HLx := Lib.hid (HLe.out wr hf)
        have HYx := Lib.hid (HYr.out x)
        clear hf hb
        by_cases hx : leastD l ≤ x
        · go_wp2_with fail
          refine HLx.out.mono ?_
          rintro e w3 ⟨rfl, hf3⟩
          have HF3 := Lib.hid (ff4 HF.out hf3)
          clear hf3
          go_wp2_with fail
          refine (HYx.out w3 HF3.out).mono ?_
          rintro e w4 ⟨v, rfl, ho, hf4⟩
          obtain ⟨A4, c4, rfl, -, -, hrd⟩ := ho.rd
          have HF4 := Lib.hid (ff4 HF3.out hf4)
          have HR4 := Lib.hid hrd
          clear ho hf4 hrd
          rcases List.eq_nil_or_concat (yearD l x) with he | ⟨F, f, hFf⟩
          · have HBn := Lib.hid ((HD.out _ he).symm.trans HBx.out)
            rw [he]
            clear he
            go_wp2_with fail
            go_roundg (gk - 1)
            case measure => omega
            case rel => exact ⟨x - 1, by go_num, by omega, by omega, by omega, by rw [show x - 1 + 1 = x by omega]; exact HBn.out, HF4.out⟩
          · rw [List.concat_eq_append] at hFf
            obtain ⟨k, r, hk, hfi, hsv⟩ := sav_of (show f ∈ yearD l x by rw [hFf]; simp)
            have HRes := Lib.hid (show r.save = B by rw [← hsv, ← HB.out _ _ (show (yearD l x).getLast? = some f by rw [hFf]; simp)]; exact HBx.out)
            have hR4 := HR4.out
            rw [hFf] at hR4
            obtain ⟨b4, off4, hA4, hc4⟩ := FiresAt.at_ hR4 (show (F ++ [f])[F.length]? = some f by simp)
            subst hA4
            obtain ⟨b, off, hA, hc⟩ := (HL.out.kept HF4.out).at_ hk
            have c0 : w4.cell? ⟨b4, off4 + F.length * 4, none⟩ = some (.int .i64 (k : Int)) := by
              have := hc4 0 (show 0 < 4 by decide)
              rw [Nat.add_zero] at this
              rw [this, ← hfi]; rfl
            have c9 : w4.cell? ⟨b, off + k * 11 + 9, none⟩ = some (.int .i64 r.save) := hc 9 (show 9 < 11 by decide)
            have k0 : (k : Int) < (l.length : Int) := by have := (List.getElem?_eq_some_iff.1 hk).1; omega
            rw [hFf, List.length_append, List.length_singleton]
            obtain ⟨N, hN⟩ : ∃ N, F.length = N := ⟨_, rfl⟩
            rw [hN] at c0 ⊢
            have hNl : N < 1000 := by
              have := yearN_len l x l.length
              have h2 : yearN l x l.length = F ++ [f] := hFf
              rw [h2, List.length_append, List.length_singleton] at this
              omega
            subst hA
            clear hFf hk hfi hsv hR4 hc4 hc hN
            go_wp2_with fail
            go_ret
            refine ⟨?_, HF4.out⟩
            rw [← HRes.out]
            rfl
        · have HBn := Lib.hid (show (0 : Int) = B from (HZ.out _ (by omega)).symm.trans HBx.out)
          go_wp2_with fail
          refine HLx.out.mono ?_
          rintro e w3 ⟨rfl, hf3⟩
          have HF3 := Lib.hid (ff4 HF.out hf3)
          clear hf3
          go_wp2_with fail
          go_ret
          refine ⟨?_, HF3.out⟩
          rw [← HBn.out]
          rfl
end Go.Proofs.YtbkjafaijkmpfaaDoor
