import Derived.Test.YtbolgodoifbnnaaDoorPln
namespace Go.Proofs.YtbolgodoifbnnaaDoor
open Go.RowKit Go.Mem Go.Esc

theorem field_any (w : World) (b : Nat) (s : ByteArray) (l : Bs) (h : RdAt w b s l) (hz : s.size ≤ 999990) :
    Calls Tryd.prog 43 #[.pointer (some ⟨b, 0, none⟩)] w (Ran (fieldD l) strV b s w) := by
  obtain ⟨T, hT⟩ : ∃ T, fieldD l = T := ⟨_, rfl⟩
  rw [hT]
  rw [fieldD] at hT
  have HS : Hid (∃ x : Bool, ((l.head? = some 34) ∧ x = true ∨ l.head? ≠ some 34 ∧ x = false) ∧ Calls Tryd.prog 56 #[.pointer (some ⟨b, 0, none⟩), .int .u8 34] w fun e w' => e = .returned (.bool x) ∧ ∃ n, w' = w.drewN n) := by
    cases l with
    | nil => exact Lib.hid ⟨false, .inr ⟨by simp, rfl⟩, sees_no w b s 34 h (by omega)⟩
    | cons c r =>
      by_cases e : c = 34
      · subst e
        exact Lib.hid ⟨true, .inl ⟨rfl, rfl⟩, sees_any w b s 34 r 34 true h rfl (by omega)⟩
      · exact Lib.hid ⟨false, .inr ⟨by simpa using e, rfl⟩, sees_any w b s c r 34 false h (toNat_ne (k := 34) e rfl) (by omega)⟩
  have HQ := Lib.hid (fun (w1 : World) (h1 : RdAt w1 b s l) => quoted_any w1 b s l h1 hz)
  have HP := Lib.hid (fun (w1 : World) (h1 : RdAt w1 b s l) => plain_any w1 b s l h1 hz)
  have HH := Lib.hid h
  clear h
  obtain ⟨x, hx, hsee⟩ := HS.out
  have HSE := Lib.hid hsee
  clear HS hsee
  rcases hx with ⟨h34, rfl⟩ | ⟨h34, rfl⟩
  · rw [if_pos h34] at hT
    rw [hT] at HQ
    clear hT h34 HP
    cases T with
    | err k =>
      go_enter Tryd.func43, Tryd.ntmps43
      go_wp2_with fail
      refine HSE.out.mono ?_
      rintro e w1 ⟨rfl, n, rfl⟩
      have HQ1 := Lib.hid (HQ.out (w.drewN n) HH.out)
      go_wp2_with fail
      refine HQ1.out.mono ?_
      rintro e w2 ⟨rfl, hf2⟩
      have HF2 := Lib.hid hf2
      clear hf2
      go_wp2_with fail
      exact ⟨rfl, rfl, (Fr.drewN w _ (fun k => k = b)).trans HF2.out (fun _ _ h => h) (fun _ _ h => h)⟩
    | got v r =>
      go_enter Tryd.func43, Tryd.ntmps43
      go_wp2_with fail
      refine HSE.out.mono ?_
      rintro e w1 ⟨rfl, n, rfl⟩
      have HQ1 := Lib.hid (HQ.out (w.drewN n) HH.out)
      go_wp2_with fail
      refine HQ1.out.mono ?_
      rintro e w2 ⟨rfl, hr2, hf2⟩
      have HF2 := Lib.hid hf2
      have HR2 := Lib.hid hr2
      clear hf2 hr2
      go_wp2_with fail
      go_ret
      exact ⟨rfl, HR2.out, (Fr.drewN w _ (fun k => k = b)).trans HF2.out (fun _ _ h => h) (fun _ _ h => h)⟩
  · rw [if_neg h34] at hT
    rw [hT] at HP
    clear hT h34 HQ
    cases T with
    | err k =>
      go_enter Tryd.func43, Tryd.ntmps43
      go_wp2_with fail
      refine HSE.out.mono ?_
      rintro e w1 ⟨rfl, n, rfl⟩
      have HQ1 := Lib.hid (HP.out (w.drewN n) HH.out)
      go_wp2_with fail
      refine HQ1.out.mono ?_
      rintro e w2 ⟨rfl, hf2⟩
      have HF2 := Lib.hid hf2
      clear hf2
      go_wp2_with fail
      exact ⟨rfl, rfl, (Fr.drewN w _ (fun k => k = b)).trans HF2.out (fun _ _ h => h) (fun _ _ h => h)⟩
    | got v r =>
      go_enter Tryd.func43, Tryd.ntmps43
      go_wp2_with fail
      refine HSE.out.mono ?_
      rintro e w1 ⟨rfl, n, rfl⟩
      have HQ1 := Lib.hid (HP.out (w.drewN n) HH.out)
      go_wp2_with fail
      refine HQ1.out.mono ?_
      rintro e w2 ⟨rfl, hr2, hf2⟩
      have HF2 := Lib.hid hf2
      have HR2 := Lib.hid hr2
      clear hf2 hr2
      go_wp2_with fail
      go_ret
      exact ⟨rfl, HR2.out, (Fr.drewN w _ (fun k => k = b)).trans HF2.out (fun _ _ h => h) (fun _ _ h => h)⟩

/-- the slice v is the call's own and holds these texts -/
def Strs (w : World) (base : Nat) (v : Value) (vs : List Bs) : Prop := w.ownsRow base 9 1 v vs.length (vs.map strV)
theorem Strs.fr {a c : World} {S : Nat → Prop} {base : Nat} {v : Value} {vs : List Bs} (h : Strs a base v vs) (hf : Fr a c S) (hs : ∀ k, base ≤ k → ¬ S k) : Strs c base v vs :=
  hf.own h (fun g hg => hs g (h.lt g hg).1)
def RanL (g : Got (List Bs)) (b : Nat) (s : ByteArray) (w : World) (e : Ending) (w' : World) : Prop :=
  match g with
  | .err k => e = Raised k ∧ Fr w w' (· = b)
  | .got vs r => ∃ v, e = .returned v ∧ Strs w' w.heap.size v vs ∧ RdAt w' b s r ∧ Fr w w' (· = b)
theorem strs_one (w : World) (x : Bs) (base : Nat) (hb : base ≤ w.heap.size) : Strs (w.alloc (.cells #[strV x] 9)) base (.slice (some ⟨w.heap.size, 0, none⟩) 1 1) [x] :=
  ⟨rfl, .inr ⟨w.heap.size, 1, #[strV x], rfl, hb, heap_alloc_new w _, Nat.le_refl _, by unfold maxLen; omega, rfl, rfl⟩⟩
theorem tail_nil (g : Nat) : tailD g [] = .got [] [] := by cases g <;> rfl
theorem tail_bad {g : Nat} {l : Bs} (h0 : l.length ≤ g) (h1 : l ≠ []) (h2 : l.head? ≠ some 32) : tailD g l = .err 3 := by
  cases g with
  | zero => exact absurd (List.length_eq_zero_iff.1 (by omega)) h1
  | succ g => rw [tailD, if_neg h1, if_neg h2]
theorem tail_err {g : Nat} {l : Bs} {k : Int} (h0 : l.length + 1 ≤ g) (h : fieldD l = .err k) : tailD g (32 :: l) = .err k := by
  cases g with
  | zero => omega
  | succ g => rw [tailD, if_neg (by simp), if_pos (by rfl), List.tail_cons, h]
theorem tail_go {g : Nat} {l : Bs} {v r : Bs} (h0 : l.length + 1 ≤ g) (h : fieldD l = .got v r) : ∃ g', g = g' + 1 ∧ r.length ≤ g' ∧ r.length < l.length ∧ tailD g (32 :: l) = (tailD g' r).cons v := by
  have := (field_lt h).1
  cases g with
  | zero => omega
  | succ g => exact ⟨g, rfl, by omega, this, by rw [tailD, if_neg (by simp), if_pos (by rfl), List.tail_cons, h]⟩

def FInv (w : World) (b : Nat) (s : ByteArray) (T : Got (List Bs)) (g : Nat) (v3 : Value) (wr : World) : Prop :=
  ∃ (acc : List Bs) (l : Bs), l.length ≤ g ∧ T = (tailD g l).glue acc ∧ RdAt wr b s l ∧ Strs wr w.heap.size v3 acc ∧ acc.length + l.length ≤ 999999 ∧ Fr w wr (· = b)

theorem fields_nil (w : World) (b : Nat) (s : ByteArray) (h : RdAt w b s []) (hz : s.size ≤ 999990) :
    Calls Tryd.prog 27 #[.pointer (some ⟨b, 0, none⟩)] w (RanL (fieldsD []) b s w) := by
  have HE := Lib.hid (ended_any w b s [] true h rfl (by omega))
  have HH := Lib.hid h
  clear h
  go_enter Tryd.func27, Tryd.ntmps27
  go_wp2_with fail
  refine HE.out.mono ?_
  rintro e w1 ⟨rfl, n, rfl⟩
  go_wp2_with fail
  go_ret
  exact ⟨_, rfl, World.ownsRow_nil _ _ _ _, HH.out, Fr.drewN _ _ _⟩
set_option maxHeartbeats 800000 in
theorem fields_some (w : World) (b : Nat) (s : ByteArray) (l0 : Bs) (hl0 : l0 ≠ []) (h : RdAt w b s l0) (hz : s.size ≤ 999990) :
    Calls Tryd.prog 27 #[.pointer (some ⟨b, 0, none⟩)] w (RanL (fieldsD l0) b s w) := by
  obtain ⟨T, hT⟩ : ∃ T, fieldsD l0 = T := ⟨_, rfl⟩
  rw [hT]
  rw [fieldsD, if_neg hl0] at hT
  have HE := Lib.hid (ended_any w b s l0 false h (by simpa using hl0) (by omega))
  have HFD := Lib.hid (field_any (w := w.drewN 0) b s l0 h hz)
  have HFD := Lib.hid (fun n => field_any (w := w.drewN n) b s l0 h hz)
  have hbw := h.lt
  have hll : l0.length ≤ 999990 := by
    obtain ⟨a, ha, hd, hb⟩ := h
    have := (drop_empty ha hd).2
    omega
  clear h hl0
  rcases hfd : fieldD l0 with k | ⟨v, r⟩
  · rw [hfd] at hT HFD
    subst hT
    clear hfd
    go_enter Tryd.func27, Tryd.ntmps27
    go_wp2_with fail
    refine HE.out.mono ?_
    rintro e w1 ⟨rfl, n, rfl⟩
    have HF1 := Lib.hid (HFD.out n)
    go_wp2_with fail
    refine HF1.out.mono ?_
    rintro e w2 ⟨rfl, hf2⟩
    have HF2 := Lib.hid hf2
    clear hf2
    go_wp2_with fail
    exact ⟨rfl, rfl, (Fr.drewN w _ (fun k => k = b)).trans HF2.out (fun _ _ h => h) (fun _ _ h => h)⟩
  · rw [hfd] at hT HFD
    have hlt := (field_lt hfd).1
    have HT := Lib.hid (show T = (tailD r.length r).glue [v] by rw [← hT]; show (tailD r.length r).cons v = _; cases tailD r.length r <;> rfl)
    clear hT hfd
    go_enter Tryd.func27, Tryd.ntmps27
    go_wp2_with fail
    refine HE.out.mono ?_
    rintro e w1 ⟨rfl, n, rfl⟩
    have HF1 := Lib.hid (HFD.out n)
    go_wp2_with fail
    refine HF1.out.mono ?_
    rintro e w2 ⟨rfl, hr2, hf2⟩
    have HF2 := Lib.hid ((Fr.drewN w n (fun k => k = b)).trans hf2 (fun _ _ h => h) (fun _ _ h => h))
    have HR2 := Lib.hid hr2
    clear hf2 hr2
    go_wp2_with fail
    go_loopg [3] r.length (fun g v3 wr => FInv w b s T g v3 wr)
    case atStart =>
      have hs := HF2.out.size
      exact ⟨[v], r, Nat.le_refl _, HT.out, HR2.out.fr (Fr.new _ _ (fun _ => False)) (fun h => h), strs_one w2 v _ hs, by simp; omega, HF2.out.trans (Fr.new _ _ (fun _ => False)) (fun _ _ h => h) (fun _ _ h => h.elim)⟩
    case round =>
      obtain ⟨acc, l, hlg, hTe, hr, hst, hal, hfr⟩ := hrel
      obtain ⟨A3, c3, rfl⟩ := own_slice hst
      have HTE := Lib.hid hTe
      have HST := Lib.hid hst
      have HFR := Lib.hid hfr
      have HLG := Lib.hid hlg
      have hws := hfr.size
      clear hTe hst hfr hlg HR2 HF2 HE HF1 HT HFD
      cases l with
      | nil =>
        have HE := Lib.hid (ended_any wr b s [] true hr rfl (by omega))
        have HR := Lib.hid hr
        clear hr
        go_wp2_with fail
        refine HE.out.mono ?_
        rintro e w3 ⟨rfl, m, rfl⟩
        go_wp2_with fail
        go_ret
        rw [HTE.out, tail_nil]
        exact ⟨_, rfl, by simpa using HST.out.fr (Fr.drewN wr m (fun _ => False)) (fun _ _ h => h), HR.out, HFR.out.trans (Fr.drewN _ _ (fun _ => False)) (fun _ _ h => h) (fun _ _ h => h.elim)⟩
      | cons c r3 =>
        have HE := Lib.hid (ended_any wr b s (c :: r3) false hr rfl (by omega))
        have hl3 : acc.length + r3.length + 1 ≤ 999999 := by simp at hal; omega
        by_cases hc : c = 32
        · subst hc
          have HX := Lib.hid (fun n => expect_got (wr.drewN n) b s 32 r3 32 hr rfl (by omega))
          have HF3 := Lib.hid (fun (w4 : World) (h4 : RdAt w4 b s r3) => field_any (w := w4) b s r3 h4 (by omega))
          rcases hfd : fieldD r3 with k | ⟨v4, r4⟩
          · rw [hfd] at HF3
            have HTK := Lib.hid (tail_err HLG.out hfd)
            clear hr hfd
            go_wp2_with fail
            refine HE.out.mono ?_
            rintro e w3 ⟨rfl, m, rfl⟩
            have HX1 := Lib.hid (HX.out m)
            go_wp2_with fail
            refine HX1.out.mono ?_
            rintro e w4 ⟨rfl, hr4, hf4⟩
            have HF4 := Lib.hid hf4
            have HF5 := Lib.hid (HF3.out w4 hr4)
            clear hr4 hf4
            go_wp2_with fail
            refine HF5.out.mono ?_
            rintro e w5 ⟨rfl, hf5⟩
            have HF6 := Lib.hid hf5
            clear hf5
            go_wp2_with fail
            refine ⟨rfl, ?_⟩
            rw [HTE.out, HTK.out]
            exact ⟨rfl, fb (fb (HFR.out.trans (Fr.drewN _ _ (fun _ => False)) (fun _ _ h => h) (fun _ _ h => h.elim)) HF4.out) HF6.out⟩
          · rw [hfd] at HF3
            obtain ⟨g', hg', hrl, hlt4, htl⟩ := tail_go HLG.out hfd
            have HG := Lib.hid hg'
            have HRL := Lib.hid hrl
            have HTL := Lib.hid htl
            obtain ⟨i0, hi0, hz0, hz1, hz2⟩ := info_parts infoS
            clear hr hfd hg' hrl htl
            go_wp2_with fail
            refine HE.out.mono ?_
            rintro e w3 ⟨rfl, m, rfl⟩
            have HX1 := Lib.hid (HX.out m)
            go_wp2_with fail
            refine HX1.out.mono ?_
            rintro e w4 ⟨rfl, hr4, hf4⟩
            have HF4 := Lib.hid (fb (HFR.out.trans (Fr.drewN _ m (fun _ => False)) (fun _ _ h => h) (fun _ _ h => h.elim)) hf4)
            have HS4 := Lib.hid ((HST.out.fr (Fr.drewN wr m (fun _ => False)) (fun _ _ h => h)).fr hf4 (fun k hk e => by omega))
            have HF5 := Lib.hid (HF3.out w4 hr4)
            clear hr4 hf4
            go_wp2_with fail
            refine HF5.out.mono ?_
            rintro e w5 ⟨rfl, hr5, hf5⟩
            have HF6 := Lib.hid (fb HF4.out hf5)
            have HR5 := Lib.hid hr5
            have HS5 := Lib.hid ((HS4.out.fr hf5 (fun k hk e => by omega)).fr (Fr.new w5 (.cells #[strV v4] 9) (fun _ => False)) (fun _ _ h => h))
            have hsz5 := HF6.out.size
            clear hr5 hf5
            go_wp2_with (at_builtin; refine wpList_append_rd _ rfl (.tmp 14) (.tmp 17) 28 rfl w.heap.size 9 i0 _ 1 16 Tryd.underlying28 hi0 hz0 hz1 hz2 rfl (by decide) _ _ _ rfl HS5.out _ 1 1 [strV v4] rfl (rd_new w5 9 (0, 0) [strV v4]) (by intro u hu; simp at hu; subst hu; rfl) (by simp only [maxLen]; omega) (by omega) (by simp; omega) ?_; intro v6 w6 hown6 hg6 _)
            have hnew := Fr.new w5 (.cells #[strV v4] 9) (fun k => k = b)
            have hfw6 : Fr w w6 (· = b) := (fb HF6.out hnew).trans (Fr.ofGrown hg6) (fun _ _ h => h) (fun i hi e => absurd (HS5.out.lt i e.symm).1 (by omega))
            have HFW6 := Lib.hid hfw6
            have HRD6 := Lib.hid ((HR5.out.fr (Fr.new w5 (.cells #[strV v4] 9) (fun _ => False)) (fun h => h)).fr (Fr.ofGrown hg6) (fun e => absurd (HS5.out.lt b e.symm).1 (by omega)))
            have HO6 := Lib.hid hown6
            clear hfw6 hnew hown6 hg6
            go_wp2_with fail
            go_roundg g'
            case measure => rw [HG.out]; omega
            case rel => exact ⟨acc ++ [v4], r4, HRL.out, by rw [HTE.out, HTL.out, glue_cons], HRD6.out, by show World.ownsRow _ _ _ _ _ _ _; simpa using HO6.out, by simp; omega, HFW6.out⟩
        · have HX := Lib.hid (fun n => expect_none (wr.drewN n) b s (c :: r3) 32 32 rfl hr (by simpa using hc) (by omega))
          have HTK := Lib.hid (tail_bad HLG.out (by simp) (by simpa using hc))
          clear hr hc
          go_wp2_with fail
          refine HE.out.mono ?_
          rintro e w3 ⟨rfl, m, rfl⟩
          have HX1 := Lib.hid (HX.out m)
          go_wp2_with fail
          refine HX1.out.mono ?_
          rintro e w4 ⟨rfl, hf4⟩
          have HF4 := Lib.hid hf4
          clear hf4
          go_wp2_with fail
          refine ⟨rfl, ?_⟩
          rw [HTE.out, HTK.out]
          exact ⟨rfl, fb (HFR.out.trans (Fr.drewN _ _ (fun _ => False)) (fun _ _ h => h) (fun _ _ h => h.elim)) HF4.out⟩
theorem fields_any (w : World) (b : Nat) (s : ByteArray) (l : Bs) (h : RdAt w b s l) (hz : s.size ≤ 999990) :
    Calls Tryd.prog 27 #[.pointer (some ⟨b, 0, none⟩)] w (RanL (fieldsD l) b s w) := by
  by_cases h0 : l = []
  · subst h0
    exact fields_nil w b s h hz
  · exact fields_some w b s l h0 h hz
end Go.Proofs.YtbolgodoifbnnaaDoor
