import Derived.Test.YtbolgodoifbnnaaDoorEsp
import Derived.Deep.LoopGhost
namespace Go.Proofs.YtbolgodoifbnnaaDoor
open Go.RowKit Go.Mem Go.Esc

theorem body_nil (f : Nat) : bodyD f [] = .err 9 := by cases f <;> rfl
theorem body_quo (f : Nat) (r : Bs) : bodyD f (34 :: r) = .got [] r := by cases f <;> rfl
theorem body_err {f : Nat} {l : Bs} {k : Int} (h0 : l.length ≤ f) (h1 : l ≠ []) (h34 : l.head? ≠ some 34) (h : stepD l = .err k) : bodyD f l = .err k := by
  cases f with
  | zero => exact absurd (List.length_eq_zero_iff.1 (by omega)) h1
  | succ f => rw [bodyD, if_neg h34, h]
theorem body_go {f : Nat} {l : Bs} {c : UInt8} {r : Bs} (h0 : l.length ≤ f) (h34 : l.head? ≠ some 34) (h : stepD l = .got c r) : ∃ f', f = f' + 1 ∧ r.length ≤ f' ∧ r.length < l.length ∧ bodyD f l = (bodyD f' r).cons c := by
  have e := step_suffix h34 h
  have h2 := enc_len c
  have h1 : l ≠ [] := by rintro rfl; cases h
  have : 0 < l.length := List.length_pos_iff.2 h1
  have h3 : r.length < l.length := by rw [e, List.length_drop]; omega
  cases f with
  | zero => omega
  | succ f => exact ⟨f, rfl, by omega, h3, by rw [bodyD, if_neg h34, h]⟩
theorem ft {b q : Nat} {a c d : World} (h : Fr a c (· = b)) (h2 : Fr c d (fun k => q ≤ k)) (hq : a.heap.size ≤ q) : Fr a d (· = b) := h.trans h2 (fun _ _ h => h) (fun i hi h => absurd h (by omega))
theorem fb {b : Nat} {a c d : World} (h : Fr a c (· = b)) (h2 : Fr c d (· = b)) : Fr a d (· = b) := h.trans h2 (fun _ _ h => h) (fun _ _ h => h)

/-- a text as a value -/
abbrev strV (l : Bs) : Value := .string ⟨l.toArray⟩
/-- what the loop of quoted knows -/
def QInv (w : World) (b q : Nat) (s : ByteArray) (T : Got Bs) (g : Nat) (wr : World) : Prop :=
  ∃ acc l : Bs, l.length ≤ g ∧ T = (bodyD g l).glue acc ∧ RdAt wr b s l ∧ IsB wr q acc ∧ acc.length + l.length ≤ 1000000 - 5 ∧ Fr w wr (· = b)

theorem quoted_no (w : World) (b : Nat) (s : ByteArray) (l : Bs) (h : RdAt w b s l) (hz : s.size ≤ 999990) (h34 : l.head? ≠ some 34) :
    Calls Tryd.prog 25 #[.pointer (some ⟨b, 0, none⟩)] w (Ran (quotedD l) strV b s w) := by
  rw [quotedD, if_neg h34]
  have HE := Lib.hid (expect_none w b s l 34 34 rfl h h34 (by omega))
  clear h h34
  go_enter Tryd.func25, Tryd.ntmps25
  go_wp2_with fail
  refine HE.out.mono ?_
  rintro e w1 ⟨rfl, hf⟩
  have HF := Lib.hid hf
  clear hf
  go_wp2_with fail
  exact ⟨rfl, rfl, HF.out⟩
set_option maxHeartbeats 800000 in
theorem quoted_yes (w : World) (b : Nat) (s : ByteArray) (l0 : Bs) (h : RdAt w b s (34 :: l0)) (hz : s.size ≤ 999990) :
    Calls Tryd.prog 25 #[.pointer (some ⟨b, 0, none⟩)] w (Ran (quotedD (34 :: l0)) strV b s w) := by
  obtain ⟨T, hT⟩ : ∃ T, quotedD (34 :: l0) = T := ⟨_, rfl⟩
  rw [hT]
  have hT : T = bodyD l0.length l0 := by rw [← hT]; rfl
  have HT := Lib.hid hT
  have hll : l0.length ≤ 999990 := by
    obtain ⟨a, ha, hd, hb⟩ := h
    have := (drop_empty ha hd).2
    simp at this
    omega
  have HE := Lib.hid (expect_got w b s 34 l0 34 h rfl (by omega))
  have hbw := h.lt
  clear h hT
  go_enter Tryd.func25, Tryd.ntmps25
  go_wp2_with fail
  refine HE.out.mono ?_
  rintro e w1 ⟨rfl, hr, hf⟩
  have hsz := hf.size
  have HR := Lib.hid hr
  have HF := Lib.hid hf
  clear hr hf
  go_wp2_with fail
  go_loopg [] l0.length (fun g wr => QInv w b w1.heap.size s T g wr)
  case atStart => exact ⟨[], l0, Nat.le_refl _, by rw [HT.out, glue_nil], HR.out.fr (Fr.new _ _ (fun _ => False)) (fun h => h), isB_new _, by simp; omega, HF.out.trans (Fr.new _ _ (fun _ => False)) (fun _ _ h => h) (fun _ _ h => h.elim)⟩
  case round =>
    obtain ⟨acc, l, hlg, hTe, hr, hib, hal, hfr⟩ := hrel
    have HTE := Lib.hid hTe
    have HIB := Lib.hid hib
    have HFR := Lib.hid hfr
    have HLG := Lib.hid hlg
    clear hTe hib hfr hlg
    cases l with
    | nil =>
      have HN := Lib.hid (next_none wr b s hr (by omega))
      clear hr
      go_wp2_with fail
      refine HN.out.mono ?_
      rintro e w2 ⟨rfl, hf2⟩
      have HF2 := Lib.hid hf2
      clear hf2
      go_wp2_with fail
      refine ⟨rfl, ?_⟩
      rw [HTE.out, body_nil]
      exact ⟨rfl, fb HFR.out HF2.out⟩
    | cons c r =>
      have hlr : r.length + 1 ≤ 999995 := by simp at hal; omega
      have hac : acc.length ≤ 999995 := by omega
      by_cases h34 : c = 34
      · subst h34
        have HN := Lib.hid (next_got wr b s 34 r hr (by omega))
        simp only [show ((34 : UInt8).toNat : Int) = 34 from rfl] at HN
        clear hr
        go_wp2_with fail
        refine HN.out.mono ?_
        rintro e w2 ⟨rfl, hr2, hf2⟩
        have HF2 := Lib.hid hf2
        have HR2 := Lib.hid hr2
        have HIB2 := Lib.hid (HIB.out.fr hf2 (fun k hk e => by omega))
        clear hf2 hr2
        go_wp2_with fail
        refine (bstring_any _ acc w2 HIB2.out).mono ?_
        rintro e w3 ⟨rfl, hf3⟩
        have HF3 := Lib.hid hf3
        clear hf3
        go_wp2_with fail
        go_ret
        rw [HTE.out, body_quo]
        exact ⟨by simp, HR2.out.fr HF3.out (by omega), ft (fb HFR.out HF2.out) HF3.out hsz⟩
      · have hh : (c :: r).head? ≠ some 34 := by simpa using h34
        by_cases h92 : c = 92
        · subst h92
          have HN := Lib.hid (next_got wr b s 92 r hr (by omega))
          simp only [show ((92 : UInt8).toNat : Int) = 92 from rfl] at HN
          have hst : stepD (92 :: r) = escD r := by rw [stepD, if_pos rfl]
          have HES := Lib.hid (fun (w2 : World) (h : RdAt w2 b s r) => escape_any w2 b s r h (by omega))
          rcases hes : escD r with k | ⟨d, r2⟩
          · rw [hes] at hst HES
            have hfin := body_err HLG.out (by simp) hh hst
            have HFIN := Lib.hid hfin
            clear hr hfin hst hes hh
            go_wp2_with fail
            refine HN.out.mono ?_
            rintro e w2 ⟨rfl, hr2, hf2⟩
            have HF2 := Lib.hid hf2
            have HE2 := Lib.hid (HES.out w2 hr2)
            clear hf2 hr2
            go_wp2_with fail
            refine HE2.out.mono ?_
            rintro e w3 ⟨rfl, hf3⟩
            have HF3 := Lib.hid hf3
            clear hf3
            go_wp2_with fail
            refine ⟨rfl, ?_⟩
            rw [HTE.out, HFIN.out]
            exact ⟨rfl, fb (fb HFR.out HF2.out) HF3.out⟩
          · rw [hes] at hst HES
            obtain ⟨g', hg', hrl, hlt, hbd⟩ := body_go HLG.out hh hst
            have hlt' : r2.length < r.length + 1 := by simpa using hlt
            have HBD := Lib.hid hbd
            have HG := Lib.hid hg'
            have HRL := Lib.hid hrl
            clear hr hst hes hh hbd hg' hrl hlt
            go_wp2_with fail
            refine HN.out.mono ?_
            rintro e w2 ⟨rfl, hr2, hf2⟩
            have HF2 := Lib.hid hf2
            have HIB2 := Lib.hid (HIB.out.fr hf2 (fun k hk e => by omega))
            have HE2 := Lib.hid (HES.out w2 hr2)
            clear hf2 hr2
            go_wp2_with fail
            refine HE2.out.mono ?_
            rintro e w3 ⟨rfl, hr3, hf3⟩
            have HF3 := Lib.hid hf3
            have HR3 := Lib.hid hr3
            have HIB3 := Lib.hid (HIB2.out.fr hf3 (fun k hk e => by omega))
            clear hf3 hr3
            go_wp2_with fail
            refine (bbyte_any _ acc d _ w3 HIB3.out (by omega) rfl).mono ?_
            rintro e w4 ⟨rfl, hib4, hf4⟩
            have HF4 := Lib.hid hf4
            have HIB4 := Lib.hid hib4
            clear hf4 hib4
            go_wp2_with fail
            go_roundg g'
            case measure => rw [HG.out]; omega
            case rel => exact ⟨acc ++ [d], r2, HRL.out, by rw [HTE.out, HBD.out, glue_cons], HR3.out.fr HF4.out (by omega), HIB4.out, by simp at hal ⊢; omega, ft (fb (fb HFR.out HF2.out) HF3.out) HF4.out hsz⟩
        · have HN := Lib.hid (next_got wr b s c r hr (by omega))
          obtain ⟨n, hn⟩ : ∃ n : Int, n = (c.toNat : Int) := ⟨_, rfl⟩
          rw [← hn] at HN
          have e1 : (n == 34) = false := toNat_ne (k := 34) h34 hn
          have e2 : (n == 92) = false := toNat_ne (k := 92) h92 hn
          have e0 : (n == 32) = decide (c = 32) := by
            by_cases e : c = 32
            · subst e; rw [hn]; rfl
            · rw [show (n == 32) = false from toNat_ne (k := 32) e hn]; simp [e]
          have HIP := Lib.hid (fun w => isPlain_any w c n hn)
          have HNN := Lib.hid hn
          obtain ⟨x, hx⟩ : ∃ x, plainB c = x := ⟨_, rfl⟩
          rw [hx] at HIP
          have HX := Lib.hid hx
          have hst0 : stepD (c :: r) = if c = 32 ∨ plainB c = true then .got c r else .err 3 := by rw [stepD, if_neg h92]
          clear hx hn
          by_cases hok : c = 32 ∨ plainB c = true
          · rw [if_pos hok] at hst0
            obtain ⟨g', hg', hrl, hlt, hbd⟩ := body_go HLG.out hh hst0
            have HBD := Lib.hid hbd
            have HG := Lib.hid hg'
            have HRL := Lib.hid hrl
            have hok' : (n == 32) = true ∨ ((n == 32) = false ∧ x = true) := by
              rw [e0]
              by_cases e : c = 32
              · left; simp [e]
              · right; refine ⟨by simp [e], ?_⟩
                rw [← HX.out]
                exact hok.resolve_left e
            clear hr hst0 hh hbd hg' hrl hlt hok e0
            rcases hok' with e3 | ⟨e3, rfl⟩
            all_goals
              go_wp2_with fail
              refine HN.out.mono ?_
              rintro e w2 ⟨rfl, hr2, hf2⟩
              have HF2 := Lib.hid hf2
              have HIB2 := Lib.hid (HIB.out.fr hf2 (fun k hk e => by omega))
              have HR2 := Lib.hid hr2
              clear hf2 hr2
              go_wp2_with (go_at_call 40; refine (HIP.out _).mono ?_; rintro e w' ⟨rfl, rfl⟩)
              refine (bbyte_any _ acc c n w2 HIB2.out (by omega) HNN.out).mono ?_
              rintro e w4 ⟨rfl, hib4, hf4⟩
              have HF4 := Lib.hid hf4
              have HIB4 := Lib.hid hib4
              clear hf4 hib4
              go_wp2_with fail
              go_roundg g'
              case measure => rw [HG.out]; omega
              case rel => exact ⟨acc ++ [c], r, HRL.out, by rw [HTE.out, HBD.out, glue_cons], HR2.out.fr HF4.out (by omega), HIB4.out, by simp at hal ⊢; omega, ft (fb HFR.out HF2.out) HF4.out hsz⟩
          · rw [if_neg hok] at hst0
            have HFIN := Lib.hid (body_err HLG.out (by simp) hh hst0)
            have e3 : (n == 32) = false := by rw [e0]; simp; exact fun e => hok (.inl e)
            obtain rfl : x = false := by rw [← HX.out]; simpa using fun e => hok (.inr e)
            clear hr hst0 hh hok e0
            go_wp2_with fail
            refine HN.out.mono ?_
            rintro e w2 ⟨rfl, hr2, hf2⟩
            have HF2 := Lib.hid hf2
            clear hf2 hr2
            go_wp2_with (go_at_call 40; refine (HIP.out _).mono ?_; rintro e w' ⟨rfl, rfl⟩)
            refine ⟨rfl, ?_⟩
            rw [HTE.out, HFIN.out]
            exact ⟨rfl, fb HFR.out HF2.out⟩
theorem quoted_any (w : World) (b : Nat) (s : ByteArray) (l : Bs) (h : RdAt w b s l) (hz : s.size ≤ 999990) :
    Calls Tryd.prog 25 #[.pointer (some ⟨b, 0, none⟩)] w (Ran (quotedD l) strV b s w) := by
  by_cases h34 : l.head? = some 34
  · cases l with
    | nil => cases h34
    | cons c r =>
      obtain rfl : c = 34 := by simpa using h34
      exact quoted_yes w b s r h hz
  · exact quoted_no w b s l h hz h34
end Go.Proofs.YtbolgodoifbnnaaDoor
