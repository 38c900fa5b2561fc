import Derived.Test.YtcjednmenbdmnaaDoorFrp
import Derived.Test.YtcjednmenbdmnaaDoorFrw
import Derived.BigQuiet
import Derived.Deep.QuietTactic
namespace Go.Proofs.YtcjednmenbdmnaaDoor
open Go.RowKit Go.Mem Go.Wire

/-- a slice of slices of bytes -/
def Texts (w : World) (A : Option Addr) (n : Nat) (ls : List (List Int)) : Prop :=
  ls.length = n ∧ (0 < n → ∃ b off, A = some ⟨b, off, none⟩ ∧ ∀ i l, ls[i]? = some l → (∀ x ∈ l, 0 ≤ x ∧ x ≤ 255) ∧ l.length ≤ maxLen ∧ ∃ A' c', w.cell? ⟨b, off + i, none⟩ = some (.slice A' l.length c') ∧ Rd w 1 A' l.length (l.map u8v))

theorem Texts.at_ {w : World} {A : Option Addr} {n : Nat} {ls : List (List Int)} (h : Texts w A n ls) {k : Nat} (hk : k < n) :
    ∃ b off l A' c', A = some ⟨b, off, none⟩ ∧ ls[k]? = some l ∧ (∀ x ∈ l, 0 ≤ x ∧ x ≤ 255) ∧ l.length ≤ maxLen ∧ w.cell? ⟨b, off + k, none⟩ = some (.slice A' l.length c') ∧ Rd w 1 A' l.length (l.map u8v) ∧ b < w.heap.size := by
  obtain ⟨b, off, e, hc⟩ := h.2 (by omega)
  have hl : k < ls.length := by have := h.1; omega
  obtain ⟨h1, h2, A', c', h3, h4⟩ := hc k ls[k] (List.getElem?_eq_getElem hl)
  exact ⟨b, off, ls[k], A', c', e, List.getElem?_eq_getElem hl, h1, h2, h3, h4, World.block_lt_of_cell? w _ h3⟩

theorem frames_run (ls : List (List Int)) (hn : ∀ l ∈ ls, l.length ≤ 20000) : ∀ σ, Begin σ → ∃ σ', runW σ (ls.flatMap frameW) = (σ', ls.map some) ∧ Begin σ' := by
  induction ls with
  | nil => intro σ h; exact ⟨σ, rfl, h⟩
  | cons l ls ih =>
    intro σ h
    obtain ⟨σ1, h1, b1⟩ := frame_run l (hn l (by simp)) σ h
    obtain ⟨σ2, h2, b2⟩ := ih (fun y hy => hn y (by simp [hy])) σ1 b1
    exact ⟨σ2, by rw [List.flatMap_cons, runW_append, h1, h2]; rfl, b2⟩
theorem frame_len (l : List Int) (h : l.length ≤ 20000) : (frameW l).length ≤ 20007 := by
  have := decStr_size 4 l.length (by omega)
  rw [decStr_len] at this
  simp [frameW]
  omega
theorem frames_len (ls : List (List Int)) (h : ∀ l ∈ ls, l.length ≤ 20000) : (ls.flatMap frameW).length ≤ 20007 * ls.length := by
  induction ls with
  | nil => simp
  | cons l ls ih =>
    have h1 := frame_len l (h l (by simp))
    have h2 := ih (fun y hy => h y (by simp [hy]))
    rw [List.flatMap_cons, List.length_append, List.length_cons]
    omega

theorem ftt {a b c : World} (h : Fr a b (fun _ => False)) (k : Fr b c (fun _ => False)) : Fr a c (fun _ => False) := h.trans k (fun _ _ h => h) (fun _ _ h => h)
theorem Texts.bytes {w : World} {A : Option Addr} {n : Nat} {ls : List (List Int)} (h : Texts w A n ls) (hl : ∀ l ∈ ls, l.length ≤ 20000) : ∀ x ∈ ls.flatMap frameW, 0 ≤ x ∧ x ≤ 255 := by
  intro x hx
  obtain ⟨l, hm, hx⟩ := List.mem_flatMap.1 hx
  refine frame_bytes l (hl l hm) ?_ x hx
  obtain ⟨i, hi, he⟩ := List.getElem_of_mem hm
  obtain ⟨b, off, -, hc⟩ := h.2 (by have := h.1; omega)
  exact (hc i l (by rw [List.getElem?_eq_getElem hi, he])).1
theorem Texts.fr {w w' : World} {A : Option Addr} {n : Nat} {ls : List (List Int)} (h : Texts w A n ls) (hf : Fr w w' (fun _ => False)) : Texts w' A n ls := by
  refine ⟨h.1, fun hn => ?_⟩
  obtain ⟨b, off, e, hc⟩ := h.2 hn
  refine ⟨b, off, e, fun i l hl => ?_⟩
  obtain ⟨h1, h2, A', c', h3, h4⟩ := hc i l hl
  exact ⟨h1, h2, A', c', (World.cell?_of_block (w := w) (hf.block b (World.block_lt_of_cell? w _ h3) (fun h => h))).trans h3, h4.fr hf (fun _ _ _ _ h => h)⟩

theorem back_walk (A : Option Addr) (n cap : Nat) (ls : List (List Int)) (W : World) (hr : Texts W A n ls) (hm : n ≤ maxLen) (ht : TabOk W.heap.size W) :
    Calls Tryd.prog 4 #[.slice A n cap] W fun e w' => e = .returned (.bool true) ∧ Fr W w' (fun _ => False) := by
  obtain ⟨i0, hi0, hz0, hz1, hz2⟩ := info_parts info5
  have HR := Lib.hid hr
  have HT := Lib.hid ht
  clear hr ht
  by_cases hc : 50 < n
  · go_enter Tryd.func4, Tryd.ntmps4
    go_wp2_with fail
    refine (alive_true W).mono ?_
    rintro e w4 ⟨rfl, hf4⟩
    have F4 := Lib.hid hf4
    clear hf4
    go_wp2_with fail
    go_ret
    exact ⟨rfl, F4.out⟩
  · go_enter Tryd.func4, Tryd.ntmps4
    go_wp2_with fail
    go_loopw [3, 4] (fun v3 v4 wr => ∃ k : Nat, k ≤ n ∧ v4 = .int .i64 k ∧ (∀ l ∈ ls.take k, l.length ≤ 20000) ∧ wr.ownsRow W.heap.size 5 1 v3 ((ls.take k).flatMap frameW).length (((ls.take k).flatMap frameW).map u8v) ∧ Fr W wr (fun _ => False)) (fun _ v4 _ => n - (intOf v4).toNat)
    case atStart => exact ⟨0, Nat.zero_le _, rfl, by simp, World.ownsRow_nil _ _ _ _, Fr.refl _ _⟩
    case round =>
      obtain ⟨k, hk, rfl, hle, hown, hf⟩ := hrel
      have HLE := Lib.hid hle
      have HO := Lib.hid hown
      have HF := Lib.hid hf
      have htot := frames_len (ls.take k) hle
      have hkt : (ls.take k).length ≤ k := List.length_take_le _ _
      clear hle hown hf
      by_cases hlt : k < n
      · obtain ⟨b, off, l, A', c', rfl, hl, hlb, hlm, hcell, hrd, hbw⟩ := HR.out.at_ hlt
        have hcell : wr.cell? ⟨b, off + k, none⟩ = some (.slice A' l.length c') := (World.cell?_of_block (w := W) (HF.out.block b hbw (fun h => h))).trans hcell
        have htk : Hid (ls.take (k + 1) = ls.take k ++ [l]) := by
          show _ = _
          obtain ⟨hx, hy⟩ := List.getElem?_eq_some_iff.1 hl
          rw [List.take_succ_eq_append_getElem hx, hy]
        have HRD := Lib.hid (hrd.fr HF.out (fun _ _ _ _ h => h))
        have HTB := Lib.hid (tab_fr HT.out (Nat.le_refl _) HF.out)
        obtain ⟨q, hq⟩ : ∃ q, l.length = q := ⟨_, rfl⟩
        rw [hq] at hcell HRD hlm
        have HQ := Lib.hid hq
        clear hl hlb hrd hbw hq
        by_cases hbig : q ≤ 20000
        · go_wp2_with fail
          refine (frame_any W.heap.size A' q c' l wr HQ.out HRD.out hbig HF.out.size HTB.out).mono ?_
          rintro e w1 ⟨v1, rfl, row1, hf1⟩
          obtain ⟨A1, c1, rfl, -, -, rd1, -⟩ := row1.rd
          have D1 := Lib.hid rd1
          have F1 := Lib.hid hf1
          have M1 := Lib.hid (one_u8 (frameW l))
          have hfl := frame_len l (by rw [HQ.out]; exact hbig)
          have hq1 : ((ls.take k).flatMap frameW).length + (frameW l).length ≤ maxLen := by simp only [maxLen]; omega
          have hq2 : (((ls.take k).flatMap frameW).length + (frameW l).length) * 1 ≤ 140737488355328 := by omega
          have hbs : W.heap.size ≤ w1.heap.size := Nat.le_trans HF.out.size F1.out.size
          have O1 := Lib.hid (F1.out.own HO.out (fun _ _ h => h))
          clear row1 rd1 hf1
          go_wp2_with (at_builtin; refine wpList_append_rd _ rfl (.tmp 31) (.tmp 32) 22 rfl W.heap.size 5 i0 _ 1 1 Tryd.underlying22 hi0 hz0 hz1 hz2 rfl (by decide) u3 _ _ rfl O1.out A1 _ c1 _ rfl D1.out M1.out hq1 hq2 hbs ?_; intro v2 w2 hown2 hg2 _)
          have hf2 : Fr W w2 (fun _ => False) := (ftt HF.out F1.out).fresh (Fr.ofGrown hg2) (fun i e => (O1.out.lt i e.symm).1)
          go_roundw
          case rel => exact ⟨k + 1, by omega, by go_num, by rw [htk.out]; intro y hy; rcases List.mem_append.1 hy with hy | hy; exact HLE.out y hy; simp at hy; rw [hy, HQ.out]; exact hbig, by rw [htk.out]; simpa using hown2, hf2⟩
          case measure => simp [intOf]; omega
        · have hb' : 20000 < q := by omega
          clear hbig
          go_wp2_with fail
          refine (frame_big A' q c' wr hb' hlm).mono ?_
          rintro e w1 ⟨rfl, rfl⟩
          go_wp2_with fail
          refine (alive_true wr).mono ?_
          rintro e w4 ⟨rfl, hf4⟩
          have F4 := Lib.hid hf4
          clear hf4
          go_wp2_with fail
          go_ret
          exact ⟨rfl, ftt HF.out F4.out⟩
      · have hkn : k = n := by omega
        have htk : ls.take k = ls := List.take_of_length_le (by rw [HR.out.1]; omega)
        rw [htk] at HO HLE htot hkt
        clear htk
        subst hkn
        obtain ⟨σ', hrun, hbeg⟩ := frames_run ls HLE.out st0 ⟨rfl, rfl⟩
        have HBY := Lib.hid (HR.out.bytes HLE.out)
        have HRUN := Lib.hid hrun
        have HHELD := Lib.hid hbeg.2
        have HLN := Lib.hid HR.out.1
        clear hrun hbeg
        generalize ls.flatMap frameW = FF at HO HBY HRUN htot
        obtain ⟨nf, hnf⟩ : ∃ nf, FF.length = nf := ⟨_, rfl⟩
        rw [hnf] at HO htot
        have HNF := Lib.hid hnf
        clear hnf
        obtain ⟨A3, c3, rfl, -, -, rd3, -, -⟩ := own_rd HO.out
        have D3 := Lib.hid rd3
        clear rd3
        go_wp2_with fail
        refine (split_any A3 nf c3 FF wr HBY.out HNF.out D3.out (by omega)).mono ?_
        rintro e w5 ⟨v5, r5, rfl, hi5, ho5, hf5⟩
        rw [HRUN.out] at hi5 ho5
        simp only [HHELD.out] at ho5
        obtain ⟨A5, c5, rfl, ht5, -⟩ := hi5.tells
        obtain ⟨B5, d5, rfl⟩ := own_slice ho5
        have F5 := Lib.hid (ftt HF.out hf5)
        have hlm : (ls.map some).length = k := by rw [List.length_map, HLN.out]
        rw [hlm] at ht5
        have HT5 := Lib.hid ht5
        have HR5 := Lib.hid (HR.out.fr F5.out)
        clear hi5 ho5 hf5 ht5
        rw [hlm]
        clear hlm
        have e1 : ((k : Int) != (k : Int)) = false := by simp
        go_wp2_with fail
        go_loopw [9] (fun v9 wr => ∃ j : Nat, j ≤ k ∧ v9 = .int .i64 j ∧ ∃ m, wr = w5.drewN m) (fun v9 _ => k - (intOf v9).toNat)
        case atStart => exact ⟨0, Nat.zero_le _, rfl, 0, rfl⟩
        case round =>
          obtain ⟨j, hj, rfl, m, hwq⟩ := hrel
          have HW := Lib.hid hwq
          have FQ := Lib.hid (show Fr w5 wr (fun _ => False) by rw [hwq]; exact Fr.drewN _ _ _)
          clear hwq
          by_cases hjk : j < k
          · obtain ⟨b, off, it, A', c', rfl, hit, d1, d2, r1⟩ := (HT5.out.fr FQ.out).at_ hjk
            obtain ⟨b2, off2, l, B', e', rfl, hl, -, -, d3, r2, -⟩ := (HR5.out.fr FQ.out).at_ hjk
            have hit' : it = some l := by
              rw [List.getElem?_map, hl] at hit
              simpa using hit.symm
            subst hit'
            simp only [Option.isNone, bytesOf] at d1 d2 r1
            have hl20 := HLE.out l (List.mem_of_getElem? hl)
            have hsame := Lib.hid (fun V => fun (h : ∃ m, V = wr.drewN m) => same_true A' B' _ c' e' l V (by obtain ⟨m, rfl⟩ := h; exact r1) (by obtain ⟨m, rfl⟩ := h; exact r2) (by omega))
            have hi0' : (0 : Int) ≤ (j : Int) := Int.natCast_nonneg _
            have hi1' : (j : Int) < (k : Int) := by omega
            clear hit hl r1 r2
            go_wp2
            go_quiet ((go_at_call 8; exact Calls.quiet_of (hsame.out _ ⟨_, rfl⟩)))
            go_wp2
            go_roundw
            case rel => exact ⟨j + 1, by omega, by go_num, _, by rw [HW.out, World.drewN_drewN]⟩
            case measure => simp [intOf]; omega
          · have hjk' : j = k := by omega
            subst hjk'
            go_wp2_with fail
            refine (alive_true wr).mono ?_
            rintro e w7 ⟨rfl, hf7⟩
            have F7 := Lib.hid hf7
            clear hf7
            go_wp2_with fail
            go_ret
            exact ⟨rfl, ftt (ftt F5.out FQ.out) F7.out⟩
end Go.Proofs.YtcjednmenbdmnaaDoor
