import Derived.Test.YtolmemdkklfdpaaRdr
namespace Go.Proofs.Ytolmemdkklfdpaa
open Go.RowKit Go.Mem Go.Lxr

abbrev whiteS : Bs := [9, 10, 11, 12, 13, 32]
abbrev marksS : Bs := [9, 10, 11, 12, 13, 32, 35, 34]
theorem white_iff (c : UInt8) : whiteS.contains c = whiteB c := by
  have h : ∀ k : Fin 256, whiteS.contains (UInt8.ofNat k.val) = whiteB (UInt8.ofNat k.val) := by decide +kernel
  have := h ⟨c.toNat, c.toNat_lt⟩
  simpa using this
theorem marks_iff (c : UInt8) : marksS.contains c = (stopB c || c == 34) := by
  have h : ∀ k : Fin 256, marksS.contains (UInt8.ofNat k.val) = (stopB (UInt8.ofNat k.val) || UInt8.ofNat k.val == 34) := by decide +kernel
  have := h ⟨c.toNat, c.toNat_lt⟩
  simpa using this
theorem one_iff (d c : UInt8) : List.contains [d] c = (c == d) := by
  show (match c == d with | true => true | false => List.elem c []) = _
  cases c == d <;> rfl
/-- does a field begin? -/
def startsD : Bs → Bool
  | [] => false
  | c :: _ => !(c == 35)
theorem starts_sees (l : Bs) : seesD (lacksF [35]) l = startsD l := by
  cases l with
  | nil => rfl
  | cons c l => show (!List.contains [35] c) = _; rw [one_iff]; rfl
theorem find_any (w : World) (b p : Nat) (s : ByteArray) (l : Bs) (h : RdAt w b s p l) (hz : s.size ≤ 1000000) (t r : Bs) (ht : l.takeWhile (hasF whiteS) = t) (hr : l.dropWhile (hasF whiteS) = r) (x : Bool) (hx : startsD r = x) :
    Calls Try.prog 17 #[ptrV b] w fun e w' => e = .returned (.bool x) ∧ RdAt w' b s (p + t.length) r ∧ Fr w w' (· = b) := by
  have HT := Lib.hid (take_has whiteS w b p s l h hz t r ht hr)
  have HS := Lib.hid (fun W h => sees_lacks [35] W b (p + t.length) s r h hz x (by rw [starts_sees]; exact hx))
  clear h ht hr hx
  go_enter Try.func17, Try.ntmps17
  go_wp2_with fail
  refine HT.out.mono ?_
  rintro e w2 ⟨rfl, hr2, hf2⟩
  have HR2 := Lib.hid hr2
  have HF2 := Lib.hid hf2
  have HS2 := Lib.hid (HS.out w2 hr2)
  clear hr2 hf2
  go_wp2_with fail
  refine HS2.out.mono ?_
  rintro e w3 ⟨rfl, n, rfl⟩
  go_wp2_with fail
  go_ret
  exact ⟨rfl, HR2.out, fb HF2.out (Fr.drewN _ _ _)⟩
/-- the rest of a quoted part by the reader's ways -/
theorem quote_take (r : Bs) : (∃ q r', quoteD r = some (q, r') ∧ r.takeWhile (lacksF [34]) = q ∧ r.dropWhile (lacksF [34]) = 34 :: r') ∨ (quoteD r = none ∧ r.dropWhile (lacksF [34]) = []) := by
  induction r with
  | nil => exact .inr ⟨rfl, rfl⟩
  | cons c r ih =>
    by_cases hc : c = 34
    · subst hc
      refine .inl ⟨[], r, by simp [quoteD], ?_, ?_⟩ <;> rfl
    · have hl : lacksF [34] c = true := by
        show (!List.contains [34] c) = true
        rw [one_iff]
        simpa using hc
      obtain ⟨e1, e2⟩ := tw_cons (l := r) hl
      rw [e1, e2]
      rcases ih with ⟨q, r', h1, h2, h3⟩ | ⟨h1, h2⟩
      · exact .inl ⟨c :: q, r', by rw [quoteD, if_neg hc, h1]; rfl, by rw [h2], h3⟩
      · exact .inr ⟨by rw [quoteD, if_neg hc, h1]; rfl, h2⟩
theorem sees_q (l : Bs) : seesD (hasF [34]) l = (match l with | [] => false | c :: _ => c == 34) := by
  cases l with
  | nil => rfl
  | cons c l => exact one_iff 34 c
/-- a quoted part that has an end -/
theorem quoted_some (w : World) (b p : Nat) (s : ByteArray) (r q r' : Bs) (h : RdAt w b s p (34 :: r)) (hz : s.size ≤ 1000000) (hq : quoteD r = some (q, r')) :
    Calls Try.prog 28 #[ptrV b] w fun e w' => e = .returned (.tuple #[strV q, .bool true]) ∧ RdAt w' b s (p + q.length + 2) r' ∧ Fr w w' (· = b) := by
  obtain ⟨ht, hr⟩ : r.takeWhile (lacksF [34]) = q ∧ r.dropWhile (lacksF [34]) = 34 :: r' := by
    rcases quote_take r with ⟨q2, r2, h1, h2, h3⟩ | ⟨h1, -⟩
    · rw [hq] at h1
      injection h1 with h1
      injection h1 with h1 h4
      subst h1 h4
      exact ⟨h2, h3⟩
    · rw [hq] at h1
      cases h1
  have hlen := h.len
  have hlr : r.length = q.length + (r'.length + 1) := by
    have := tw_app (lacksF [34]) r
    rw [ht, hr] at this
    rw [this]
    simp
  obtain ⟨hlt, -, hd⟩ := drop_cons h.2.1
  have c1 := cell_at h.2.2 1
  simp at c1
  have f1 := free_at h.2.2 1
  have H0 := Lib.hid h
  have H1 := Lib.hid (show RdAt (w.setCell ⟨b, 1, none⟩ (.int .i64 ((p : Int) + 1))) b s (p + 1) r from ⟨by omega, hd, Blk.put' h.2.2 1 _ (by simp)⟩)
  have HT := Lib.hid (take_lacks [34] _ b (p + 1) s r H1.out hz q (34 :: r') ht hr)
  have HS := Lib.hid (fun W h => sees_has [34] W b (p + 1 + q.length) s (34 :: r') h hz true rfl)
  have HL := Lib.hid hlr
  have HN := Lib.hid hlen
  clear h ht hr hq hd hlr hlen
  go_enter Try.func28, Try.ntmps28
  go_wp2_with fail
  refine HT.out.mono ?_
  rintro e w2 ⟨rfl, hr2, hf2⟩
  have HR2 := Lib.hid hr2
  have HF2 := Lib.hid (fb (fr_put w b 1 (.int .i64 ((p : Int) + 1))) hf2)
  have HS2 := Lib.hid (HS.out w2 hr2)
  have c2 := cell_at hr2.2.2 1
  simp at c2
  have f2 := free_at hr2.2.2 1
  have k1 : (0 : Int) ≤ (p : Int) + 1 + (q.length : Int) := by omega
  have k2 : (p : Int) + 1 + (q.length : Int) ≤ 1000000 := by have := HN.out; have := HL.out; simp at *; omega
  clear hr2 hf2
  go_wp2_with fail
  refine HS2.out.mono ?_
  rintro e w3 ⟨rfl, n, rfl⟩
  go_wp2_with fail
  go_ret2
  obtain ⟨-, -, hd2⟩ := drop_cons HR2.out.2.1
  have hN := HN.out
  have hL := HL.out
  simp at hN
  refine ⟨rfl, ⟨by omega, by rw [← hd2]; congr 1; omega, Blk.put' (HR2.out.2.2 : Blk (w2.drewN _) b _ _) 1 _ (by simp; omega)⟩, fb HF2.out (fb (Fr.drewN _ _ _) (fr_put _ _ _ _))⟩
/-- one that has none -/
theorem quoted_none (w : World) (b p : Nat) (s : ByteArray) (r : Bs) (h : RdAt w b s p (34 :: r)) (hz : s.size ≤ 1000000) (hq : quoteD r = none) :
    Calls Try.prog 28 #[ptrV b] w fun e w' => e = .returned (.tuple #[strV [], .bool false]) ∧ RdAt w' b s p (34 :: r) ∧ Fr w w' (· = b) := by
  obtain ⟨t, ht⟩ : ∃ t, r.takeWhile (lacksF [34]) = t := ⟨_, rfl⟩
  have hr : r.dropWhile (lacksF [34]) = [] := by
    rcases quote_take r with ⟨q2, r2, h1, h2, h3⟩ | ⟨-, h2⟩
    · rw [hq] at h1
      cases h1
    · exact h2
  have hlen := h.len
  obtain ⟨hlt, -, hd⟩ := drop_cons h.2.1
  have c1 := cell_at h.2.2 1
  simp at c1
  have f1 := free_at h.2.2 1
  have H0 := Lib.hid h
  have H1 := Lib.hid (show RdAt (w.setCell ⟨b, 1, none⟩ (.int .i64 ((p : Int) + 1))) b s (p + 1) r from ⟨by omega, hd, Blk.put' h.2.2 1 _ (by simp)⟩)
  have HT := Lib.hid (take_lacks [34] _ b (p + 1) s r H1.out hz t [] ht hr)
  have HS := Lib.hid (fun W h => sees_has [34] W b (p + 1 + t.length) s [] h hz false rfl)
  clear h ht hr hq hd hlen
  go_enter Try.func28, Try.ntmps28
  go_wp2_with fail
  refine HT.out.mono ?_
  rintro e w2 ⟨rfl, hr2, hf2⟩
  have HR2 := Lib.hid hr2
  have HF2 := Lib.hid (fb (fr_put w b 1 (.int .i64 ((p : Int) + 1))) hf2)
  have HS2 := Lib.hid (HS.out w2 hr2)
  have c2 := cell_at hr2.2.2 1
  simp at c2
  have f2 := free_at hr2.2.2 1
  clear hr2 hf2
  go_wp2_with fail
  refine HS2.out.mono ?_
  rintro e w3 ⟨rfl, n, rfl⟩
  go_wp2_with fail
  go_ret2
  refine ⟨rfl, ⟨H0.out.1, H0.out.2.1, Blk.put' (HR2.out.2.2 : Blk (w2.drewN _) b _ _) 1 _ (by simp)⟩, fb HF2.out (fb (Fr.drewN _ _ _) (fr_put _ _ _ _))⟩
end Go.Proofs.Ytolmemdkklfdpaa
