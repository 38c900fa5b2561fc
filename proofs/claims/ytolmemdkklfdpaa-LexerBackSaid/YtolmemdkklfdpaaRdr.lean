import Derived.Test.YtolmemdkklfdpaaCom
namespace Go.Proofs.Ytolmemdkklfdpaa
open Go.RowKit Go.Mem Go.Lxr

/-- block b is a reader of s at the place p, with l still to read -/
def RdAt (w : World) (b : Nat) (s : ByteArray) (p : Nat) (l : Bs) : Prop := p ≤ s.size ∧ s.data.toList.drop p = l ∧ Blk w b 43 #[.string s, .int .i64 (p : Int)]
theorem RdAt.fr {w w' : World} {b p : Nat} {s : ByteArray} {l : Bs} {S : Nat → Prop} (h : RdAt w b s p l) (hf : Fr w w' S) (hs : ¬ S b) : RdAt w' b s p l := ⟨h.1, h.2.1, hf.blk h.2.2 hs⟩
theorem RdAt.lt {w : World} {b p : Nat} {s : ByteArray} {l : Bs} (h : RdAt w b s p l) : b < w.heap.size := h.2.2.lt
theorem RdAt.len {w : World} {b p : Nat} {s : ByteArray} {l : Bs} (h : RdAt w b s p l) : p + l.length = s.size := by
  have hl : s.data.toList.length = s.size := bytes_len s
  have h1 := h.1
  have : l.length = s.size - p := by rw [← h.2.1, List.length_drop, hl]
  omega
theorem drop_cons {s : ByteArray} {a : Nat} {c : UInt8} {l : Bs} (h : s.data.toList.drop a = c :: l) : ∃ hs : a < s.size, s[a] = c ∧ s.data.toList.drop (a + 1) = l := by
  have hl : s.data.toList.length = s.size := bytes_len s
  have hs : a < s.size := by
    rw [← hl]
    rcases Nat.lt_or_ge a s.data.toList.length with h1 | h1
    · exact h1
    · rw [List.drop_eq_nil_of_le h1] at h
      cases h
  refine ⟨hs, ?_, ?_⟩
  · rw [List.drop_eq_getElem_cons (by rw [hl]; exact hs)] at h
    have := (List.cons.inj h).1
    rw [← this]
    rfl
  · rw [List.drop_eq_getElem_cons (by rw [hl]; exact hs)] at h
    exact (List.cons.inj h).2
/-- an extract of a text as a list -/
theorem ext_str {s : ByteArray} {a e : Nat} {l t r : Bs} (h : s.data.toList.drop a = l) (hl : l = t ++ r) (he : e = a + t.length) : s.extract a e = ⟨t.toArray⟩ := by
  apply ByteArray.ext
  apply Array.toList_inj.1
  subst he
  simp [List.extract, h, hl]
theorem byte_lt (c : UInt8) : (c.toNat : Int) < 256 := by have := c.toNat_lt; omega
abbrev hasV (S : Bs) : Value := .func (.func 25) #[strV S] #[]
abbrev lacksV (S : Bs) : Value := .func (.func 27) #[strV S] #[]
abbrev ptrV (b : Nat) : Value := .pointer (some ⟨b, 0, none⟩)
abbrev hasF (S : Bs) (c : UInt8) : Bool := S.contains c
abbrev lacksF (S : Bs) (c : UInt8) : Bool := !S.contains c
/-- is the next byte such a one? -/
def seesD (f : UInt8 → Bool) : Bs → Bool
  | [] => false
  | c :: _ => f c
theorem tw_cons {f : UInt8 → Bool} {c : UInt8} {l : Bs} (h : f c = true) : (c :: l).takeWhile f = c :: l.takeWhile f ∧ (c :: l).dropWhile f = l.dropWhile f := by simp [h]
theorem tw_stop {f : UInt8 → Bool} {l : Bs} (h : seesD f l = false) : l.takeWhile f = [] ∧ l.dropWhile f = l := by
  cases l with
  | nil => exact ⟨rfl, rfl⟩
  | cons c l =>
    have h : f c = false := h
    simp [h]
theorem tw_app (f : UInt8 → Bool) (l : Bs) : l = l.takeWhile f ++ l.dropWhile f := List.takeWhile_append_dropWhile.symm

theorem sees_has (S : Bs) (w : World) (b p : Nat) (s : ByteArray) (l : Bs) (h : RdAt w b s p l) (_hz : s.size ≤ 1000000) (x : Bool) (hx : seesD (hasF S) l = x) :
    Calls Try.prog 26 #[ptrV b, hasV S] w fun e w' => e = .returned (.bool x) ∧ ∃ n, w' = w.drewN n := by
  have hlen := h.len
  obtain ⟨h0, hd, hb⟩ := h
  have c0 := cell_at hb 0
  have c1 := cell_at hb 1
  simp at c0 c1
  cases l with
  | nil =>
    have hx : x = false := hx.symm
    subst hx
    have h1 : decide (p < s.size) = false := by simp at hlen; rw [decide_eq_false_iff_not]; omega
    clear hd hb hlen
    go_enter Try.func26, Try.ntmps26
    go_wp2_with fail
    go_quiet (fail)
    go_wp2_with fail
    go_ret
    exact ⟨rfl, _, rfl⟩
  | cons c r =>
    obtain ⟨hlt, hc, -⟩ := drop_cons hd
    have h1 : decide (p < s.size) = true := by rw [decide_eq_true_iff]; exact hlt
    have h2 : (0 : Int) ≤ (p : Int) := by omega
    have h3 : (p : Int) < (s.size : Int) := by omega
    have HH := Lib.hid (fun W => has_any S c W x hx)
    rw [← hc] at HH
    clear hd hb hlen hx hc
    go_enter Try.func26, Try.ntmps26
    go_wp2_with fail
    go_quiet ((go_at_call 25; exact Calls.quiet_of ((HH.out _).mono (fun e w' h => ⟨h.1, 0, h.2.symm⟩))))
    go_wp2_with fail
    go_ret
    exact ⟨rfl, _, rfl⟩

theorem sees_lacks (S : Bs) (w : World) (b p : Nat) (s : ByteArray) (l : Bs) (h : RdAt w b s p l) (_hz : s.size ≤ 1000000) (x : Bool) (hx : seesD (lacksF S) l = x) :
    Calls Try.prog 26 #[ptrV b, lacksV S] w fun e w' => e = .returned (.bool x) ∧ ∃ n, w' = w.drewN n := by
  have hlen := h.len
  obtain ⟨h0, hd, hb⟩ := h
  have c0 := cell_at hb 0
  have c1 := cell_at hb 1
  simp at c0 c1
  cases l with
  | nil =>
    have hx : x = false := hx.symm
    subst hx
    have h1 : decide (p < s.size) = false := by simp at hlen; rw [decide_eq_false_iff_not]; omega
    clear hd hb hlen
    go_enter Try.func26, Try.ntmps26
    go_wp2_with fail
    go_quiet (fail)
    go_wp2_with fail
    go_ret
    exact ⟨rfl, _, rfl⟩
  | cons c r =>
    obtain ⟨hlt, hc, -⟩ := drop_cons hd
    have h1 : decide (p < s.size) = true := by rw [decide_eq_true_iff]; exact hlt
    have h2 : (0 : Int) ≤ (p : Int) := by omega
    have h3 : (p : Int) < (s.size : Int) := by omega
    have HH := Lib.hid (fun W => lacks_any S c W x hx)
    rw [← hc] at HH
    clear hd hb hlen hx hc
    go_enter Try.func26, Try.ntmps26
    go_wp2_with fail
    go_quiet ((go_at_call 27; exact Calls.quiet_of ((HH.out _).mono (fun e w' h => ⟨h.1, 0, h.2.symm⟩))))
    go_wp2_with fail
    go_ret
    exact ⟨rfl, _, rfl⟩

def TInv (f : UInt8 → Bool) (w : World) (b : Nat) (s : ByteArray) (p : Nat) (l t r : Bs) (g : Nat) (wr : World) : Prop :=
  ∃ t1 m, l = t1 ++ m ∧ m.length = g ∧ RdAt wr b s (p + t1.length) m ∧ t = t1 ++ m.takeWhile f ∧ m.dropWhile f = r ∧ Fr w wr (· = b)

theorem take_has (S : Bs) (w : World) (b p : Nat) (s : ByteArray) (l : Bs) (h : RdAt w b s p l) (hz : s.size ≤ 1000000) (t r : Bs) (ht : l.takeWhile (hasF S) = t) (hr : l.dropWhile (hasF S) = r) :
    Calls Try.prog 24 #[ptrV b, hasV S] w fun e w' => e = .returned (strV t) ∧ RdAt w' b s (p + t.length) r ∧ Fr w w' (· = b) := by
  have H0 := Lib.hid h
  have c1 := cell_at h.2.2 1
  simp at c1
  have HS := Lib.hid (fun W q m h x hx => sees_has S W b q s m h hz x hx)
  have HT := Lib.hid ht
  have HR := Lib.hid hr
  clear h ht hr
  go_enter Try.func24, Try.ntmps24
  go_wp2_with fail
  go_loopg [] l.length (fun g wr => TInv (hasF S) w b s p l t r g wr)
  case atStart => exact ⟨[], l, rfl, rfl, by simpa using H0.out, by rw [HT.out]; rfl, HR.out, Fr.refl _ _⟩
  case round =>
    obtain ⟨t1, m, hl1, hg1, hr1, ht1, hm1, hf1⟩ := hrel
    have hlen := hr1.len
    have hlen0 := H0.out.len
    have c0' := cell_at hr1.2.2 0
    have c1' := cell_at hr1.2.2 1
    simp at c0' c1'
    have f1 := free_at hr1.2.2 1
    have HR1 := Lib.hid hr1
    have HF1 := Lib.hid hf1
    obtain ⟨x, hx⟩ : ∃ x, seesD (hasF S) m = x := ⟨_, rfl⟩
    have HSE := Lib.hid (HS.out wr _ m hr1 x hx)
    clear hr1 hf1
    cases x with
    | true =>
      cases m with
      | nil => cases hx
      | cons c m =>
        have hx : hasF S c = true := hx
        obtain ⟨e1, e2⟩ := tw_cons (l := m) hx
        rw [e1] at ht1
        rw [e2] at hm1
        obtain ⟨hlt, -, hd'⟩ := drop_cons HR1.out.2.1
        have HD := Lib.hid hd'
        have HT1 := Lib.hid ht1
        have HM1 := Lib.hid hm1
        have HL1 := Lib.hid hl1
        have HG1 := Lib.hid hg1
        clear hx e1 e2 ht1 hm1 hd' hl1 hg1 hlen
        go_wp2_with fail
        refine HSE.out.mono ?_
        rintro e w2 ⟨rfl, n, rfl⟩
        go_wp2_with fail
        go_roundg m.length
        case measure => have := HG1.out; simp at this; omega
        case rel => exact ⟨t1 ++ [c], m, by rw [HL1.out]; simp, rfl, ⟨by simp; omega, by rw [← HD.out]; simp [Nat.add_assoc], Blk.put' (HR1.out.2.2 : Blk (wr.drewN _) b _ _) 1 _ (by simp; omega)⟩, by rw [HT1.out]; simp, HM1.out, fb HF1.out (fb (Fr.drewN _ _ _) (fr_put _ _ _ _))⟩
    | false =>
      obtain ⟨e1, e2⟩ := tw_stop hx
      rw [e1] at ht1
      rw [e2] at hm1
      simp at ht1
      subst ht1 hm1
      obtain ⟨q, hq⟩ : ∃ q : Nat, q = p + t.length := ⟨_, rfl⟩
      rw [show (p : Int) + (t.length : Int) = (q : Int) by omega] at c1'
      have i0 : (0 : Int) ≤ (p : Int) := by omega
      have i1 : (p : Int) ≤ (q : Int) := by omega
      have i2 : (q : Int) ≤ (s.size : Int) := by omega
      have HE := Lib.hid (show Value.string (s.extract p q) = strV t by rw [ext_str H0.out.2.1 hl1 hq])
      clear hq hlen hlen0
      clear hx e1 e2 hl1 hg1
      go_wp2_with fail
      refine HSE.out.mono ?_
      rintro e w2 ⟨rfl, n, rfl⟩
      go_wp2_with fail
      go_quiet (fail)
      go_wp2_with fail
      go_ret
      exact ⟨by rw [← HE.out]; rfl, HR1.out, fb HF1.out (fb (Fr.drewN _ _ _) (Fr.drewN _ _ _))⟩

theorem take_lacks (S : Bs) (w : World) (b p : Nat) (s : ByteArray) (l : Bs) (h : RdAt w b s p l) (hz : s.size ≤ 1000000) (t r : Bs) (ht : l.takeWhile (lacksF S) = t) (hr : l.dropWhile (lacksF S) = r) :
    Calls Try.prog 24 #[ptrV b, lacksV S] w fun e w' => e = .returned (strV t) ∧ RdAt w' b s (p + t.length) r ∧ Fr w w' (· = b) := by
  have H0 := Lib.hid h
  have c1 := cell_at h.2.2 1
  simp at c1
  have HS := Lib.hid (fun W q m h x hx => sees_lacks S W b q s m h hz x hx)
  have HT := Lib.hid ht
  have HR := Lib.hid hr
  clear h ht hr
  go_enter Try.func24, Try.ntmps24
  go_wp2_with fail
  go_loopg [] l.length (fun g wr => TInv (lacksF S) w b s p l t r g wr)
  case atStart => exact ⟨[], l, rfl, rfl, by simpa using H0.out, by rw [HT.out]; rfl, HR.out, Fr.refl _ _⟩
  case round =>
    obtain ⟨t1, m, hl1, hg1, hr1, ht1, hm1, hf1⟩ := hrel
    have hlen := hr1.len
    have hlen0 := H0.out.len
    have c0' := cell_at hr1.2.2 0
    have c1' := cell_at hr1.2.2 1
    simp at c0' c1'
    have f1 := free_at hr1.2.2 1
    have HR1 := Lib.hid hr1
    have HF1 := Lib.hid hf1
    obtain ⟨x, hx⟩ : ∃ x, seesD (lacksF S) m = x := ⟨_, rfl⟩
    have HSE := Lib.hid (HS.out wr _ m hr1 x hx)
    clear hr1 hf1
    cases x with
    | true =>
      cases m with
      | nil => cases hx
      | cons c m =>
        have hx : lacksF S c = true := hx
        obtain ⟨e1, e2⟩ := tw_cons (l := m) hx
        rw [e1] at ht1
        rw [e2] at hm1
        obtain ⟨hlt, -, hd'⟩ := drop_cons HR1.out.2.1
        have HD := Lib.hid hd'
        have HT1 := Lib.hid ht1
        have HM1 := Lib.hid hm1
        have HL1 := Lib.hid hl1
        have HG1 := Lib.hid hg1
        clear hx e1 e2 ht1 hm1 hd' hl1 hg1 hlen
        go_wp2_with fail
        refine HSE.out.mono ?_
        rintro e w2 ⟨rfl, n, rfl⟩
        go_wp2_with fail
        go_roundg m.length
        case measure => have := HG1.out; simp at this; omega
        case rel => exact ⟨t1 ++ [c], m, by rw [HL1.out]; simp, rfl, ⟨by simp; omega, by rw [← HD.out]; simp [Nat.add_assoc], Blk.put' (HR1.out.2.2 : Blk (wr.drewN _) b _ _) 1 _ (by simp; omega)⟩, by rw [HT1.out]; simp, HM1.out, fb HF1.out (fb (Fr.drewN _ _ _) (fr_put _ _ _ _))⟩
    | false =>
      obtain ⟨e1, e2⟩ := tw_stop hx
      rw [e1] at ht1
      rw [e2] at hm1
      simp at ht1
      subst ht1 hm1
      obtain ⟨q, hq⟩ : ∃ q : Nat, q = p + t.length := ⟨_, rfl⟩
      rw [show (p : Int) + (t.length : Int) = (q : Int) by omega] at c1'
      have i0 : (0 : Int) ≤ (p : Int) := by omega
      have i1 : (p : Int) ≤ (q : Int) := by omega
      have i2 : (q : Int) ≤ (s.size : Int) := by omega
      have HE := Lib.hid (show Value.string (s.extract p q) = strV t by rw [ext_str H0.out.2.1 hl1 hq])
      clear hq hlen hlen0
      clear hx e1 e2 hl1 hg1
      go_wp2_with fail
      refine HSE.out.mono ?_
      rintro e w2 ⟨rfl, n, rfl⟩
      go_wp2_with fail
      go_quiet (fail)
      go_wp2_with fail
      go_ret
      exact ⟨by rw [← HE.out]; rfl, HR1.out, fb HF1.out (fb (Fr.drewN _ _ _) (Fr.drewN _ _ _))⟩
end Go.Proofs.Ytolmemdkklfdpaa
