import Derived.Test.YtgcheollgnhdlaaGreatDoorProg
import Derived.Test.YtgcheollgnhdlaaGreatDoorMem
import Derived.Test.YtgcheollgnhdlaaGreatDoorS7Plain
import Derived.Test.YtgcheollgnhdlaaGreatDoorShelf
import Derived.BigQuiet
import Derived.Deep.QuietTactic
import Derived.Deep.DeepCutAuto
import Derived.WalkLawsBesides
import Derived.IntWalk
import Derived.Lib.Hide
import Derived.Tactics2
import Derived.Lib.IndexAny
import Derived.Deep.LoopGhost
import Derived.Lib.ConvBytes
import Derived.Laws.IdiomCopy
import Derived.Deep.RegionHeld3
namespace Go.Proofs.YtgcheollgnhdlaaGreatDoor.S7
open Go.RowKit Go.Mem Go.Lxr

abbrev strV (l : Bs) : Value := .string ⟨l.toArray⟩
theorem infoB : (Tryz.prog.info? 5).map (fun i => (i.zero, i.size, i.bytes)) = some (some (.int .u8 0), 1, 1) := by kernel_rfl
theorem infoS : (Tryz.prog.info? 9).map (fun i => (i.zero, i.size, i.bytes)) = some (some (.string ⟨#[]⟩), 1, 16) := by kernel_rfl
theorem infoF : (Tryz.prog.info? 46).map (fun i => (i.zero, i.size, i.bytes)) = some (some (.agg #[.string ⟨#[]⟩, .int .i64 0]), 2, 24) := by kernel_rfl
theorem str_size (l : Bs) : (⟨l.toArray⟩ : ByteArray).size = l.length := by show l.toArray.size = _; simp
theorem bytes_len (s : ByteArray) : s.data.toList.length = s.size := by rw [Array.length_toList]; rfl
theorem strV_of (s : ByteArray) : Value.string s = strV s.data.toList := by
  show Value.string s = .string ⟨s.data.toList.toArray⟩
  congr
theorem run_add_str {P : Program} (w : World) (a b : Bs) (h : a.length + b.length ≤ 1000000) : (Op.stringOp .add ⟨a.toArray⟩ ⟨b.toArray⟩).run P w = .ok (strV (a ++ b)) w := by
  rw [run_string_add_sum w _ _ (by show a.toArray.size + b.toArray.size ≤ _; simp; omega)]
  show Result.ok (Value.string ((⟨a.toArray⟩ : ByteArray) ++ ⟨b.toArray⟩)) w = .ok (.string ⟨(a ++ b).toArray⟩) w
  congr 2
theorem ff {a c d : World} (h : Fr a c (fun _ => False)) (h2 : Fr c d (fun _ => False)) : Fr a d (fun _ => False) := h.trans h2 (fun _ _ h => h) (fun _ _ h => h)
theorem fd {a b : World} (h : Fr a b (fun _ => False)) (n : Nat) : Fr a (b.drewN n) (fun _ => False) := ff h (Fr.drewN _ _ _)
theorem cell0_here {a c : World} {b o : Nat} {v : Value} (h : Fr a c (fun _ => False)) (hc : a.cell? ⟨b, o, none⟩ = some v) : c.cell? ⟨b, o, none⟩ = some v :=
  (World.cell?_of_block (w := a) (h.block b (World.block_lt_of_cell? a _ hc) (fun h => h))).trans hc
theorem fb {a c d : World} {b : Nat} (h : Fr a c (· = b)) (h2 : Fr c d (· = b)) : Fr a d (· = b) := h.trans h2 (fun _ _ h => h) (fun _ _ h => h)
theorem fbn {a d : World} {b n : Nat} (h : Fr (a.drewN n) d (· = b)) : Fr a d (· = b) := fb (Fr.drewN _ _ _) h
theorem fr_put (w : World) (b i : Nat) (v : Value) : Fr w (w.setCell ⟨b, i, none⟩ v) (· = b) := Fr.set (S := (· = b)) rfl

/-- what set.has asks -/
theorem has_any (S : Bs) (c : UInt8) (w : World) (x : Bool) (hx : S.contains c = x) : Calls Tryz.prog 28 #[strV S, .int .u8 (c.toNat : Int)] w fun e w' => e = .returned (.bool x) ∧ w = w' := by
  have HI := Lib.hid (Tryz.strings_IndexByte ⟨S.toArray⟩ (c.toNat : Int) w)
  rw [show ((c.toNat : Int)).toNat.toUInt8 = c by simp, show (⟨S.toArray⟩ : ByteArray).data.toList = S from rfl] at HI
  have HC := Lib.hid (Lib.contains_iff_indexByte S c)
  rw [hx] at HC
  clear hx
  go_enter Tryz.func28, Tryz.ntmps28
  go_wp2_with fail
  refine HI.out.mono ?_
  rintro e w2 ⟨rfl, rfl⟩
  go_wp2_with fail
  go_ret
  exact ⟨by rw [HC.out]; rfl, rfl⟩
theorem lacks_any (S : Bs) (c : UInt8) (w : World) (x : Bool) (hx : (!S.contains c) = x) : Calls Tryz.prog 30 #[strV S, .int .u8 (c.toNat : Int)] w fun e w' => e = .returned (.bool x) ∧ w = w' := by
  obtain ⟨y, hy⟩ : ∃ y, S.contains c = y := ⟨_, rfl⟩
  rw [hy] at hx
  subst hx
  have HI := Lib.hid (has_any S c w y hy)
  clear hy
  go_enter Tryz.func30, Tryz.ntmps30
  go_wp2_with fail
  refine HI.out.mono ?_
  rintro e w2 ⟨rfl, rfl⟩
  go_wp2_with fail
  go_ret
  exact ⟨rfl, rfl⟩
end Go.Proofs.YtgcheollgnhdlaaGreatDoor.S7
namespace Go.Proofs.YtgcheollgnhdlaaGreatDoor.S7
open Go.RowKit Go.Mem Go.Lxr

/-- block b is a reader of s at the place p, with l still to read -/
def RdAt (w : World) (b : Nat) (s : ByteArray) (p : Nat) (l : Bs) : Prop := p ≤ s.size ∧ s.data.toList.drop p = l ∧ Blk w b 54 #[.string s, .int .i64 (p : Int)]
theorem RdAt.fr {w w' : World} {b p : Nat} {s : ByteArray} {l : Bs} {S : Nat → Prop} (h : RdAt w b s p l) (hf : Fr w w' S) (hs : ¬ S b) : RdAt w' b s p l := ⟨h.1, h.2.1, hf.blk h.2.2 hs⟩
theorem RdAt.lt {w : World} {b p : Nat} {s : ByteArray} {l : Bs} (h : RdAt w b s p l) : b < w.heap.size := h.2.2.lt
theorem RdAt.len {w : World} {b p : Nat} {s : ByteArray} {l : Bs} (h : RdAt w b s p l) : p + l.length = s.size := by
  have hl : s.data.toList.length = s.size := bytes_len s
  have h1 := h.1
  have : l.length = s.size - p := by rw [← h.2.1, List.length_drop, hl]
  omega
theorem drop_cons {s : ByteArray} {a : Nat} {c : UInt8} {l : Bs} (h : s.data.toList.drop a = c :: l) : ∃ hs : a < s.size, s[a] = c ∧ s.data.toList.drop (a + 1) = l := by
  have hl : s.data.toList.length = s.size := bytes_len s
  have hs : a < s.size := by
    rw [← hl]
    rcases Nat.lt_or_ge a s.data.toList.length with h1 | h1
    · exact h1
    · rw [List.drop_eq_nil_of_le h1] at h
      cases h
  refine ⟨hs, ?_, ?_⟩
  · rw [List.drop_eq_getElem_cons (by rw [hl]; exact hs)] at h
    have := (List.cons.inj h).1
    rw [← this]
    rfl
  · rw [List.drop_eq_getElem_cons (by rw [hl]; exact hs)] at h
    exact (List.cons.inj h).2
/-- an extract of a text as a list -/
theorem ext_str {s : ByteArray} {a e : Nat} {l t r : Bs} (h : s.data.toList.drop a = l) (hl : l = t ++ r) (he : e = a + t.length) : s.extract a e = ⟨t.toArray⟩ := by
  apply ByteArray.ext
  apply Array.toList_inj.1
  subst he
  simp [List.extract, h, hl]
theorem byte_lt (c : UInt8) : (c.toNat : Int) < 256 := by have := c.toNat_lt; omega
abbrev hasV (S : Bs) : Value := .func (.func 28) #[strV S] #[]
abbrev lacksV (S : Bs) : Value := .func (.func 30) #[strV S] #[]
abbrev ptrV (b : Nat) : Value := .pointer (some ⟨b, 0, none⟩)
abbrev hasF (S : Bs) (c : UInt8) : Bool := S.contains c
abbrev lacksF (S : Bs) (c : UInt8) : Bool := !S.contains c
/-- is the next byte such a one? -/
def seesD (f : UInt8 → Bool) : Bs → Bool
  | [] => false
  | c :: _ => f c
theorem tw_cons {f : UInt8 → Bool} {c : UInt8} {l : Bs} (h : f c = true) : (c :: l).takeWhile f = c :: l.takeWhile f ∧ (c :: l).dropWhile f = l.dropWhile f := by simp [h]
theorem tw_stop {f : UInt8 → Bool} {l : Bs} (h : seesD f l = false) : l.takeWhile f = [] ∧ l.dropWhile f = l := by
  cases l with
  | nil => exact ⟨rfl, rfl⟩
  | cons c l =>
    have h : f c = false := h
    simp [h]
theorem tw_app (f : UInt8 → Bool) (l : Bs) : l = l.takeWhile f ++ l.dropWhile f := List.takeWhile_append_dropWhile.symm

theorem sees_has (S : Bs) (w : World) (b p : Nat) (s : ByteArray) (l : Bs) (h : RdAt w b s p l) (_hz : s.size ≤ 1000000) (x : Bool) (hx : seesD (hasF S) l = x) :
    Calls Tryz.prog 29 #[ptrV b, hasV S] w fun e w' => e = .returned (.bool x) ∧ ∃ n, w' = w.drewN n := by
  have hlen := h.len
  obtain ⟨h0, hd, hb⟩ := h
  have c0 := cell_at hb 0
  have c1 := cell_at hb 1
  simp at c0 c1
  cases l with
  | nil =>
    have hx : x = false := hx.symm
    subst hx
    have h1 : decide (p < s.size) = false := by simp at hlen; rw [decide_eq_false_iff_not]; omega
    clear hd hb hlen
    go_enter Tryz.func29, Tryz.ntmps29
    go_wp2_with fail
    go_quiet (fail)
    go_wp2_with fail
    go_ret
    exact ⟨rfl, _, rfl⟩
  | cons c r =>
    obtain ⟨hlt, hc, -⟩ := drop_cons hd
    have h1 : decide (p < s.size) = true := by rw [decide_eq_true_iff]; exact hlt
    have h2 : (0 : Int) ≤ (p : Int) := by omega
    have h3 : (p : Int) < (s.size : Int) := by omega
    have HH := Lib.hid (fun W => has_any S c W x hx)
    rw [← hc] at HH
    clear hd hb hlen hx hc
    go_enter Tryz.func29, Tryz.ntmps29
    go_wp2_with fail
    go_quiet ((go_at_call 28; exact Calls.quiet_of ((HH.out _).mono (fun e w' h => ⟨h.1, 0, h.2.symm⟩))))
    go_wp2_with fail
    go_ret
    exact ⟨rfl, _, rfl⟩

theorem sees_lacks (S : Bs) (w : World) (b p : Nat) (s : ByteArray) (l : Bs) (h : RdAt w b s p l) (_hz : s.size ≤ 1000000) (x : Bool) (hx : seesD (lacksF S) l = x) :
    Calls Tryz.prog 29 #[ptrV b, lacksV S] w fun e w' => e = .returned (.bool x) ∧ ∃ n, w' = w.drewN n := by
  have hlen := h.len
  obtain ⟨h0, hd, hb⟩ := h
  have c0 := cell_at hb 0
  have c1 := cell_at hb 1
  simp at c0 c1
  cases l with
  | nil =>
    have hx : x = false := hx.symm
    subst hx
    have h1 : decide (p < s.size) = false := by simp at hlen; rw [decide_eq_false_iff_not]; omega
    clear hd hb hlen
    go_enter Tryz.func29, Tryz.ntmps29
    go_wp2_with fail
    go_quiet (fail)
    go_wp2_with fail
    go_ret
    exact ⟨rfl, _, rfl⟩
  | cons c r =>
    obtain ⟨hlt, hc, -⟩ := drop_cons hd
    have h1 : decide (p < s.size) = true := by rw [decide_eq_true_iff]; exact hlt
    have h2 : (0 : Int) ≤ (p : Int) := by omega
    have h3 : (p : Int) < (s.size : Int) := by omega
    have HH := Lib.hid (fun W => lacks_any S c W x hx)
    rw [← hc] at HH
    clear hd hb hlen hx hc
    go_enter Tryz.func29, Tryz.ntmps29
    go_wp2_with fail
    go_quiet ((go_at_call 30; exact Calls.quiet_of ((HH.out _).mono (fun e w' h => ⟨h.1, 0, h.2.symm⟩))))
    go_wp2_with fail
    go_ret
    exact ⟨rfl, _, rfl⟩

def TInv (f : UInt8 → Bool) (w : World) (b : Nat) (s : ByteArray) (p : Nat) (l t r : Bs) (g : Nat) (wr : World) : Prop :=
  ∃ t1 m, l = t1 ++ m ∧ m.length = g ∧ RdAt wr b s (p + t1.length) m ∧ t = t1 ++ m.takeWhile f ∧ m.dropWhile f = r ∧ Fr w wr (· = b)

theorem take_has (S : Bs) (w : World) (b p : Nat) (s : ByteArray) (l : Bs) (h : RdAt w b s p l) (hz : s.size ≤ 1000000) (t r : Bs) (ht : l.takeWhile (hasF S) = t) (hr : l.dropWhile (hasF S) = r) :
    Calls Tryz.prog 27 #[ptrV b, hasV S] w fun e w' => e = .returned (strV t) ∧ RdAt w' b s (p + t.length) r ∧ Fr w w' (· = b) := by
  have H0 := Lib.hid h
  have c1 := cell_at h.2.2 1
  simp at c1
  have HS := Lib.hid (fun W q m h x hx => sees_has S W b q s m h hz x hx)
  have HT := Lib.hid ht
  have HR := Lib.hid hr
  clear h ht hr
  go_enter Tryz.func27, Tryz.ntmps27
  go_wp2_with fail
  go_loopg [] l.length (fun g wr => TInv (hasF S) w b s p l t r g wr)
  case atStart => exact ⟨[], l, rfl, rfl, by simpa using H0.out, by rw [HT.out]; rfl, HR.out, Fr.refl _ _⟩
  case round =>
    obtain ⟨t1, m, hl1, hg1, hr1, ht1, hm1, hf1⟩ := hrel
    have hlen := hr1.len
    have hlen0 := H0.out.len
    have c0' := cell_at hr1.2.2 0
    have c1' := cell_at hr1.2.2 1
    simp at c0' c1'
    have f1 := free_at hr1.2.2 1
    have HR1 := Lib.hid hr1
    have HF1 := Lib.hid hf1
    obtain ⟨x, hx⟩ : ∃ x, seesD (hasF S) m = x := ⟨_, rfl⟩
    have HSE := Lib.hid (HS.out wr _ m hr1 x hx)
    clear hr1 hf1
    cases x with
    | true =>
      cases m with
      | nil => cases hx
      | cons c m =>
        have hx : hasF S c = true := hx
        obtain ⟨e1, e2⟩ := tw_cons (l := m) hx
        rw [e1] at ht1
        rw [e2] at hm1
        obtain ⟨hlt, -, hd'⟩ := drop_cons HR1.out.2.1
        have HD := Lib.hid hd'
        have HT1 := Lib.hid ht1
        have HM1 := Lib.hid hm1
        have HL1 := Lib.hid hl1
        have HG1 := Lib.hid hg1
        clear hx e1 e2 ht1 hm1 hd' hl1 hg1 hlen
        go_wp2_with fail
        refine HSE.out.mono ?_
        rintro e w2 ⟨rfl, n, rfl⟩
        go_wp2_with fail
        go_roundg m.length
        case measure => have := HG1.out; simp at this; omega
        case rel => exact ⟨t1 ++ [c], m, by rw [HL1.out]; simp, rfl, ⟨by simp; omega, by rw [← HD.out]; simp [Nat.add_assoc], Blk.put' (HR1.out.2.2 : Blk (wr.drewN _) b _ _) 1 _ (by simp; omega)⟩, by rw [HT1.out]; simp, HM1.out, fb HF1.out (fb (Fr.drewN _ _ _) (fr_put _ _ _ _))⟩
    | false =>
      obtain ⟨e1, e2⟩ := tw_stop hx
      rw [e1] at ht1
      rw [e2] at hm1
      simp at ht1
      subst ht1 hm1
      obtain ⟨q, hq⟩ : ∃ q : Nat, q = p + t.length := ⟨_, rfl⟩
      rw [show (p : Int) + (t.length : Int) = (q : Int) by omega] at c1'
      have i0 : (0 : Int) ≤ (p : Int) := by omega
      have i1 : (p : Int) ≤ (q : Int) := by omega
      have i2 : (q : Int) ≤ (s.size : Int) := by omega
      have HE := Lib.hid (show Value.string (s.extract p q) = strV t by rw [ext_str H0.out.2.1 hl1 hq])
      clear hq hlen hlen0
      clear hx e1 e2 hl1 hg1
      go_wp2_with fail
      refine HSE.out.mono ?_
      rintro e w2 ⟨rfl, n, rfl⟩
      go_wp2_with fail
      go_quiet (fail)
      go_wp2_with fail
      go_ret
      exact ⟨by rw [← HE.out]; rfl, HR1.out, fb HF1.out (fb (Fr.drewN _ _ _) (Fr.drewN _ _ _))⟩

theorem take_lacks (S : Bs) (w : World) (b p : Nat) (s : ByteArray) (l : Bs) (h : RdAt w b s p l) (hz : s.size ≤ 1000000) (t r : Bs) (ht : l.takeWhile (lacksF S) = t) (hr : l.dropWhile (lacksF S) = r) :
    Calls Tryz.prog 27 #[ptrV b, lacksV S] w fun e w' => e = .returned (strV t) ∧ RdAt w' b s (p + t.length) r ∧ Fr w w' (· = b) := by
  have H0 := Lib.hid h
  have c1 := cell_at h.2.2 1
  simp at c1
  have HS := Lib.hid (fun W q m h x hx => sees_lacks S W b q s m h hz x hx)
  have HT := Lib.hid ht
  have HR := Lib.hid hr
  clear h ht hr
  go_enter Tryz.func27, Tryz.ntmps27
  go_wp2_with fail
  go_loopg [] l.length (fun g wr => TInv (lacksF S) w b s p l t r g wr)
  case atStart => exact ⟨[], l, rfl, rfl, by simpa using H0.out, by rw [HT.out]; rfl, HR.out, Fr.refl _ _⟩
  case round =>
    obtain ⟨t1, m, hl1, hg1, hr1, ht1, hm1, hf1⟩ := hrel
    have hlen := hr1.len
    have hlen0 := H0.out.len
    have c0' := cell_at hr1.2.2 0
    have c1' := cell_at hr1.2.2 1
    simp at c0' c1'
    have f1 := free_at hr1.2.2 1
    have HR1 := Lib.hid hr1
    have HF1 := Lib.hid hf1
    obtain ⟨x, hx⟩ : ∃ x, seesD (lacksF S) m = x := ⟨_, rfl⟩
    have HSE := Lib.hid (HS.out wr _ m hr1 x hx)
    clear hr1 hf1
    cases x with
    | true =>
      cases m with
      | nil => cases hx
      | cons c m =>
        have hx : lacksF S c = true := hx
        obtain ⟨e1, e2⟩ := tw_cons (l := m) hx
        rw [e1] at ht1
        rw [e2] at hm1
        obtain ⟨hlt, -, hd'⟩ := drop_cons HR1.out.2.1
        have HD := Lib.hid hd'
        have HT1 := Lib.hid ht1
        have HM1 := Lib.hid hm1
        have HL1 := Lib.hid hl1
        have HG1 := Lib.hid hg1
        clear hx e1 e2 ht1 hm1 hd' hl1 hg1 hlen
        go_wp2_with fail
        refine HSE.out.mono ?_
        rintro e w2 ⟨rfl, n, rfl⟩
        go_wp2_with fail
        go_roundg m.length
        case measure => have := HG1.out; simp at this; omega
        case rel => exact ⟨t1 ++ [c], m, by rw [HL1.out]; simp, rfl, ⟨by simp; omega, by rw [← HD.out]; simp [Nat.add_assoc], Blk.put' (HR1.out.2.2 : Blk (wr.drewN _) b _ _) 1 _ (by simp; omega)⟩, by rw [HT1.out]; simp, HM1.out, fb HF1.out (fb (Fr.drewN _ _ _) (fr_put _ _ _ _))⟩
    | false =>
      obtain ⟨e1, e2⟩ := tw_stop hx
      rw [e1] at ht1
      rw [e2] at hm1
      simp at ht1
      subst ht1 hm1
      obtain ⟨q, hq⟩ : ∃ q : Nat, q = p + t.length := ⟨_, rfl⟩
      rw [show (p : Int) + (t.length : Int) = (q : Int) by omega] at c1'
      have i0 : (0 : Int) ≤ (p : Int) := by omega
      have i1 : (p : Int) ≤ (q : Int) := by omega
      have i2 : (q : Int) ≤ (s.size : Int) := by omega
      have HE := Lib.hid (show Value.string (s.extract p q) = strV t by rw [ext_str H0.out.2.1 hl1 hq])
      clear hq hlen hlen0
      clear hx e1 e2 hl1 hg1
      go_wp2_with fail
      refine HSE.out.mono ?_
      rintro e w2 ⟨rfl, n, rfl⟩
      go_wp2_with fail
      go_quiet (fail)
      go_wp2_with fail
      go_ret
      exact ⟨by rw [← HE.out]; rfl, HR1.out, fb HF1.out (fb (Fr.drewN _ _ _) (Fr.drewN _ _ _))⟩
end Go.Proofs.YtgcheollgnhdlaaGreatDoor.S7
namespace Go.Proofs.YtgcheollgnhdlaaGreatDoor.S7
open Go.RowKit Go.Mem Go.Lxr

abbrev whiteS : Bs := [9, 10, 11, 12, 13, 32]
abbrev marksS : Bs := [9, 10, 11, 12, 13, 32, 35, 34]
theorem white_iff (c : UInt8) : whiteS.contains c = whiteB c := by
  have h : ∀ k : Fin 256, whiteS.contains (UInt8.ofNat k.val) = whiteB (UInt8.ofNat k.val) := by decide +kernel
  have := h ⟨c.toNat, c.toNat_lt⟩
  simpa using this
theorem marks_iff (c : UInt8) : marksS.contains c = (stopB c || c == 34) := by
  have h : ∀ k : Fin 256, marksS.contains (UInt8.ofNat k.val) = (stopB (UInt8.ofNat k.val) || UInt8.ofNat k.val == 34) := by decide +kernel
  have := h ⟨c.toNat, c.toNat_lt⟩
  simpa using this
theorem one_iff (d c : UInt8) : List.contains [d] c = (c == d) := by
  show (match c == d with | true => true | false => List.elem c []) = _
  cases c == d <;> rfl
/-- does a field begin? -/
def startsD : Bs → Bool
  | [] => false
  | c :: _ => !(c == 35)
theorem starts_sees (l : Bs) : seesD (lacksF [35]) l = startsD l := by
  cases l with
  | nil => rfl
  | cons c l => show (!List.contains [35] c) = _; rw [one_iff]; rfl
theorem find_any (w : World) (b p : Nat) (s : ByteArray) (l : Bs) (h : RdAt w b s p l) (hz : s.size ≤ 1000000) (t r : Bs) (ht : l.takeWhile (hasF whiteS) = t) (hr : l.dropWhile (hasF whiteS) = r) (x : Bool) (hx : startsD r = x) :
    Calls Tryz.prog 18 #[ptrV b] w fun e w' => e = .returned (.bool x) ∧ RdAt w' b s (p + t.length) r ∧ Fr w w' (· = b) := by
  have HT := Lib.hid (take_has whiteS w b p s l h hz t r ht hr)
  have HS := Lib.hid (fun W h => sees_lacks [35] W b (p + t.length) s r h hz x (by rw [starts_sees]; exact hx))
  clear h ht hr hx
  go_enter Tryz.func18, Tryz.ntmps18
  go_wp2_with fail
  refine HT.out.mono ?_
  rintro e w2 ⟨rfl, hr2, hf2⟩
  have HR2 := Lib.hid hr2
  have HF2 := Lib.hid hf2
  have HS2 := Lib.hid (HS.out w2 hr2)
  clear hr2 hf2
  go_wp2_with fail
  refine HS2.out.mono ?_
  rintro e w3 ⟨rfl, n, rfl⟩
  go_wp2_with fail
  go_ret
  exact ⟨rfl, HR2.out, fb HF2.out (Fr.drewN _ _ _)⟩
/-- the rest of a quoted part by the reader's ways -/
theorem quote_take (r : Bs) : (∃ q r', quoteD r = some (q, r') ∧ r.takeWhile (lacksF [34]) = q ∧ r.dropWhile (lacksF [34]) = 34 :: r') ∨ (quoteD r = none ∧ r.dropWhile (lacksF [34]) = []) := by
  induction r with
  | nil => exact .inr ⟨rfl, rfl⟩
  | cons c r ih =>
    by_cases hc : c = 34
    · subst hc
      refine .inl ⟨[], r, by simp [quoteD], ?_, ?_⟩ <;> rfl
    · have hl : lacksF [34] c = true := by
        show (!List.contains [34] c) = true
        rw [one_iff]
        simpa using hc
      obtain ⟨e1, e2⟩ := tw_cons (l := r) hl
      rw [e1, e2]
      rcases ih with ⟨q, r', h1, h2, h3⟩ | ⟨h1, h2⟩
      · exact .inl ⟨c :: q, r', by rw [quoteD, if_neg hc, h1]; rfl, by rw [h2], h3⟩
      · exact .inr ⟨by rw [quoteD, if_neg hc, h1]; rfl, h2⟩
theorem sees_q (l : Bs) : seesD (hasF [34]) l = (match l with | [] => false | c :: _ => c == 34) := by
  cases l with
  | nil => rfl
  | cons c l => exact one_iff 34 c
/-- a quoted part that has an end -/
theorem quoted_some (w : World) (b p : Nat) (s : ByteArray) (r q r' : Bs) (h : RdAt w b s p (34 :: r)) (hz : s.size ≤ 1000000) (hq : quoteD r = some (q, r')) :
    Calls Tryz.prog 31 #[ptrV b] w fun e w' => e = .returned (.tuple #[strV q, .bool true]) ∧ RdAt w' b s (p + q.length + 2) r' ∧ Fr w w' (· = b) := by
  obtain ⟨ht, hr⟩ : r.takeWhile (lacksF [34]) = q ∧ r.dropWhile (lacksF [34]) = 34 :: r' := by
    rcases quote_take r with ⟨q2, r2, h1, h2, h3⟩ | ⟨h1, -⟩
    · rw [hq] at h1
      injection h1 with h1
      injection h1 with h1 h4
      subst h1 h4
      exact ⟨h2, h3⟩
    · rw [hq] at h1
      cases h1
  have hlen := h.len
  have hlr : r.length = q.length + (r'.length + 1) := by
    have := tw_app (lacksF [34]) r
    rw [ht, hr] at this
    rw [this]
    simp
  obtain ⟨hlt, -, hd⟩ := drop_cons h.2.1
  have c1 := cell_at h.2.2 1
  simp at c1
  have f1 := free_at h.2.2 1
  have H0 := Lib.hid h
  have H1 := Lib.hid (show RdAt (w.setCell ⟨b, 1, none⟩ (.int .i64 ((p : Int) + 1))) b s (p + 1) r from ⟨by omega, hd, Blk.put' h.2.2 1 _ (by simp)⟩)
  have HT := Lib.hid (take_lacks [34] _ b (p + 1) s r H1.out hz q (34 :: r') ht hr)
  have HS := Lib.hid (fun W h => sees_has [34] W b (p + 1 + q.length) s (34 :: r') h hz true rfl)
  have HL := Lib.hid hlr
  have HN := Lib.hid hlen
  clear h ht hr hq hd hlr hlen
  go_enter Tryz.func31, Tryz.ntmps31
  go_wp2_with fail
  refine HT.out.mono ?_
  rintro e w2 ⟨rfl, hr2, hf2⟩
  have HR2 := Lib.hid hr2
  have HF2 := Lib.hid (fb (fr_put w b 1 (.int .i64 ((p : Int) + 1))) hf2)
  have HS2 := Lib.hid (HS.out w2 hr2)
  have c2 := cell_at hr2.2.2 1
  simp at c2
  have f2 := free_at hr2.2.2 1
  have k1 : (0 : Int) ≤ (p : Int) + 1 + (q.length : Int) := by omega
  have k2 : (p : Int) + 1 + (q.length : Int) ≤ 1000000 := by have := HN.out; have := HL.out; simp at *; omega
  clear hr2 hf2
  go_wp2_with fail
  refine HS2.out.mono ?_
  rintro e w3 ⟨rfl, n, rfl⟩
  go_wp2_with fail
  go_ret2
  obtain ⟨-, -, hd2⟩ := drop_cons HR2.out.2.1
  have hN := HN.out
  have hL := HL.out
  simp at hN
  refine ⟨rfl, ⟨by omega, by rw [← hd2]; congr 1; omega, Blk.put' (HR2.out.2.2 : Blk (w2.drewN _) b _ _) 1 _ (by simp; omega)⟩, fb HF2.out (fb (Fr.drewN _ _ _) (fr_put _ _ _ _))⟩
/-- one that has none -/
theorem quoted_none (w : World) (b p : Nat) (s : ByteArray) (r : Bs) (h : RdAt w b s p (34 :: r)) (hz : s.size ≤ 1000000) (hq : quoteD r = none) :
    Calls Tryz.prog 31 #[ptrV b] w fun e w' => e = .returned (.tuple #[strV [], .bool false]) ∧ RdAt w' b s p (34 :: r) ∧ Fr w w' (· = b) := by
  obtain ⟨t, ht⟩ : ∃ t, r.takeWhile (lacksF [34]) = t := ⟨_, rfl⟩
  have hr : r.dropWhile (lacksF [34]) = [] := by
    rcases quote_take r with ⟨q2, r2, h1, h2, h3⟩ | ⟨-, h2⟩
    · rw [hq] at h1
      cases h1
    · exact h2
  have hlen := h.len
  obtain ⟨hlt, -, hd⟩ := drop_cons h.2.1
  have c1 := cell_at h.2.2 1
  simp at c1
  have f1 := free_at h.2.2 1
  have H0 := Lib.hid h
  have H1 := Lib.hid (show RdAt (w.setCell ⟨b, 1, none⟩ (.int .i64 ((p : Int) + 1))) b s (p + 1) r from ⟨by omega, hd, Blk.put' h.2.2 1 _ (by simp)⟩)
  have HT := Lib.hid (take_lacks [34] _ b (p + 1) s r H1.out hz t [] ht hr)
  have HS := Lib.hid (fun W h => sees_has [34] W b (p + 1 + t.length) s [] h hz false rfl)
  clear h ht hr hq hd hlen
  go_enter Tryz.func31, Tryz.ntmps31
  go_wp2_with fail
  refine HT.out.mono ?_
  rintro e w2 ⟨rfl, hr2, hf2⟩
  have HR2 := Lib.hid hr2
  have HF2 := Lib.hid (fb (fr_put w b 1 (.int .i64 ((p : Int) + 1))) hf2)
  have HS2 := Lib.hid (HS.out w2 hr2)
  have c2 := cell_at hr2.2.2 1
  simp at c2
  have f2 := free_at hr2.2.2 1
  clear hr2 hf2
  go_wp2_with fail
  refine HS2.out.mono ?_
  rintro e w3 ⟨rfl, n, rfl⟩
  go_wp2_with fail
  go_ret2
  refine ⟨rfl, ⟨H0.out.1, H0.out.2.1, Blk.put' (HR2.out.2.2 : Blk (w2.drewN _) b _ _) 1 _ (by simp)⟩, fb HF2.out (fb (Fr.drewN _ _ _) (fr_put _ _ _ _))⟩
end Go.Proofs.YtgcheollgnhdlaaGreatDoor.S7
namespace Go.Mem
open Go.RowKit

/-- the slice v owns the n elements xs; its row may bear the mark of a conversion, beyond its cells -/
def Row (w : World) (base : Nat) (e : TypeId) (size : Nat) (v : Value) (n : Nat) (xs : List Value) : Prop :=
  xs.length = n * size ∧ ((v = .slice none 0 0 ∧ n = 0) ∨
    ∃ g cap cur fr, v = .slice (some ⟨g, 0, none⟩) n cap ∧ base ≤ g ∧ w.heap[g]? = some (.cells cur e fr) ∧ n ≤ cap ∧ cap ≤ maxLen ∧ cur.size = cap * size ∧ cur.toList.take (n * size) = xs ∧
      ∀ i, i < cur.size → w.frozen? ⟨g, i, none⟩ = false)

theorem Row.of_own {w : World} {base : Nat} {e : TypeId} {size n : Nat} {v : Value} {xs : List Value} (h : w.ownsRow base e size v n xs) : Row w base e size v n xs := by
  refine ⟨h.1, ?_⟩
  rcases h.2 with h2 | ⟨g, cap, cur, hv, hb, hh, h1, h2, h3, h4⟩
  · exact .inl h2
  · exact .inr ⟨g, cap, cur, (0, 0), hv, hb, hh, h1, h2, h3, h4, fun i _ => by simp [World.frozen?, hh]⟩
theorem Row.base {w : World} {base base' : Nat} {e : TypeId} {size n : Nat} {v : Value} {xs : List Value} (h : Row w base e size v n xs) (hb : base' ≤ base) : Row w base' e size v n xs := by
  refine ⟨h.1, ?_⟩
  rcases h.2 with h2 | ⟨g, cap, cur, fr, hv, hg, r⟩
  · exact .inl h2
  · exact .inr ⟨g, cap, cur, fr, hv, by omega, r⟩
theorem Row.slice {w : World} {base : Nat} {e : TypeId} {size n : Nat} {v : Value} {xs : List Value} (h : Row w base e size v n xs) : ∃ A c, v = .slice A n c := by
  rcases h.2 with ⟨rfl, rfl⟩ | ⟨g, cap, cur, fr, rfl, _⟩
  · exact ⟨_, _, rfl⟩
  · exact ⟨_, _, rfl⟩
theorem Row.lt {w : World} {base : Nat} {e : TypeId} {size n : Nat} {v : Value} {xs : List Value} (h : Row w base e size v n xs) : ∀ k, v.ownBlock = some k → base ≤ k ∧ k < w.heap.size := by
  intro k hk
  rcases h.2 with ⟨rfl, _⟩ | ⟨g, cap, cur, fr, rfl, hb, hg, _⟩
  · simp [Value.ownBlock] at hk
  · simp [Value.ownBlock] at hk
    subst hk
    exact ⟨hb, (Array.getElem?_eq_some_iff.1 hg).1⟩
theorem Row.fr {a b : World} {S : Nat → Prop} {base : Nat} {e : TypeId} {size n : Nat} {v : Value} {xs : List Value} (h : Row a base e size v n xs) (hf : Fr a b S) (hg : ∀ g, v.ownBlock = some g → ¬ S g) : Row b base e size v n xs := by
  refine ⟨h.1, ?_⟩
  rcases h.2 with hn | ⟨g, cap, cur, fr, rfl, hb, hh, h1, h2, h3, h4, h5⟩
  · exact .inl hn
  · have hblk := hf.block g (Array.getElem?_eq_some_iff.1 hh).1 (hg g rfl)
    exact .inr ⟨g, cap, cur, fr, rfl, hb, hblk.trans hh, h1, h2, h3, h4, fun i hi => (World.frozen?_of_block (w := a) (a := ⟨g, i, none⟩) hblk).trans (h5 i hi)⟩
theorem Row.rd {w : World} {base : Nat} {e : TypeId} {size n : Nat} {v : Value} {xs : List Value} (h : Row w base e size v n xs) :
    ∃ A c, v = .slice A n c ∧ n ≤ c ∧ c ≤ maxLen ∧ Rd w size A n xs ∧ (A = none → n = 0 ∧ c = 0) ∧ (∀ a, A = some a → ∃ g, a = ⟨g, 0, none⟩ ∧ v.ownBlock = some g ∧ base ≤ g ∧ g < w.heap.size) := by
  have hx := h.1
  rcases h.2 with ⟨rfl, rfl⟩ | ⟨g, cap, cur, fr, rfl, hb, hh, hn, hc, hs, ht, -⟩
  · have : xs = [] := List.eq_nil_of_length_eq_zero (by simpa using hx)
    subst this
    exact ⟨_, _, rfl, Nat.le_refl _, Nat.zero_le _, Rd.zero _ _ _, fun _ => ⟨rfl, rfl⟩, fun a e => by cases e⟩
  · refine ⟨_, _, rfl, hn, hc, ⟨hx, fun _ => ⟨g, 0, rfl, fun j u hu => ?_⟩⟩, (fun e => by cases e), (fun a e => by cases e; exact ⟨g, rfl, rfl, hb, (Array.getElem?_eq_some_iff.1 hh).1⟩)⟩
    rw [← ht, List.getElem?_take] at hu
    split at hu
    · simp [World.cell?, hh]
      simpa using hu
    · cases hu

/-- what a stretch of stores leaves in its block -/
theorem heap_setCells (g : Nat) : ∀ (vs : List Value) (o : Nat) (cur : Array Value) (e : TypeId) (fr : Nat × Nat) (w : World), w.heap[g]? = some (.cells cur e fr) →
    (w.setCells g o vs).heap[g]? = some (.cells ((vs.zipIdx o).foldl (fun (c : Array Value) (p : Value × Nat) => c.setIfInBounds p.2 p.1) cur) e fr)
  | [], _, _, _, _, _, h => h
  | v :: r, o, cur, e, fr, w, h => by
    rw [World.setCells]
    have h1 : (w.setCell ⟨g, o, none⟩ v).heap[g]? = some (.cells (cur.setIfInBounds o v) e fr) := by
      simp [World.setCell, Array.getElem?_modify, h]
    rw [heap_setCells g r (o + 1) _ e fr _ h1]
    rfl
theorem size_setAll : ∀ (l : List (Value × Nat)) (cur : Array Value), (l.foldl (fun (c : Array Value) (p : Value × Nat) => c.setIfInBounds p.2 p.1) cur).size = cur.size
  | [], _ => rfl
  | p :: l, cur => by rw [List.foldl_cons, size_setAll l]; simp
theorem fr_setCells (g : Nat) : ∀ (vs : List Value) (o : Nat) (w : World), Fr w (w.setCells g o vs) (· = g)
  | [], _, _ => Fr.refl _ _
  | _ :: r, o, _ => (Fr.set (S := (· = g)) rfl).trans (fr_setCells g r (o + 1) _) (fun _ _ h => h) (fun _ _ h => h)

section
variable {P : Program} (w : World)
/-- append onto a row, the source nil, empty or not -/
theorem run_append_row (base : Nat) (t ty e : TypeId) (i : TypeInfo) (z : Value) (size bytes : Nat) (ht : P.underlying t = some (.slice e)) (hi : P.info? e = some i) (hz : i.zero = some z)
    (hsize : i.size = size) (hby : i.bytes = bytes) (hzs : z.cells.size = size) (hsz : 0 < size)
    (v : Value) (n : Nat) (xs : List Value) (hown : Row w base e size v n xs)
    (A : Option Addr) (m c : Nat) (news : List Value) (hr : Rd w size A m news) (h1 : ∀ u ∈ news, u.oneCell' = true)
    (h63 : n + m ≤ maxLen) (hbytes : (n + m) * bytes ≤ 140737488355328) (hbase : base ≤ w.heap.size) :
    ∃ v' w', (Builtin.append_ #[t, t] ty #[v, .slice A m c]).run P w = .ok v' w' ∧ Row w' base e size v' (n + m) (xs ++ news) ∧ Fr w w' (fun k => some k = v.ownBlock) ∧
      (v'.ownBlock = v.ownBlock ∨ v'.ownBlock = some w.heap.size) := by
  rcases hown.2 with ⟨rfl, rfl⟩ | ⟨g, cap, cur, fr, rfl, hbg, hg, hnc, hcm, hcs, htake, hfz⟩
  · have hx : xs = [] := List.eq_nil_of_length_eq_zero (by simpa using hown.1)
    subst hx
    obtain ⟨v', w', hrun, h2, h3, h5⟩ := run_append_rd (P := P) w base t ty e i z size bytes ht hi hz hsize hby hzs hsz (.slice none 0 0) 0 [] (World.ownsRow_nil _ _ _ _) A m c news hr h1 h63 hbytes hbase
    exact ⟨v', w', hrun, .of_own h2, Fr.ofGrown h3, h5⟩
  · subst hsize
    subst hby
    by_cases hm : m = 0
    · subst hm
      have hn : news = [] := List.eq_nil_of_length_eq_zero (by simpa using hr.1)
      subst hn
      refine ⟨_, w, ?_, by simpa using hown, Fr.refl _ _, .inl rfl⟩
      cases A with
      | none => simp [Builtin.append_, run_underlying ht, sizeOf, typeInfo, hi, Builtin.lenOf, Builtin.firstCells, hnc, storeCells]
      | some a => simp [Builtin.append_, run_underlying ht, sizeOf, typeInfo, hi, Builtin.lenOf, Builtin.firstCells, hnc, storeCells, loadCells, loadCellsFrom]
    · obtain ⟨b, off, rfl, hcell⟩ := hr.2 (by omega)
      have hnews : ∀ j u, news[j]? = some u → w.cell? ((⟨b, off, none⟩ : Addr).add j) = some u := fun j u hu => by
        have hadd : (⟨b, off, none⟩ : Addr).add j = ⟨b, off + j, none⟩ := by unfold Addr.add; split <;> simp_all
        rw [hadd]
        exact hcell j u hu
      by_cases hroom : n + m ≤ cap
      · have hfit : n * i.size + news.length ≤ cur.size := by rw [hr.1, hcs, ← Nat.add_mul]; exact Nat.mul_le_mul_right _ hroom
        have hf := run_firstCells_some (P := P) w i.size m ⟨b, off, none⟩ m c news hr.1 hnews
        have hst := run_storeCells_cells (P := P) g (n * i.size) news 0 w (fun j hj => by simp [World.cell?, hg]; omega) (fun j hj => hfz _ (by omega)) h1
        simp only [Nat.add_zero] at hst
        have hadd : (⟨g, 0, none⟩ : Addr).add (n * i.size) = ⟨g, n * i.size, none⟩ := by unfold Addr.add; split <;> simp_all
        refine ⟨.slice (some ⟨g, 0, none⟩) (n + m) cap, w.setCells g (n * i.size) news, ?_, ⟨by rw [List.length_append, hown.1, hr.1, Nat.add_mul], .inr ⟨g, cap, _, fr, rfl, hbg, heap_setCells g news _ cur e fr w hg, hroom, hcm, by rw [size_setAll]; exact hcs, ?_, ?_⟩⟩, ?_, .inl rfl⟩
        · simp [Builtin.append_, run_underlying ht, sizeOf, typeInfo, hi, Builtin.lenOf, hroom, hf, hadd, hst]
        · have hcells := heap_setCells g news (n * i.size) cur e fr w hg
          have hat : ∀ k, (w.setCells g (n * i.size) news).cell? ⟨g, k, none⟩ = ((news.zipIdx (n * i.size)).foldl (fun (c : Array Value) (p : Value × Nat) => c.setIfInBounds p.2 p.1) cur)[k]? := fun k => by simp [World.cell?, hcells]
          refine List.ext_getElem? fun k => ?_
          rw [List.getElem?_take]
          by_cases hk : k < (n + m) * i.size
          · rw [if_pos hk, Array.getElem?_toList, ← hat k]
            by_cases hk1 : k < n * i.size
            · rw [World.cell?_setCells_out g news (n * i.size) w ⟨g, k, none⟩ (fun _ _ => .inl hk1), List.getElem?_append_left (by rw [hown.1]; exact hk1), ← htake, List.getElem?_take, if_pos hk1]
              simp [World.cell?, hg]
            · have hj : k - n * i.size < news.length := by rw [hr.1]; rw [Nat.add_mul] at hk; omega
              have := World.cell?_setCells_in g news (n * i.size) w (fun j hj => by simp [World.cell?, hg]; omega) (k - n * i.size) hj
              rw [show n * i.size + (k - n * i.size) = k by omega] at this
              rw [this, List.getElem?_append_right (by rw [hown.1]; omega), hown.1, List.getElem?_eq_getElem hj]
          · rw [if_neg hk, List.getElem?_eq_none]
            rw [List.length_append, hown.1, hr.1, ← Nat.add_mul]
            omega
        · intro k hk
          rw [World.frozen?_setCells]
          exact hfz k (by rw [size_setAll] at hk; exact hk)
        · exact (fr_setCells g news _ w).mono fun k _ h => by simp [Value.ownBlock, h]
      · have holds : ∀ j u, xs[j]? = some u → w.cell? ((⟨g, 0, none⟩ : Addr).add j) = some u := fun j u hu => by
          have hadd : (⟨g, 0, none⟩ : Addr).add j = ⟨g, j, none⟩ := by unfold Addr.add; split <;> simp_all
          rw [hadd]
          rw [← htake, List.getElem?_take] at hu
          split at hu
          · simp [World.cell?, hg]
            simpa using hu
          · cases hu
        have hrun := run_append_grow (P := P) w t ty e i z ht hi hz ⟨g, 0, none⟩ n cap xs hown.1 holds ⟨b, off, none⟩ m c news hr.1 hnews (by omega) (by simp only [maxLen] at h63; omega) (growslice_fits (by omega) hbytes)
        have hge := grownCap_ge w (n + m) cap e
        have hcm' : grownCap w (n + m) cap e ≤ maxLen := grownCap_le_maxLen w (n + m) cap e h63
        have hlen : (xs ++ news).length = (n + m) * i.size := by rw [List.length_append, hown.1, hr.1, Nat.add_mul]
        have hheap := heap_alloc_new w.drew (.cells (xs.toArray ++ news.toArray ++ Builtin.zeroCells z.cells (grownCap w (n + m) cap e - (n + m))) e)
        refine ⟨_, _, hrun, ⟨hlen, .inr ⟨w.heap.size, _, _, (0, 0), rfl, hbase, hheap, hge, hcm', ?_, ?_, ?_⟩⟩, ?_, .inr rfl⟩
        · simp only [Array.size_append, List.size_toArray, size_zeroCells, hzs, hown.1, hr.1, ← Nat.add_mul]
          congr 1
          omega
        · simp only [Array.toList_append, List.append_assoc]
          rw [← List.append_assoc, ← hlen]
          exact List.take_left
        · intro k _
          have : (w.drew.alloc (.cells (xs.toArray ++ news.toArray ++ Builtin.zeroCells z.cells (grownCap w (n + m) cap e - (n + m))) e)).heap[w.heap.size]? = _ := hheap
          simp only [World.frozen?, this]
          simp
        · exact (Fr.drew w _).trans (Fr.new _ _ _) (fun _ _ h => h) (fun _ _ h => h)

theorem wpList_append_row {ops : Array Oper} {rest : List Oper} {o : Oper} {a : Act} {Q : Exit → Act → World → Prop} (hgd : o.guard = none) (s x : Operand) (t : TypeId)
    (ho : o.op = .call { callee := .builtin .append, args := #[s, x], argTypes := #[t, t] })
    (base : Nat) (e : TypeId) (i : TypeInfo) (z : Value) (size bytes : Nat) (ht : P.underlying t = some (.slice e)) (hi : P.info? e = some i) (hz : i.zero = some z)
    (hsize : i.size = size) (hby : i.bytes = bytes) (hzs : z.cells.size = size) (hsz : 0 < size)
    (v : Value) (n : Nat) (xs : List Value) (hs : a.eval s = v) (hown : Row w base e size v n xs)
    (A : Option Addr) (m c : Nat) (news : List Value) (hx : a.eval x = .slice A m c) (hr : Rd w size A m news) (h1 : ∀ u ∈ news, u.oneCell' = true)
    (h63 : n + m ≤ maxLen) (hbytes : (n + m) * bytes ≤ 140737488355328) (hbase : base ≤ w.heap.size)
    (h : ∀ v' w', Row w' base e size v' (n + m) (xs ++ news) → Fr w w' (fun k => some k = v.ownBlock) → (v'.ownBlock = v.ownBlock ∨ v'.ownBlock = some w.heap.size) → wpList P ops Q rest (a.put o.dst v') w') : wpList P ops Q (o :: rest) a w := by
  refine wpList_plain hgd fun K hK => ?_
  obtain ⟨v', w', hrun, h2, h3, h4⟩ := run_append_row (P := P) w base t o.type e i z size bytes ht hi hz hsize hby hzs hsz v n xs hown A m c news hr h1 h63 hbytes hbase
  unfold Oper.wp execOp
  simp only [ho, resolve, invoke, builtin, Sem.run_bind, Sem.run_pure, Result.andThen_ok, List.map_toArray, List.map_cons, List.map_nil, hs, hx, hrun]
  exact hK _ _ (h v' w' h2 h3 h4)
end

/-- the bytes of a string as cells -/
def strCells (s : ByteArray) : List Value := s.data.toList.map fun b => Value.int .u8 (b.toNat : Int)
/-- a string as a slice of bytes: the row and the world -/
theorem bytes_row (w : World) (e : TypeId) (s : ByteArray) (hs : s.size ≤ maxLen) : Row (Lib.bytesWorld w e s) w.heap.size e 1 (.slice (some ⟨w.heap.size, 0, none⟩) s.size (grownCap w s.size 0 e)) s.size (strCells s) ∧
    Fr w (Lib.bytesWorld w e s) (fun _ => False) := by
  have hge := grownCap_ge w s.size 0 e
  have hcs : (Lib.bytesCells w e s).size = grownCap w s.size 0 e := by
    simp [Lib.bytesCells]
    have : s.data.size = s.size := rfl
    omega
  have hsz : s.data.toList.length = s.size := by rw [Array.length_toList]; rfl
  refine ⟨⟨by simp [strCells, hsz], .inr ⟨w.heap.size, _, _, _, rfl, Nat.le_refl _, Lib.bytesWorld_at_new w e s, hge, grownCap_le_maxLen w s.size 0 e hs, by rw [hcs]; omega, ?_, fun i hi => ?_⟩⟩, ?_⟩
  · simp only [Lib.bytesCells, Nat.mul_one, Array.toList_append, Array.toList_map]
    rw [List.take_left' (by simp [hsz])]
    rfl
  · simp only [World.frozen?, Lib.bytesWorld_at_new]
    simp
    omega
  · exact ⟨rfl, rfl, rfl, by rw [Lib.bytesWorld_size]; omega, fun k hk _ => Lib.bytesWorld_at_old w e s k hk⟩

theorem str_cells_len (s : ByteArray) : (strCells s).length = s.size := by
  have hsz : s.data.toList.length = s.size := by rw [Array.length_toList]; rfl
  simp [strCells, hsz]
theorem first_str {P : Program} (w : World) (s : ByteArray) : (Builtin.firstCells 1 s.size (.string s)).run P w = .ok (strCells s).toArray w := by
  simp only [Builtin.firstCells, Sem.run_pure]
  congr 1
  apply Array.toList_inj.1
  have hsz : s.data.size = s.size := rfl
  rw [← hsz]
  simp [strCells]
section
variable {P : Program} (w : World)
/-- append of a string's bytes onto a row of bytes -/
theorem run_append_str (base : Nat) (t u ty e : TypeId) (i : TypeInfo) (ht : P.underlying t = some (.slice e)) (hu : P.underlying u = some .string) (hi : P.info? e = some i) (hz : i.zero = some (.int .u8 0))
    (hsize : i.size = 1) (hby : i.bytes = 1) (v : Value) (n : Nat) (xs : List Value) (hown : Row w base e 1 v n xs) (s : ByteArray) (h63 : n + s.size ≤ 1000000) (hbase : base ≤ w.heap.size) :
    ∃ v' w', (Builtin.append_ #[t, u] ty #[v, .string s]).run P w = .ok v' w' ∧ Row w' base e 1 v' (n + s.size) (xs ++ strCells s) ∧ Fr w w' (fun k => some k = v.ownBlock) ∧
      (v'.ownBlock = v.ownBlock ∨ v'.ownBlock = some w.heap.size) := by
  have hcl := str_cells_len s
  have hone : ∀ u ∈ strCells s, u.oneCell' = true := by
    intro u hu
    simp only [strCells, List.mem_map] at hu
    obtain ⟨b, -, rfl⟩ := hu
    rfl
  by_cases hm : s.size = 0
  · have hn : strCells s = [] := List.eq_nil_of_length_eq_zero (by omega)
    refine ⟨v, w, ?_, by simpa [hn, hm] using hown, Fr.refl _ _, .inl rfl⟩
    have hf : (Builtin.firstCells 1 0 (.string s)).run P w = .ok #[] w := by
      have := first_str (P := P) w s
      rw [hm, hn] at this
      exact this
    rcases hown.2 with ⟨rfl, rfl⟩ | ⟨g, cap, cur, fr, rfl, hbg, hg, hnc, hcm, hcs, htake, hfz⟩
    · simp [Builtin.append_, run_underlying ht, run_underlying hu, sizeOf, typeInfo, hi, Builtin.lenOf, hm, hsize, hf]
    · simp [Builtin.append_, run_underlying ht, run_underlying hu, sizeOf, typeInfo, hi, Builtin.lenOf, hm, hsize, hf, hnc, storeCells]
  · rcases hown.2 with ⟨rfl, rfl⟩ | ⟨g, cap, cur, fr, rfl, hbg, hg, hnc, hcm, hcs, htake, hfz⟩
    · have hx : xs = [] := List.eq_nil_of_length_eq_zero (by simpa using hown.1)
      subst hx
      have hrun := run_append_nil_string (P := P) w t u ty e i (.int .u8 0) ht hu hi hz s (by omega) (by omega) (by rw [hby]; omega)
      have hge := grownCap_ge w s.size 0 e
      have hcm' : grownCap w s.size 0 e ≤ maxLen := grownCap_le_maxLen w s.size 0 e (by unfold maxLen; omega)
      have hd : s.data.size = s.size := rfl
      have hheap := heap_alloc_new w.drew (.cells (s.data.map (fun b => Value.int .u8 b.toNat) ++ Builtin.zeroCells (Value.int .u8 0).cells (grownCap w s.size 0 e - s.size)) e)
      refine ⟨_, _, hrun, ⟨by simp [hcl], .inr ⟨w.heap.size, _, _, (0, 0), by simp, hbase, hheap, by simpa using hge, hcm', ?_, ?_, ?_⟩⟩, (Fr.drew w _).trans (Fr.new _ _ _) (fun _ _ h => h) (fun _ _ h => h), .inr rfl⟩
      · simp [size_zeroCells, Value.cells]
        omega
      · simp only [Array.toList_append, Array.toList_map, Nat.zero_add, Nat.mul_one, List.nil_append]
        rw [List.take_left' (by simp [hd])]
        rfl
      · intro k _
        have : (w.drew.alloc (.cells (s.data.map (fun b => Value.int .u8 b.toNat) ++ Builtin.zeroCells (Value.int .u8 0).cells (grownCap w s.size 0 e - s.size)) e)).heap[w.heap.size]? = _ := hheap
        simp only [World.frozen?, this]
        simp
    · by_cases hroom : n + s.size ≤ cap
      · have hfit : n * 1 + (strCells s).length ≤ cur.size := by rw [hcl, hcs]; omega
        have hst := run_storeCells_cells (P := P) g (n * 1) (strCells s) 0 w (fun j hj => by simp [World.cell?, hg]; omega) (fun j hj => hfz _ (by omega)) hone
        simp only [Nat.add_zero] at hst
        have hadd : (⟨g, 0, none⟩ : Addr).add (n * 1) = ⟨g, n * 1, none⟩ := by unfold Addr.add; split <;> simp_all
        have hf := first_str (P := P) w s
        refine ⟨.slice (some ⟨g, 0, none⟩) (n + s.size) cap, w.setCells g (n * 1) (strCells s), ?_, ⟨by rw [List.length_append, hown.1, hcl, Nat.add_mul]; omega, .inr ⟨g, cap, _, fr, rfl, hbg, heap_setCells g (strCells s) _ cur e fr w hg, hroom, hcm, by rw [size_setAll]; exact hcs, ?_, ?_⟩⟩, ?_, .inl rfl⟩
        · simp only [Nat.mul_one] at hst hadd
          simp [Builtin.append_, run_underlying ht, run_underlying hu, sizeOf, typeInfo, hi, Builtin.lenOf, hroom, hsize, hf, hadd, hst]
        · have hcells := heap_setCells g (strCells s) (n * 1) cur e fr w hg
          have hat : ∀ k, (w.setCells g (n * 1) (strCells s)).cell? ⟨g, k, none⟩ = (((strCells s).zipIdx (n * 1)).foldl (fun (c : Array Value) (p : Value × Nat) => c.setIfInBounds p.2 p.1) cur)[k]? := fun k => by unfold World.cell?; rw [hcells]; rfl
          refine List.ext_getElem? fun k => ?_
          rw [List.getElem?_take]
          by_cases hk : k < (n + s.size) * 1
          · rw [if_pos hk, Array.getElem?_toList, ← hat k]
            by_cases hk1 : k < n * 1
            · rw [World.cell?_setCells_out g (strCells s) (n * 1) w ⟨g, k, none⟩ (fun _ _ => .inl hk1), List.getElem?_append_left (by rw [hown.1]; exact hk1), ← htake, List.getElem?_take, if_pos hk1]
              simp [World.cell?, hg]
            · have hj : k - n * 1 < (strCells s).length := by rw [hcl]; omega
              have := World.cell?_setCells_in g (strCells s) (n * 1) w (fun j hj => by simp [World.cell?, hg]; omega) (k - n * 1) hj
              rw [show n * 1 + (k - n * 1) = k by omega] at this
              rw [this, List.getElem?_append_right (by rw [hown.1]; omega), hown.1, List.getElem?_eq_getElem hj]
          · rw [if_neg hk, List.getElem?_eq_none]
            rw [List.length_append, hown.1, hcl]
            omega
        · intro k hk
          rw [World.frozen?_setCells]
          exact hfz k (by rw [size_setAll] at hk; exact hk)
        · exact (fr_setCells g (strCells s) _ w).mono fun k _ h => by simp [Value.ownBlock, h]
      · have holds : ∀ j u, xs[j]? = some u → w.drew.cell? ((⟨g, 0, none⟩ : Addr).add j) = some u := fun j u hu => by
          have hadd : (⟨g, 0, none⟩ : Addr).add j = ⟨g, j, none⟩ := by unfold Addr.add; split <;> simp_all
          rw [hadd]
          rw [← htake, List.getElem?_take] at hu
          split at hu
          · have hg' : w.drew.heap[g]? = some (.cells cur e fr) := hg
            simp [World.cell?, hg']
            simpa using hu
          · cases hu
        have hf := first_str (P := P) w.drew s
        have hfo := run_firstCells_some (P := P) w.drew 1 n ⟨g, 0, none⟩ n cap xs (by rw [hown.1]) holds
        have hne : ¬ (n + s.size ≤ cap) := hroom
        have h63' : ¬ (9223372036854775807 < ((n : Int) + (s.size : Int))) := by omega
        have h48' : ¬ (281474976710656 < Builtin.nextslicecap (n + s.size) cap * i.bytes) := by
          have := growslice_fits (need := n + s.size) (old := cap) (bytes := i.bytes) (by omega) (by rw [hby]; omega)
          omega
        have hge := grownCap_ge w (n + s.size) cap e
        have hcm' : grownCap w (n + s.size) cap e ≤ maxLen := grownCap_le_maxLen w (n + s.size) cap e (by unfold maxLen; omega)
        have hrun : (Builtin.append_ #[t, u] ty #[.slice (some ⟨g, 0, none⟩) n cap, .string s]).run P w = .ok (.slice (some ⟨w.heap.size, 0, none⟩) (n + s.size) (grownCap w (n + s.size) cap e))
            (w.drew.alloc (.cells (xs.toArray ++ (strCells s).toArray ++ Builtin.zeroCells (Value.int .u8 0).cells (grownCap w (n + s.size) cap e - (n + s.size))) e)) := by
          simp only [hby, Nat.mul_one] at h48'
          simp [Builtin.append_, run_underlying ht, run_underlying hu, sizeOf, typeInfo, zeroValue, hi, hz, Builtin.lenOf, hne, h63', h48', Question.forced, hf, hfo, hsize, hby, newRow, grownCap]
          congr 2
          apply Array.ext'
          simp [List.append_assoc]
        have hlen : (xs ++ strCells s).length = n + s.size := by rw [List.length_append, hown.1, hcl]; omega
        have hheap := heap_alloc_new w.drew (.cells (xs.toArray ++ (strCells s).toArray ++ Builtin.zeroCells (Value.int .u8 0).cells (grownCap w (n + s.size) cap e - (n + s.size))) e)
        refine ⟨_, _, hrun, ⟨by rw [hlen]; omega, .inr ⟨w.heap.size, _, _, (0, 0), rfl, hbase, hheap, hge, hcm', ?_, ?_, ?_⟩⟩, (Fr.drew w _).trans (Fr.new _ _ _) (fun _ _ h => h) (fun _ _ h => h), .inr rfl⟩
        · have hx := hown.1
          simp [size_zeroCells, Value.cells, hcl]
          omega
        · simp only [Array.toList_append, Nat.mul_one]
          rw [List.take_left' (by simpa using hlen)]
        · intro k _
          have : (w.drew.alloc (.cells (xs.toArray ++ (strCells s).toArray ++ Builtin.zeroCells (Value.int .u8 0).cells (grownCap w (n + s.size) cap e - (n + s.size))) e)).heap[w.heap.size]? = _ := hheap
          simp only [World.frozen?, this]
          simp

theorem wpList_append_str {ops : Array Oper} {rest : List Oper} {o : Oper} {a : Act} {Q : Exit → Act → World → Prop} (hgd : o.guard = none) (s x : Operand) (t u : TypeId)
    (ho : o.op = .call { callee := .builtin .append, args := #[s, x], argTypes := #[t, u] })
    (base : Nat) (e : TypeId) (i : TypeInfo) (ht : P.underlying t = some (.slice e)) (hu : P.underlying u = some .string) (hi : P.info? e = some i) (hz : i.zero = some (.int .u8 0))
    (hsize : i.size = 1) (hby : i.bytes = 1)
    (v : Value) (n : Nat) (xs : List Value) (hs : a.eval s = v) (hown : Row w base e 1 v n xs)
    (str : ByteArray) (hx : a.eval x = .string str) (h63 : n + str.size ≤ 1000000) (hbase : base ≤ w.heap.size)
    (h : ∀ v' w', Row w' base e 1 v' (n + str.size) (xs ++ strCells str) → Fr w w' (fun k => some k = v.ownBlock) → (v'.ownBlock = v.ownBlock ∨ v'.ownBlock = some w.heap.size) → wpList P ops Q rest (a.put o.dst v') w') : wpList P ops Q (o :: rest) a w := by
  refine wpList_plain hgd fun K hK => ?_
  obtain ⟨v', w', hrun, h2, h3, h4⟩ := run_append_str (P := P) w base t u o.type e i ht hu hi hz hsize hby v n xs hown str h63 hbase
  unfold Oper.wp execOp
  simp only [ho, resolve, invoke, builtin, Sem.run_bind, Sem.run_pure, Result.andThen_ok, List.map_toArray, List.map_cons, List.map_nil, hs, hx, hrun]
  exact hK _ _ (h v' w' h2 h3 h4)
end
end Go.Mem
namespace Go.Proofs.YtgcheollgnhdlaaGreatDoor.S7
open Go.RowKit Go.Mem Go.Lxr

abbrev u8V (b : UInt8) : Value := .int .u8 (b.toNat : Int)
theorem text_push (xs : List Int) (y : Int) : text (xs ++ [y]) = (text xs).push (UInt8.ofNat y.toNat) := by simp [text]
theorem text_bytes (l : Bs) : text (l.map fun b => (b.toNat : Int)) = ⟨l.toArray⟩ := by
  have : ∀ l : Bs, text ((l.reverse).map fun b => (b.toNat : Int)) = ⟨l.reverse.toArray⟩ := by
    intro l
    induction l with
    | nil => rfl
    | cons b l ih =>
      rw [List.reverse_cons, List.map_append, List.map_cons, List.map_nil, text_push, ih]
      have : UInt8.ofNat ((b.toNat : Int)).toNat = b := by simp
      rw [this]
      apply ByteArray.ext
      simp
  have := this l.reverse
  rw [List.reverse_reverse] at this
  exact this
/-- the slice v is the call's own and holds these bytes -/
def Bts (w : World) (base : Nat) (v : Value) (l : Bs) : Prop := Row w base 5 1 v l.length (l.map u8V)
theorem Bts.fr {a b : World} {S : Nat → Prop} {base : Nat} {v : Value} {l : Bs} (h : Bts a base v l) (hf : Fr a b S) (hg : ∀ g, S g → g < base) : Bts b base v l :=
  Row.fr h hf (fun g e hs => by have := (Row.lt h g e).1; have := hg g hs; omega)
theorem conv_nil (w : World) (c : Nat) : (convert 59 9 (.slice none 0 c)).run Tryz.prog w = .ok (.string ⟨#[]⟩) w := by
  have := run_convert_bytes_string (P := Tryz.prog) w 59 9 5 none 0 c Tryz.underlying59 Tryz.underlying5 Tryz.underlying9
  rw [this]
  simp [Conv.bytesToString]
  rfl
theorem Bts.text {w : World} {base : Nat} {v : Value} {l : Bs} (h : Bts w base v l) : (convert 59 9 v).run Tryz.prog w = .ok (strV l) w := by
  obtain ⟨A, c, rfl, -, -, hrd, hn, -⟩ := Row.rd h
  cases A with
  | none =>
    have h0 := hn rfl
    obtain rfl : l = [] := List.length_eq_zero_iff.1 h0.1
    exact conv_nil w c
  | some a =>
    have := run_text (P := Tryz.prog) w 59 9 5 Tryz.underlying59 Tryz.underlying5 Tryz.underlying9 a l.length c (l.map fun b => (b.toNat : Int)) (show Rd w 1 (some a) l.length ((l.map fun b => (b.toNat : Int)).map (Value.int .u8)) by
      rw [List.map_map]; exact hrd)
    rw [text_bytes] at this
    exact this
theorem Bts.slice {w : World} {base : Nat} {v : Value} {l : Bs} (h : Bts w base v l) : ∃ A c, v = .slice A l.length c := Row.slice h
theorem run_conv (w : World) (l : Bs) : (convert 9 59 (strV l)).run Tryz.prog w = .ok (.slice (some ⟨w.heap.size, 0, none⟩) l.length (grownCap w l.length 0 5)) (Lib.bytesWorld w 5 ⟨l.toArray⟩) := by
  have := Lib.run_convert_string_bytes (P := Tryz.prog) w 9 59 5 ⟨l.toArray⟩ Tryz.underlying9 Tryz.underlying59 Tryz.underlying5
  rw [str_size] at this
  exact this
theorem bts_made (w : World) (l : Bs) (h : l.length ≤ 1000000) : Bts (Lib.bytesWorld w 5 ⟨l.toArray⟩) w.heap.size (.slice (some ⟨w.heap.size, 0, none⟩) l.length (grownCap w l.length 0 5)) l ∧ Fr w (Lib.bytesWorld w 5 ⟨l.toArray⟩) (fun _ => False) := by
  have := bytes_row w 5 ⟨l.toArray⟩ (by rw [str_size]; unfold maxLen; omega)
  rw [str_size] at this
  exact this
theorem bts_nil (w : World) (base : Nat) : Bts w base (.slice none 0 0) [] := ⟨rfl, .inl ⟨rfl, rfl⟩⟩
theorem Bts.base {w : World} {base base' : Nat} {v : Value} {l : Bs} (h : Bts w base v l) (hb : base' ≤ base) : Bts w base' v l := Row.base h hb
theorem str_cells (l : Bs) : strCells ⟨l.toArray⟩ = l.map u8V := rfl
theorem Bts.add {w' : World} {base : Nat} {v' : Value} {l t : Bs} (h : Row w' base 5 1 v' (l.length + (⟨t.toArray⟩ : ByteArray).size) (l.map u8V ++ strCells ⟨t.toArray⟩)) : Bts w' base v' (l ++ t) := by
  rw [str_size, str_cells] at h
  show Row w' base 5 1 v' (l ++ t).length ((l ++ t).map u8V)
  rw [List.length_append, List.map_append]
  exact h

/-- fields by stretches without marks -/
theorem field_take : ∀ (l : Bs) (p : Nat), fieldD p l = (fieldD (p + (l.takeWhile (lacksF marksS)).length) (l.dropWhile (lacksF marksS))).map fun x => (l.takeWhile (lacksF marksS) ++ x.1, x.2) := by
  intro l
  induction l with
  | nil => intro p; rw [show ([] : Bs).takeWhile (lacksF marksS) = [] from rfl, show ([] : Bs).dropWhile (lacksF marksS) = [] from rfl, field_nil, field_nil]; rfl
  | cons c l ih =>
    intro p
    cases hc : lacksF marksS c with
    | true =>
      obtain ⟨e1, e2⟩ := tw_cons (l := l) hc
      rw [e1, e2]
      have hc : (!marksS.contains c) = true := hc
      rw [marks_iff] at hc
      simp only [Bool.not_eq_true', Bool.or_eq_false_iff, beq_eq_false_iff_ne] at hc
      rw [field_one hc.1 hc.2, ih, List.length_cons, show p + 1 + (l.takeWhile (lacksF marksS)).length = p + ((l.takeWhile (lacksF marksS)).length + 1) by omega]
      cases fieldD (p + ((l.takeWhile (lacksF marksS)).length + 1)) (l.dropWhile (lacksF marksS)) <;> rfl
    | false =>
      obtain ⟨e1, e2⟩ := tw_stop (f := lacksF marksS) (l := c :: l) hc
      rw [e1, e2]
      show _ = (fieldD p (c :: l)).map _
      cases fieldD p (c :: l) <;> rfl
theorem drop_marks (l : Bs) : (l.dropWhile (lacksF marksS) = [] ∨ ∃ c r, l.dropWhile (lacksF marksS) = c :: r ∧ (stopB c = true ∨ c = 34)) := by
  induction l with
  | nil => exact .inl rfl
  | cons c l ih =>
    cases hc : lacksF marksS c with
    | true => rw [(tw_cons (l := l) hc).2]; exact ih
    | false =>
      rw [(tw_stop (f := lacksF marksS) (l := c :: l) hc).2]
      have hc : (!marksS.contains c) = false := hc
      rw [marks_iff] at hc
      simp only [Bool.not_eq_false', Bool.or_eq_true, beq_iff_eq] at hc
      exact .inr ⟨c, l, rfl, hc⟩
end Go.Proofs.YtgcheollgnhdlaaGreatDoor.S7
namespace Go.Proofs.YtgcheollgnhdlaaGreatDoor.S7
open Go.RowKit Go.Mem Go.Lxr

abbrev fieldV (s : Bs) (p : Int) : Value := .agg #[strV s, .int .i64 p]
abbrev fieldC (s : Bs) (p : Int) : Obj := .cells #[strV s, .int .i64 p] 46
theorem infoFd : (Tryz.prog.info? 46).map (fun i => (i.size)) = some 2 := by kernel_rfl
/-- what field answers -/
def FieldRan (g : Except Nat (Bs × Bs)) (p b : Nat) (s : ByteArray) (w : World) (e : Ending) (w' : World) : Prop :=
  match g with
  | .error k => e = .returned (.tuple #[fieldV [] 0, .bool false]) ∧ (∃ m, RdAt w' b s k m) ∧ Fr w w' (· = b)
  | .ok (t, r) => e = .returned (.tuple #[fieldV t p, .bool true]) ∧ (∃ q, RdAt w' b s q r) ∧ Fr w w' (· = b)
/-- before a round of field's loop -/
def FInv (w : World) (b p : Nat) (s : ByteArray) (l : Bs) (g : Nat) (v4 : Value) (wr : World) : Prop :=
  ∃ (acc m : Bs) (q : Nat), m.length = g ∧ Bts wr (w.heap.size + 1) v4 acc ∧ RdAt wr b s q m ∧ (fieldD p l = (fieldD q m).map fun x => (acc ++ x.1, x.2)) ∧ (m = [] ∨ ∃ c r, m = c :: r ∧ (stopB c = true ∨ c = 34)) ∧
    Fr w wr (· = b) ∧ Blk wr w.heap.size 46 #[strV [], .int .i64 (p : Int)] ∧ acc.length + m.length ≤ s.size
theorem load_f {w : World} {g : Nat} {x y : Value} (h : Blk w g 46 #[x, y]) : (loadVar 46 ⟨g, 0, none⟩).run Tryz.prog w = .ok (.agg #[x, y]) w := run_loadVar_row w g 46 46 #[x, y] (0, 0) _ h Tryz.underlying46 rfl infoFd
theorem results_field (tmps : Array Value) (w : World) (q : Nat) (x y k : Value) (h2 : tmps.getD 2 undef = .pointer (some ⟨q, 0, none⟩)) (h3 : tmps.getD 3 undef = k)
    (hb : Blk w q 46 #[x, y]) : (results Tryz.f19 tmps).run Tryz.prog w = .ok (.tuple #[.agg #[x, y], k]) w := by
  have h2' : tmps[2]?.getD undef = .pointer (some ⟨q, 0, none⟩) := by simpa using h2
  have h3' : tmps[3]?.getD undef = k := by simpa using h3
  have hL := load_f hb
  simp [results, Tryz.results19, h2', h3', asAddr, hL]
theorem fresh_b {a b c : World} {q g : Nat} (h : Fr a b (· = q)) (k : Fr b c (· = g)) (hg : a.heap.size ≤ g) : Fr a c (· = q) := h.trans k (fun _ _ x => x) (fun i hi x => by subst x; omega)
theorem fr_false {a b c : World} {S : Nat → Prop} (h : Fr a b (fun _ => False)) (k : Fr b c S) : Fr a c S := h.trans k (fun _ _ x => x.elim) (fun _ _ x => x)
theorem fr_false' {a b c : World} {S : Nat → Prop} (h : Fr a b S) (k : Fr b c (fun _ => False)) : Fr a c S := h.trans k (fun _ _ x => x) (fun _ _ x => x.elim)
theorem seesD_q {m : Bs} (h : m = [] ∨ ∃ c r, m = c :: r ∧ (stopB c = true ∨ c = 34)) : (seesD (hasF [34]) m = false ∧ ∀ q, fieldD q m = .ok ([], m)) ∨ ∃ r, m = 34 :: r := by
  rcases h with rfl | ⟨c, r, rfl, hc⟩
  · exact .inl ⟨rfl, field_nil⟩
  · by_cases h34 : c = 34
    · exact .inr ⟨r, by rw [h34]⟩
    · refine .inl ⟨?_, fun q => field_stop (hc.resolve_right h34) q r⟩
      show List.contains [34] c = false
      rw [one_iff]
      simpa using h34
theorem field_put {w0 w2 : World} {F b : Nat} {x y : Value} (k d : Value) (h : Fr w0 w2 (· = b)) (hb : Blk w2 F 46 #[x, y]) (hge : w0.heap.size ≤ F) :
    Fr w0 ((w2.setCell ⟨F, 0, none⟩ k).setCell ⟨F, 1, none⟩ d) (· = b) ∧ Blk ((w2.setCell ⟨F, 0, none⟩ k).setCell ⟨F, 1, none⟩ d) F 46 #[k, d] := by
  have f1 := fresh_b h (Fr.set (S := (· = F)) (a := ⟨F, 0, none⟩) (v := k) rfl) hge
  have f2 := fresh_b f1 (Fr.set (S := (· = F)) (a := ⟨F, 1, none⟩) (v := d) rfl) hge
  exact ⟨f2, (hb.put' (cs' := #[k, y]) 0 k (by simp)).put' (cs' := #[k, d]) 1 d (by simp)⟩
theorem add_ok {w w1 w2 : World} {b : Nat} {v v' : Value} {acc t : Bs} (hb : Bts w1 (w.heap.size + 1) v acc) (hown : Row w2 (w.heap.size + 1) 5 1 v' (acc.length + (⟨t.toArray⟩ : ByteArray).size) (acc.map u8V ++ strCells ⟨t.toArray⟩)) (hf : Fr w1 w2 (fun k => some k = v.ownBlock)) (h0 : Fr w w1 (· = b)) :
    Bts w2 (w.heap.size + 1) v' (acc ++ t) ∧ Fr w w2 (· = b) ∧ (∀ s q m, b < w.heap.size → RdAt w1 b s q m → RdAt w2 b s q m) ∧ (∀ x y, Blk w1 w.heap.size 46 #[x, y] → Blk w2 w.heap.size 46 #[x, y]) := by
  have hge : ∀ k, some k = v.ownBlock → w.heap.size + 1 ≤ k := fun k e => (Row.lt hb k e.symm).1
  refine ⟨Bts.add hown, h0.trans hf (fun _ _ x => x) (fun i hi x => by have := hge i x; omega), fun s q m hl h => h.fr hf (fun e => by have := hge b e; omega), fun x y h => hf.blk h (fun e => by have := hge _ e; omega)⟩
set_option maxHeartbeats 1600000 in
theorem field_any (w : World) (b p : Nat) (s : ByteArray) (l : Bs) (h : RdAt w b s p l) (hz : s.size ≤ 1000000) :
    Calls Tryz.prog 19 #[ptrV b] w (FieldRan (fieldD p l) p b s w) := by
  have hlt := h.lt
  have hbr := (Fr.new w (fieldC [] 0) (fun _ => False)).blk h.2.2 (fun h => h)
  have c1 := cell_at hbr 1
  simp at c1
  have f1 := free_at (Blk.made w 46 #[strV [], .int .i64 0]) 1
  have hb1 := Blk.made w 46 #[strV [], .int .i64 (p : Int)]
  have hf1 := Fr.new w (fieldC [] (p : Int)) (fun _ => False)
  obtain ⟨t, ht⟩ : ∃ t, l.takeWhile (lacksF marksS) = t := ⟨_, rfl⟩
  obtain ⟨m, hm⟩ : ∃ m, l.dropWhile (lacksF marksS) = m := ⟨_, rfl⟩
  have hlm : l.length = t.length + m.length := by
    have := congrArg List.length (tw_app (lacksF marksS) l)
    rw [ht, hm, List.length_append] at this
    exact this
  have hlen := h.len
  have HT := Lib.hid (take_lacks marksS _ b p s l (h.fr hf1 (fun h => h)) hz t m ht hm)
  have HPF := Lib.hid (field_take l p)
  have HDM := Lib.hid (drop_marks l)
  rw [ht, hm] at HPF
  rw [hm] at HDM
  have HB := Lib.hid hb1
  have HF := Lib.hid hf1
  have hts : t.length ≤ 1000000 := by omega
  have HSZ := Lib.hid (show (w.alloc (fieldC [] (p : Int))).heap.size = w.heap.size + 1 by simp)
  have hcv := fun w => run_conv w t
  clear h hbr hb1 hf1 ht hm
  go_enter Tryz.func19, Tryz.ntmps19
  go_wp2_with fail
  refine HT.out.mono ?_
  rintro e w2 ⟨rfl, hr2, hf2⟩
  have HR2 := Lib.hid hr2
  have HF2 := Lib.hid hf2
  have hb2 := hf2.blk HB.out (fun e => by omega)
  have HB2 := Lib.hid hb2
  have hs2 := HF2.out.size
  rw [HSZ.out] at hs2
  obtain ⟨hbm, hfm⟩ := bts_made w2 t hts
  have HBM := Lib.hid hbm
  have HFM := Lib.hid hfm
  clear hr2 hf2 hb2 hbm hfm
  go_wp2_with fail
  go_loopg [4, 5, 6] m.length (fun g v4 _ _ wr => FInv w b p s l g v4 wr)
  case atStart => exact ⟨t, m, p + t.length, rfl, HBM.out.base hs2, HR2.out.fr HFM.out (fun h => h), HPF.out, HDM.out, (fr_false HF.out HF2.out).trans HFM.out (fun _ _ h => h) (fun _ _ h => h.elim), HFM.out.blk HB2.out (fun h => h), by omega⟩
  case round =>
    obtain ⟨acc, m1, q, hg, hbt, hrr, hpf, hdm, hfr, hbl, hal⟩ := hrel
    clear HT HPF HDM HB HF HSZ hcv HR2 HF2 HB2 HBM HFM hs2 hlm hts hlen f1 c1
    have hlen1 := hrr.len
    have c0' := cell_at hbl 0
    have c1' := cell_at hbl 1
    simp at c0' c1'
    have f0' := free_at hbl 0
    have f1' := free_at hbl 1
    have HRR := Lib.hid hrr
    have HFR := Lib.hid hfr
    have HBL := Lib.hid hbl
    have HBT := Lib.hid hbt
    have HG := Lib.hid hg
    have HPF := Lib.hid hpf
    have hws := hfr.size
    obtain ⟨A4, c4, rfl⟩ := hbt.slice
    obtain ⟨i0, hi0, hz0, hz1, hz2⟩ := info_parts infoB
    rcases seesD_q hdm with ⟨hx, hq⟩ | ⟨r, rfl⟩
    · have HS := Lib.hid (sees_has [34] wr b q s m1 hrr hz false hx)
      have htx : ∀ n, (convert 59 9 (.slice A4 acc.length c4)).run Tryz.prog (wr.drewN n) = .ok (strV acc) (wr.drewN n) := fun n => Bts.text (base := w.heap.size + 1) (hbt.fr (Fr.drewN wr n (fun _ => False)) (fun _ h => h.elim))
      have HQ := Lib.hid (hq q)
      clear hx hq hdm hbt hrr hpf hg hfr hbl
      go_wp2_with fail
      refine HS.out.mono ?_
      rintro e w3 ⟨rfl, n, rfl⟩
      have htx := htx n
      go_wp2_with fail
      have hb4 := ((HBL.out : Blk (wr.drewN n) _ _ _).put' (cs' := #[strV acc, .int .i64 (p : Int)]) 0 (strV acc) (by simp))
      obtain ⟨hf9, hb9⟩ := field_put (strV acc) (.int .i64 (p : Int)) (fresh_b (fb HFR.out (Fr.drewN wr n _)) (Fr.set (S := (· = w.heap.size)) (a := ⟨w.heap.size, 0, none⟩) (v := strV acc) rfl) (Nat.le_refl _)) hb4 (Nat.le_refl _)
      refine bodyPost_ret (results_field _ _ w.heap.size _ _ (.bool true) rfl rfl hb9) rfl ?_
      rw [HPF.out, HQ.out]
      refine ⟨by rw [List.append_nil], ⟨q, HRR.out.fr (S := (· = w.heap.size)) ?_ (by omega)⟩, hf9⟩
      exact fb (fb (fb (Fr.drewN wr n (· = w.heap.size)) (fr_put _ _ _ _)) (fr_put _ _ _ _)) (fr_put _ _ _ _)
    · have HS := Lib.hid (sees_has [34] wr b q s (34 :: r) hrr hz true rfl)
      rcases hqd : quoteD r with _ | ⟨q1, r1⟩
      · have HQ := Lib.hid (field_none hqd q)
        have HU := Lib.hid (fun n => quoted_none (wr.drewN n) b q s r hrr hz hqd)
        clear hqd hdm hbt hrr hpf hg hfr hbl
        go_wp2_with fail
        refine HS.out.mono ?_
        rintro e w3 ⟨rfl, n, rfl⟩
        have HU := Lib.hid (HU.out n)
        go_wp2_with fail
        refine HU.out.mono ?_
        rintro e w4 ⟨rfl, hr4, hf4⟩
        have hb4 := hf4.blk (HBL.out : Blk (wr.drewN n) _ _ _) (fun e => by omega)
        have HB4 := Lib.hid hb4
        have HR4 := Lib.hid hr4
        have HF4 := Lib.hid (fb HFR.out (fbn hf4))
        have f0' := free_at hb4 0
        have f1' := free_at hb4 1
        have c0' := cell_at hb4 0
        have c1' := cell_at hb4 1
        simp at c0' c1'
        clear hb4 hr4 hf4
        go_wp2_with fail
        obtain ⟨hf9, hb9⟩ := field_put (strV []) (.int .i64 0) HF4.out HB4.out (Nat.le_refl _)
        refine bodyPost_ret (results_field _ _ w.heap.size _ _ (.bool false) rfl rfl hb9) rfl ?_
        rw [HPF.out, HQ.out]
        refine ⟨rfl, ⟨34 :: r, HR4.out.fr (S := (· = w.heap.size)) ?_ (by omega)⟩, hf9⟩
        exact fb (fr_put _ _ _ _) (fr_put _ _ _ _)
      · have HQ := Lib.hid (field_some hqd q)
        have HU := Lib.hid (fun n => quoted_some (wr.drewN n) b q s r q1 r1 hrr hz hqd)
        have hrl : r.length = q1.length + r1.length + 1 := by
          rw [(quote_is hqd).1]
          simp
          omega
        obtain ⟨t1, ht1⟩ : ∃ t, r1.takeWhile (lacksF marksS) = t := ⟨_, rfl⟩
        obtain ⟨m2, hm2⟩ : ∃ m, r1.dropWhile (lacksF marksS) = m := ⟨_, rfl⟩
        have hlm : r1.length = t1.length + m2.length := by
          have := congrArg List.length (tw_app (lacksF marksS) r1)
          rw [ht1, hm2, List.length_append] at this
          exact this
        have HPF2 := Lib.hid (field_take r1 (q + q1.length + 2))
        have HDM := Lib.hid (drop_marks r1)
        rw [ht1, hm2] at HPF2
        rw [hm2] at HDM
        have HT := Lib.hid (fun W h => take_lacks marksS W b (q + q1.length + 2) s r1 h hz t1 m2 ht1 hm2)
        have hg1 : r.length + 1 = gk := hg
        have hal1 : acc.length + (r.length + 1) ≤ s.size := hal
        clear hqd hdm hbt hrr hpf hg hfr hbl ht1 hm2 hlen1
        go_wp2_with fail
        refine HS.out.mono ?_
        rintro e w3 ⟨rfl, n, rfl⟩
        have HU := Lib.hid (HU.out n)
        go_wp2_with fail
        refine HU.out.mono ?_
        rintro e w4 ⟨rfl, hr4, hf4⟩
        have HB4 := Lib.hid (hf4.blk (HBL.out : Blk (wr.drewN n) _ _ _) (fun e => by omega))
        have HR4 := Lib.hid hr4
        have HF4 := Lib.hid (fb HFR.out (fbn hf4))
        have HBT4 := Lib.hid ((HBT.out.fr (Fr.drewN wr n (· = b)) (fun g e => by omega)).fr hf4 (fun g e => by omega))
        have hs4 := HB4.out.lt
        clear hr4 hf4
        go_wp2_with (at_builtin; refine wpList_append_str _ rfl (.tmp 27) (.tmp 28) 59 9 rfl (w.heap.size + 1) 5 i0 Tryz.underlying59 Tryz.underlying9 hi0 hz0 hz1 hz2 _ acc.length _ rfl HBT4.out ⟨q1.toArray⟩ rfl (by rw [str_size]; omega) (by omega) ?_; intro v7 w7 hown7 hf7 _)
        obtain ⟨hbt7, hfr7, hrr7, hbl7⟩ := add_ok HBT4.out hown7 hf7 HF4.out
        obtain ⟨acc2, ha2⟩ : ∃ a2, acc ++ q1 = a2 := ⟨_, rfl⟩
        have hb63 : acc2.length + t1.length ≤ 1000000 := by rw [← ha2, List.length_append]; omega
        rw [ha2] at hbt7
        have HA2 := Lib.hid ha2
        have HR7 := Lib.hid (hrr7 s _ _ hlt HR4.out)
        have HT7 := Lib.hid (HT.out w7 HR7.out)
        have HBT7 := Lib.hid hbt7
        have HF7 := Lib.hid hfr7
        have HB7 := Lib.hid (hbl7 _ _ HB4.out)
        obtain ⟨A7, c7, rfl⟩ := hbt7.slice
        clear hbt7 hfr7 hrr7 hbl7 hown7 hf7 ha2
        refine HT7.out.mono ?_
        rintro e w8 ⟨rfl, hr8, hf8⟩
        have HR8 := Lib.hid hr8
        have HF8 := Lib.hid (fb HF7.out hf8)
        have HB8 := Lib.hid (hf8.blk HB7.out (fun e => by omega))
        have HBT8 := Lib.hid (HBT7.out.fr hf8 (fun g e => by omega))
        have hs8 := HB8.out.lt
        clear hr8 hf8
        go_wp2_with (at_builtin; refine wpList_append_str _ rfl (.tmp 30) (.tmp 33) 59 9 rfl (w.heap.size + 1) 5 i0 Tryz.underlying59 Tryz.underlying9 hi0 hz0 hz1 hz2 _ acc2.length _ rfl HBT8.out ⟨t1.toArray⟩ rfl (by rw [str_size]; exact hb63) (by omega) ?_; intro v9 w9 hown9 hf9 _)
        obtain ⟨hbt9, hfr9, hrr9, hbl9⟩ := add_ok HBT8.out hown9 hf9 HF8.out
        obtain ⟨A9, c9, rfl⟩ := hbt9.slice
        go_roundg m2.length
        case measure => omega
        case rel =>
          refine ⟨acc2 ++ t1, m2, _, rfl, hbt9, hrr9 s _ _ hlt HR8.out, ?_, HDM.out, hfr9, hbl9 _ _ HB8.out, by rw [← HA2.out]; simp; omega⟩
          rw [HPF.out, HQ.out, HPF2.out, ← HA2.out]
          cases fieldD (q + q1.length + 2 + t1.length) m2 with
          | error k => rfl
          | ok x => simp [Except.map]
end Go.Proofs.YtgcheollgnhdlaaGreatDoor.S7
namespace Go.Proofs.YtgcheollgnhdlaaGreatDoor.S7
open Go.RowKit Go.Mem Go.Lxr

abbrev FPair := Bs × Nat
def cellsF (x : FPair) : List Value := [strV x.1, .int .i64 (x.2 : Int)]
theorem cellsF_len (fs : List FPair) : (fs.flatMap cellsF).length = fs.length * 2 := by
  induction fs with
  | nil => rfl
  | cons x fs ih => simp [cellsF, ih]; omega
/-- the slice v is the call's own and holds these fields, of the type t -/
def Flds (t : TypeId) (w : World) (base : Nat) (v : Value) (fs : List FPair) : Prop := w.ownsRow base t 2 v fs.length (fs.flatMap cellsF)
theorem own_base {w : World} {base base' : Nat} {e : TypeId} {size n : Nat} {v : Value} {xs : List Value} (h : w.ownsRow base e size v n xs) (hb : base' ≤ base) : w.ownsRow base' e size v n xs := by
  refine ⟨h.1, ?_⟩
  rcases h.2 with h2 | ⟨g, cap, cur, hv, hg, r⟩
  · exact .inl h2
  · exact .inr ⟨g, cap, cur, hv, by omega, r⟩
theorem Flds.fr {t : TypeId} {a b : World} {S : Nat → Prop} {base : Nat} {v : Value} {fs : List FPair} (h : Flds t a base v fs) (hf : Fr a b S) (hg : ∀ g, S g → g < base) : Flds t b base v fs :=
  Fr.own hf h (fun g e hs => by have := (h.lt g e).1; have := hg g hs; omega)
theorem flds_nil (t : TypeId) (w : World) (base : Nat) : Flds t w base (.slice none 0 0) [] := World.ownsRow_nil _ _ _ _
theorem rd_two (w : World) (x y : Value) (t : TypeId) : Rd (w.alloc (.cells #[x, y] t)) 2 (some ⟨w.heap.size, 0, none⟩) 1 [x, y] := by
  refine ⟨by simp, fun _ => ⟨w.heap.size, 0, rfl, fun j u hu => ?_⟩⟩
  have := two_new w x y t j u hu
  have hadd : (⟨w.heap.size, 0, none⟩ : Addr).add j = ⟨w.heap.size, 0 + j, none⟩ := by unfold Addr.add; split <;> simp_all
  rw [hadd] at this
  exact this
theorem one_two' (x : Bs) (y : Int) : ∀ u ∈ [strV x, Value.int .i64 y], u.oneCell' = true := one_two _ _ rfl rfl
/-- white that is passed by -/
theorem fields_skip : ∀ (l : Bs) (p : Nat), fieldsD p l = fieldsD (p + (l.takeWhile (hasF whiteS)).length) (l.dropWhile (hasF whiteS)) := by
  intro l
  induction l with
  | nil => intro p; rfl
  | cons c l ih =>
    intro p
    cases hc : hasF whiteS c with
    | true =>
      obtain ⟨e1, e2⟩ := tw_cons (l := l) hc
      rw [e1, e2]
      have hc : whiteS.contains c = true := hc
      rw [white_iff] at hc
      rw [fields_white hc, ih, List.length_cons, show p + 1 + (l.takeWhile (hasF whiteS)).length = p + ((l.takeWhile (hasF whiteS)).length + 1) by omega]
    | false =>
      obtain ⟨e1, e2⟩ := tw_stop (f := hasF whiteS) (l := c :: l) hc
      rw [e1, e2]
      rfl
theorem drop_white (l : Bs) : l.dropWhile (hasF whiteS) = [] ∨ ∃ c r, l.dropWhile (hasF whiteS) = c :: r ∧ whiteB c = false := by
  induction l with
  | nil => exact .inl rfl
  | cons c l ih =>
    cases hc : hasF whiteS c with
    | true => rw [(tw_cons (l := l) hc).2]; exact ih
    | false =>
      rw [(tw_stop (f := hasF whiteS) (l := c :: l) hc).2]
      have hc : whiteS.contains c = false := hc
      rw [white_iff] at hc
      exact .inr ⟨c, l, rfl, hc⟩
/-- at the end of a line, or at a field -/
theorem starts_two {r : Bs} (h : r = [] ∨ ∃ c r', r = c :: r' ∧ whiteB c = false) : (startsD r = false ∧ ∀ q, fieldsD q r = .ok []) ∨ (startsD r = true ∧ ∃ c r', r = c :: r' ∧ stopB c = false) := by
  rcases h with rfl | ⟨c, r', rfl, hc⟩
  · exact .inl ⟨rfl, fields_nil⟩
  · by_cases h35 : c = 35
    · subst h35
      exact .inl ⟨rfl, fun q => fields_note q r'⟩
    · refine .inr ⟨?_, c, r', rfl, ?_⟩
      · show (!(c == 35)) = true
        simpa using h35
      · unfold stopB
        rw [hc]
        simpa using h35
/-- what Fields answers of a line that is not too long -/
def FieldsRan (t : TypeId) (g : Except Nat (List FPair)) (w : World) (e : Ending) (w' : World) : Prop :=
  match g with
  | .error k => e = .returned (.tuple #[.slice none 0 0, .int .i64 (k : Int), .int .i64 9]) ∧ Fr w w' (fun _ => False)
  | .ok fs => ∃ v, e = .returned (.tuple #[v, .int .i64 0, .int .i64 0]) ∧ Flds t w' w.heap.size v fs ∧ Fr w w' (fun _ => False)
def NInv (w : World) (s : ByteArray) (l : Bs) (g : Nat) (v2 : Value) (wr : World) : Prop :=
  ∃ (done : List FPair) (m : Bs) (q : Nat), m.length = g ∧ Flds 46 wr (w.heap.size + 1) v2 done ∧ RdAt wr w.heap.size s q m ∧ (fieldsD 0 l = (fieldsD q m).map fun x => done ++ x) ∧ Fr w wr (fun _ => False) ∧ done.length + m.length ≤ 200
theorem fresh_f {a b c : World} {g : Nat} (h : Fr a b (fun _ => False)) (k : Fr b c (· = g)) (hg : a.heap.size ≤ g) : Fr a c (fun _ => False) := h.fresh k (fun i e => by omega)
theorem Fields_long (s : ByteArray) (w : World) (h : 200 < s.size) (hz : s.size ≤ 1000000) : Calls Tryz.prog 12 #[.string s] w fun e w' => e = .returned (.tuple #[.slice none 0 0, .int .i64 0, .int .i64 17]) ∧ w = w' := by
  go_enter Tryz.func12, Tryz.ntmps12
  go_wp2_with fail
  go_ret3
  exact ⟨rfl, rfl⟩
set_option maxHeartbeats 1600000 in
theorem Fields_short (s : ByteArray) (l : Bs) (w : World) (hs : s.data.toList = l) (h : s.size ≤ 200) : Calls Tryz.prog 12 #[.string s] w (FieldsRan 46 (fieldsD 0 l) w) := by
  have hlen : l.length = s.size := by rw [← hs]; exact bytes_len s
  have hb := Blk.made w 54 #[.string s, .int .i64 0]
  have H0 := Lib.hid (show RdAt (w.alloc (.cells #[.string s, .int .i64 0] 54)) w.heap.size s 0 l from ⟨Nat.zero_le _, by simpa using hs, hb⟩)
  clear hb hs
  go_enter Tryz.func12, Tryz.ntmps12
  go_wp2_with fail
  go_loopg [2, 6, 7] l.length (fun g v2 _ _ wr => NInv w s l g v2 wr)
  case atStart => exact ⟨[], l, 0, rfl, flds_nil _ _ _, H0.out, by cases fieldsD 0 l <;> rfl, Fr.new _ _ _, by simp; omega⟩
  case round =>
    obtain ⟨done, m, q, hg, hfl, hrd, hpf, hfr, hdl⟩ := hrel
    have hlen1 := hrd.len
    obtain ⟨t, ht⟩ : ∃ t, m.takeWhile (hasF whiteS) = t := ⟨_, rfl⟩
    obtain ⟨r, hr⟩ : ∃ r, m.dropWhile (hasF whiteS) = r := ⟨_, rfl⟩
    have hsk := fields_skip m q
    have hdw := drop_white m
    have hlm : m.length = t.length + r.length := by
      have := congrArg List.length (tw_app (hasF whiteS) m)
      rw [ht, hr, List.length_append] at this
      exact this
    rw [ht, hr] at hsk
    rw [hr] at hdw
    have HPF := Lib.hid hpf
    have HFL := Lib.hid hfl
    have HFR := Lib.hid hfr
    have hws := hrd.lt
    obtain ⟨A2, c2, rfl⟩ := own_slice hfl
    rcases starts_two hdw with ⟨hx, hn⟩ | ⟨hx, c, r0, hc, hcs⟩
    · have HN := Lib.hid (find_any wr w.heap.size q s m hrd (by omega) t r ht hr false hx)
      have HQ := Lib.hid (hn (q + t.length))
      have HSK := Lib.hid hsk
      clear hpf hfl hfr ht hr hsk hdw hx hn hrd hlm hlen1
      go_wp2_with fail
      refine HN.out.mono ?_
      rintro e w2 ⟨rfl, hr2, hf2⟩
      go_wp2_with fail
      go_ret3
      rw [HPF.out, HSK.out, HQ.out]
      refine ⟨_, rfl, ?_, fresh_f HFR.out hf2 (Nat.le_refl _)⟩
      show Flds _ _ _ _ (done ++ [])
      rw [List.append_nil]
      exact own_base (HFL.out.fr hf2 (fun g e => by omega)) (Nat.le_succ _)
    · have HN := Lib.hid (find_any wr w.heap.size q s m hrd (by omega) t r ht hr true hx)
      obtain ⟨q2, hq2⟩ : ∃ q2 : Nat, q + t.length = q2 := ⟨_, rfl⟩
      rw [hq2] at HN hsk
      have HSK := Lib.hid hsk
      have hqs : q2 + r.length = s.size := by omega
      have HM := Lib.hid (fun W h => field_any W w.heap.size q2 s r h (by omega))
      subst hc
      rcases hgf : fieldD q2 (c :: r0) with k | ⟨x, r1⟩
      · have HQ := Lib.hid (fields_bad hcs q2 k r0 hgf)
        rw [hgf] at HM
        clear hpf hfl hfr ht hr hsk hdw hx hrd hlm hlen1 hgf hq2 hqs
        go_wp2_with fail
        refine HN.out.mono ?_
        rintro e w2 ⟨rfl, hr2, hf2⟩
        have HM2 := Lib.hid (HM.out w2 hr2)
        have HF2 := Lib.hid (fresh_f HFR.out hf2 (Nat.le_refl _))
        clear hr2 hf2
        go_wp2_with fail
        refine HM2.out.mono ?_
        rintro e w3 ⟨rfl, ⟨m3, hr3⟩, hf3⟩
        have HF3 := Lib.hid (fresh_f HF2.out hf3 (Nat.le_refl _))
        have c0' := (Fr.new w3 (fieldC [] 0) (fun _ => False)).cell0 (cell_at hr3.2.2 0)
        have c1' := (Fr.new w3 (fieldC [] 0) (fun _ => False)).cell0 (cell_at hr3.2.2 1)
        simp at c0' c1'
        clear hr3 hf3
        go_wp2_with fail
        go_quiet (fail)
        go_wp2_with fail
        go_ret3
        rw [HPF.out, HSK.out, HQ.out]
        exact ⟨rfl, ff (ff HF3.out (Fr.new _ _ _)) (Fr.drewN _ _ _)⟩
      · have HQ := Lib.hid (fields_one hcs q2 r0 x r1 hgf)
        obtain ⟨-, -, -, hlt⟩ := field_ok _ _ x r1 hgf
        have hlt := hlt ⟨c, r0, rfl, hcs⟩
        rw [hgf] at HM
        have hg2 : r1.length < gk := by omega
        have hd2 : done.length + 1 + r1.length ≤ 200 := by omega
        have HQS := Lib.hid hqs
        clear hpf hfl hfr ht hr hsk hdw hx hrd hlm hgf hlen1 hg hdl hq2 hqs hlen
        go_wp2_with fail
        refine HN.out.mono ?_
        rintro e w2 ⟨rfl, hr2, hf2⟩
        have HM2 := Lib.hid (HM.out w2 hr2)
        have HF2 := Lib.hid (fresh_f HFR.out hf2 (Nat.le_refl _))
        have HFL2 := Lib.hid (HFL.out.fr hf2 (fun g e => by omega))
        clear hr2 hf2
        go_wp2_with fail
        refine HM2.out.mono ?_
        rintro e w3 ⟨rfl, ⟨q3, hr3⟩, hf3⟩
        have hf4 := Fr.new w3 (fieldC x (q2 : Int)) (fun _ => False)
        have hf5 := ff hf4 (Fr.new (w3.alloc (fieldC x (q2 : Int))) (fieldC x (q2 : Int)) (fun _ => False))
        have HF5 := Lib.hid (ff (fresh_f HF2.out hf3 (Nat.le_refl _)) hf5)
        have HR5 := Lib.hid (hr3.fr hf5 (fun h => h))
        have HFL5 := Lib.hid ((HFL2.out.fr hf3 (fun g e => by omega)).fr hf5 (fun g e => e.elim))
        have hld := load_f (Blk.made w3 46 #[strV x, .int .i64 (q2 : Int)])
        have hs5 : w.heap.size + 1 ≤ ((w3.alloc (fieldC x (q2 : Int))).alloc (fieldC x (q2 : Int))).heap.size := by have := HR5.out.lt; omega
        have hrx := rd_two (w3.alloc (fieldC x (q2 : Int))) (strV x) (.int .i64 (q2 : Int)) 46
        rw [show (w3.alloc (fieldC x (q2 : Int))).heap.size = w3.heap.size + 1 by simp] at hrx
        have HRX := Lib.hid hrx
        obtain ⟨i0, hi0, hz0, hz1, hz2⟩ := info_parts infoF
        clear hr3 hf3 hf4 hf5 hrx
        go_wp2_with (at_builtin; refine wpList_append_rd _ rfl (.tmp 27) (.tmp 29) 41 rfl (w.heap.size + 1) 46 i0 _ 2 24 Tryz.underlying41 hi0 hz0 hz1 hz2 rfl (by decide) _ done.length _ rfl HFL5.out _ 1 1 [strV x, .int .i64 (q2 : Int)] rfl HRX.out (one_two' _ _) (by simp only [maxLen]; omega) (by omega) hs5 ?_; intro v7 w7 hown7 hg7 _)
        have hfl7 : Flds 46 w7 (w.heap.size + 1) v7 (done ++ [(x, q2)]) := by
          show World.ownsRow _ _ _ _ _ _ _
          simpa [cellsF] using hown7
        have hf7 := Fr.ofGrown hg7
        obtain ⟨A7, c7, rfl⟩ := own_slice hfl7
        have hge : ∀ k, some k = (Value.slice A2 done.length c2).ownBlock → w.heap.size + 1 ≤ k := fun k e => (HFL5.out.lt k e.symm).1
        go_roundg r1.length
        case measure => omega
        case rel =>
          have hr7 := HR5.out.fr hf7 (fun e => by have := hge _ e; omega)
          have hlen7 := hr7.len
          refine ⟨done ++ [(x, q2)], r1, q3, rfl, hfl7, hr7, ?_, HF5.out.fresh hf7 (fun i e => by have := hge _ e; omega), by simp; omega⟩
          rw [HPF.out, HSK.out, HQ.out, show q2 + ((c :: r0).length - r1.length) = q3 by have := HQS.out; omega]
          cases fieldsD q3 r1 with
          | error k => rfl
          | ok x => simp [Except.map]
end Go.Proofs.YtgcheollgnhdlaaGreatDoor.S7
namespace Go.Proofs.YtgcheollgnhdlaaGreatDoor.S7
open Go.RowKit Go.Mem Go.Lxr

theorem flat_at : ∀ {fs : List FPair} {k : Nat} {x : FPair}, fs[k]? = some x → (fs.flatMap cellsF)[k * 2]? = some (strV x.1) ∧ (fs.flatMap cellsF)[k * 2 + 1]? = some (.int .i64 (x.2 : Int))
  | [], k, x, h => by simp at h
  | y :: fs, 0, x, h => by simp at h; subst h; exact ⟨rfl, rfl⟩
  | y :: fs, k + 1, x, h => by
    have ih := flat_at (fs := fs) (k := k) (x := x) (by simpa using h)
    rw [List.flatMap_cons, show (k + 1) * 2 = k * 2 + 2 by omega]
    exact ih
/-- the slice at A holds these fields -/
def FdAt (w : World) (A : Option Addr) (fs : List FPair) : Prop := Rd w 2 A fs.length (fs.flatMap cellsF)
theorem FdAt.at_ {w : World} {A : Option Addr} {fs : List FPair} (h : FdAt w A fs) {k : Nat} (hk : k < fs.length) : ∃ b off x, A = some ⟨b, off, none⟩ ∧ fs[k]? = some x ∧ w.cell? ⟨b, off + k * 2, none⟩ = some (strV x.1) ∧ w.cell? ⟨b, off + k * 2 + 1, none⟩ = some (.int .i64 (x.2 : Int)) := by
  obtain ⟨b, off, e, hc⟩ := h.2 (by omega)
  have hx := List.getElem?_eq_getElem hk
  obtain ⟨h1, h2⟩ := flat_at hx
  exact ⟨b, off, _, e, hx, hc _ _ h1, hc _ _ h2⟩
theorem FdAt.fr {w w' : World} {A : Option Addr} {fs : List FPair} (h : FdAt w A fs) (hf : Fr w w' (fun _ => False)) : FdAt w' A fs := Rd.fr h hf (fun _ _ _ _ h => h)
theorem Flds.rd {t : TypeId} {w : World} {base : Nat} {v : Value} {fs : List FPair} (h : Flds t w base v fs) : ∃ A c, v = .slice A fs.length c ∧ FdAt w A fs := by
  obtain ⟨A, c, h1, h2, h3, h4, -⟩ := own_rd h
  exact ⟨A, c, h1, h4⟩
end Go.Proofs.YtgcheollgnhdlaaGreatDoor.S7
namespace Go.Proofs.YtgcheollgnhdlaaGreatDoor.S7
open Go.RowKit Go.Mem Go.Lxr

theorem fields_len : ∀ (l : Bs) (p : Nat) (fs : List FPair), fieldsD p l = .ok fs → fs.length ≤ l.length := by
  refine fields_ind ?_ ?_ ?_ ?_ ?_
  · intro p fs h
    rw [fields_nil] at h
    injection h with h
    subst h
    simp
  · intro p r fs h
    rw [fields_note] at h
    injection h with h
    subst h
    simp
  · intro p c r hw ih fs h
    rw [fields_white hw] at h
    have := ih fs h
    simp
    omega
  · intro p c r k hs hf fs h
    rw [fields_bad hs p k r hf] at h
    cases h
  · intro p c r t r' hs hf hlt ih fs h
    rw [fields_one hs p r t r' hf] at h
    cases hg : fieldsD (p + ((c :: r).length - r'.length)) r' with
    | error j => rw [hg] at h; cases h
    | ok x =>
      rw [hg] at h
      injection h with h
      subst h
      have := ih x hg
      simp at hlt ⊢
      omega
/-- what Fields answers -/
def fieldsO (l : Bs) : List FPair × Int × Int := if 200 < l.length then ([], 0, 17) else match fieldsD 0 l with
  | .error k => ([], (k : Int), 9)
  | .ok fs => (fs, 0, 0)
theorem fieldsO_len (l : Bs) : (fieldsO l).1.length ≤ 200 := by
  unfold fieldsO
  split
  · simp
  · split
    · simp
    · rename_i fs h
      have := fields_len _ _ _ h
      show fs.length ≤ 200
      omega
def FOut (o : List FPair × Int × Int) (w : World) (e : Ending) (w' : World) : Prop :=
  ∃ A c, e = .returned (.tuple #[.slice A o.1.length c, .int .i64 o.2.1, .int .i64 o.2.2]) ∧ FdAt w' A o.1 ∧ Fr w w' (fun _ => False)
theorem fout_of {t : TypeId} {l : Bs} {w : World} {e : Ending} {w' : World} (hl : ¬ 200 < l.length) (h : FieldsRan t (fieldsD 0 l) w e w') : FOut (fieldsO l) w e w' := by
  unfold fieldsO
  rw [if_neg hl]
  cases hf : fieldsD 0 l with
  | error k =>
    rw [hf] at h
    obtain ⟨rfl, h2⟩ := h
    exact ⟨none, 0, rfl, Rd.zero _ _ _, h2⟩
  | ok fs =>
    rw [hf] at h
    obtain ⟨v, rfl, hv, h2⟩ := h
    obtain ⟨A, c, rfl, hr⟩ := hv.rd
    exact ⟨A, c, rfl, hr, h2⟩
theorem Fields_any (s : ByteArray) (w : World) (hz : s.size ≤ 1000000) : Calls Tryz.prog 12 #[.string s] w (FOut (fieldsO s.data.toList) w) := by
  have hb := bytes_len s
  by_cases h : 200 < s.size
  · refine (Fields_long s w h hz).mono ?_
    rintro e w' ⟨rfl, rfl⟩
    unfold fieldsO
    rw [if_pos (by omega)]
    exact ⟨none, 0, rfl, Rd.zero _ _ _, Fr.refl _ _⟩
  · exact (Fields_short s _ w rfl (by omega)).mono fun e w' h2 => fout_of (by omega) h2
end Go.Proofs.YtgcheollgnhdlaaGreatDoor.S7
