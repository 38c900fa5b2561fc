import Derived.Test.YtgcheollgnhdlaaGreatDoorS7Lfc
import Derived.Lib.OthersKept
import Derived.Laws.Runes
import Derived.Laws.RangeAny
import Derived.WalkMore
import Derived.SliceStrings
namespace Go.Proofs.YtgcheollgnhdlaaGreatDoor.S7
open Go.RowKit Go.Mem Go.Lxr

/-- bytes below 128 alone -/
def Asc (s : ByteArray) : Prop := ∀ (j : Nat) b, s.data.toList[j]? = some b → b.toNat < 128
theorem asc_at {s : ByteArray} (h : Asc s) {i : Nat} (hi : i < s.size) : (s[i]'hi).toNat < 128 := h i _ (Lib.data_getElem? s i hi)
theorem fr_iter (w : World) (s : ByteArray) (p : Nat) : Fr w (w.iter s p) (fun _ => False) := Fr.new w _ _
set_option maxRecDepth 1000000 in
set_option maxHeartbeats 1600000 in
theorem rune_error (chars : ByteArray) (w : World) (h : Asc chars) (_hz : chars.size ≤ 1000) : Calls Tryz.prog 81 #[.string chars, .int .i32 65533] w fun e w' => e = .returned (.int .i64 (-1)) ∧ Fr w w' (fun _ => False) := by
  have HA := Lib.hid h
  clear h
  go_enter Tryz.func81, Tryz.ntmps81
  go_wp2_with fail
  go_loopg [5, 6] chars.size (fun g _ _ wx => ∃ i : Nat, i + g = chars.size ∧ wx = w.iter chars i)
  case atStart => exact ⟨0, by omega, rfl⟩
  case round =>
    obtain ⟨i, hig, rfl⟩ := hrel
    by_cases hi : i < chars.size
    · obtain ⟨x, hx⟩ : ∃ x : UInt8, chars[i]'hi = x := ⟨_, rfl⟩
      have hx128 : x.toNat < 128 := by rw [← hx]; exact asc_at HA.out hi
      have hnx := fun ty => run_next_ascii (P := Tryz.prog) w chars i ty hi (by rw [hx]; exact hx128)
      rw [hx] at hnx
      have hne : ((x.toNat : Int) == 65533) = false := by simp; omega
      clear hx
      go_wp2_with fail
      go_roundg (chars.size - (i + 1))
      case measure => omega
      case rel => exact ⟨i + 1, by omega, rfl⟩
    · obtain rfl : i = chars.size := by omega
      have hnx := run_next_end (P := Tryz.prog) w chars chars.size
      go_wp2_with fail
      go_ret
      exact ⟨rfl, fr_iter _ _ _⟩
theorem run_sl_lo {P : Program} (w : World) (t : TypeId) (ht : P.underlying t = some .string) (s X : ByteArray) (x : Int) (a : Nat) (hx : x = (a : Int)) (ha : a ≤ s.size) (h : s.extract a s.size = X) :
    (Instr.slice t (.string s) (some (.int .i64 x)) none none).run P w = .ok (.string X) w := by
  subst hx
  rw [run_slice_string_l (P := P) w t s ht .i64 (a : Int) (by omega) (by omega)]
  simp only [Int.toNat_natCast]
  rw [h]
set_option maxRecDepth 1000000 in
set_option maxHeartbeats 3200000 in
theorem rune_high (chars : ByteArray) (r : Int) (w : World) (h : Asc chars) (h4 : 4 ≤ chars.size) (hz : chars.size ≤ 1000) (hr : 128 ≤ r) (hv : Utf8.valid r = true) (hne : (r == 65533) = false) : Calls Tryz.prog 81 #[.string chars, .int .i32 r] w fun e w' => e = .returned (.int .i64 (-1)) ∧ Fr w w' (fun _ => False) := by
  obtain ⟨n2, n4, hlast⟩ := encode_facts r hv hr
  obtain ⟨E, hE⟩ : ∃ E, Utf8.encode r = E := ⟨_, rfl⟩
  rw [hE] at n2 n4
  simp only [hE] at hlast
  have hV := Lib.hid (Tryz.utf8_ValidRune r w)
  rw [show Lib.validRune r = true by rw [validRune_eq] at hv; exact hv] at hV
  have hconv := fun w => run_convert_int_string (P := Tryz.prog) w 21 9 .i32 r (by rw [Tryz.underlying21]; rfl) Tryz.underlying9
  rw [hE] at hconv
  obtain ⟨k, hk⟩ : ∃ k, E.size = k + 1 := ⟨E.size - 1, by omega⟩
  have hkE : k < E.size := by omega
  have hkc : k < chars.size := by omega
  have hl : 128 ≤ (E[k]'hkE).toNat := by
    have := hlast (by omega)
    have e : E.size - 1 = k := by omega
    simp only [e] at this
    exact this
  have hc := asc_at h hkc
  have hx : (((chars[k]'hkc).toNat : Int) == ((E[k]'hkE).toNat : Int)) = false := by simp; omega
  obtain ⟨X, hX⟩ : ∃ X, chars.extract (k + 1) chars.size = X := ⟨_, rfl⟩
  have hsl := fun w => run_sl_lo (P := Tryz.prog) w 9 Tryz.underlying9 chars X ((k : Int) + 1) (k + 1) (by omega) (by omega) hX
  obtain ⟨o, ho⟩ : ∃ o, Lib.indexByte X.data.toList (E[k]'hkE) = o := ⟨_, rfl⟩
  have ho2 : o < 0 := by
    have := Lib.contains_iff_indexByte X.data.toList (E[k]'hkE)
    rw [ho] at this
    have hn : X.data.toList.contains (E[k]'hkE) = false := by
      rw [← Bool.not_eq_true]
      intro e
      have e := List.elem_iff.1 e
      rw [← hX] at e
      obtain ⟨j, hj, e⟩ := List.getElem_of_mem (mem_extract e)
      have := h j _ (List.getElem?_eq_getElem hj)
      rw [e] at this
      omega
    rw [hn] at this
    have := of_decide_eq_false this.symm
    omega
  have HI := Lib.hid (fun w => Tryz.strings_IndexByte X ((E[k]'hkE).toNat : Int) w)
  rw [show (((E[k]'hkE).toNat : Int)).toNat.toUInt8 = E[k]'hkE by simp, ho] at HI
  have hs : (E.size : Int) - 1 = (k : Int) := by omega
  have i0 : (0 : Int) ≤ (k : Int) := by omega
  have i1 : (k : Int) < (chars.size : Int) := by omega
  have i2 : (k : Int) < (E.size : Int) := by omega
  have i3 : IntKind.i64.wrap ((k : Int) + 1) = (k : Int) + 1 := wrap_small _ (by omega) (by omega)
  have t0 : (0 : Int) ≤ r := by omega
  have t1 : ¬ (r < 128) := by omega
  clear hlast hE hk ho hl hc hX hv n2 n4
  go_enter Tryz.func81, Tryz.ntmps81
  go_wp2_with fail
  refine hV.out.mono ?_
  rintro e w2 ⟨rfl, rfl⟩
  go_wp2_with fail
  go_step3
  go_wp2_with fail
  go_loopg [9, 10, 11, 12] 0 (fun g v9 v10 _ _ wr => wr = w2 ∧ v9 = .int .i64 (k : Int) ∧ v10 = .int .i64 0)
  case atStart => exact ⟨rfl, rfl, rfl⟩
  case round =>
    obtain ⟨rfl, rfl, rfl⟩ := hrel
    go_wp2_with fail
    go_step3
    go_wp2_with fail
    go_quiet (fail)
    go_wp2_with fail
    go_quiet ((go_at_call 49; exact (HI.out _).mono (fun e w' h => ⟨h.1, _, h.2⟩)))
    go_wp2_with fail
    change bodyPost Tryz.prog Tryz.f81 (fun e w' => e = .returned (.int .i64 (-1)) ∧ Fr wr w' (fun _ => False)) Exit.ret _ _
    go_ret
    exact ⟨rfl, Fr.drewN _ _ _⟩
end Go.Proofs.YtgcheollgnhdlaaGreatDoor.S7
namespace Go.Proofs.YtgcheollgnhdlaaGreatDoor.S7
open Go.RowKit Go.Mem Go.Lxr

theorem get_of {s : ByteArray} {j : Nat} {b : UInt8} (h : s.data.toList[j]? = some b) : s.get! j = b := by
  obtain ⟨h1, h2⟩ := List.getElem?_eq_some_iff.1 h
  have h1' : j < s.size := by rw [bytes_len] at h1; exact h1
  have := get_at s j h1'
  rw [Nat.add_zero] at this
  rw [this]
  exact h2
/-- a rune that begins at a byte of 128 or more -/
theorem decode_step (s : ByteArray) (pos : Nat) (h : pos < s.size) (ha : 128 ≤ (s[pos]'h).toNat) :
    Utf8.valid ((Utf8.decode s pos).1 : Int) = true ∧ 1 ≤ (Utf8.decode s pos).2 ∧ pos + (Utf8.decode s pos).2 ≤ s.size ∧ ∀ k, k < (Utf8.decode s pos).2 → ∀ b, s.data.toList[pos + k]? = some b → 128 ≤ b.toNat := by
  have hn : ¬ (s[pos]'h).toNat < 128 := by omega
  have hz : ∀ b, s.data.toList[pos + 0]? = some b → 128 ≤ b.toNat := fun b hb => by
    have := get_of hb
    rw [get_at s pos h] at this
    rw [← this]
    exact ha
  have herr : Utf8.valid ((Utf8.runeError : Nat) : Int) = true := by decide
  have hc : ∀ k, (s.get! (pos + k)).toNat / 64 = 2 → ∀ b, s.data.toList[pos + k]? = some b → 128 ≤ b.toNat := fun k hk b hb => by
    rw [get_of hb] at hk
    omega
  simp only [Utf8.decode, get_at s pos h, hn, if_false]
  split
  · rename_i h2
    simp only [Bool.and_eq_true, beq_iff_eq, decide_eq_true_eq] at h2
    split
    · rename_i h3
      refine ⟨?_, by simp, by simp; omega, fun k hk b hb => ?_⟩
      · unfold Utf8.valid
        have := (s[pos]'h).toNat_lt
        simp
        omega
      · have hk : k < 2 := hk
        rcases Nat.eq_zero_or_pos k with rfl | hk0
        · exact hz b hb
        · obtain rfl : k = 1 := by omega
          exact hc 1 h2.2.2 b hb
    · exact ⟨herr, by simp, by simp; omega, fun k hk b hb => by
        have hk : k < 1 := hk
        obtain rfl : k = 0 := by omega
        exact hz b hb⟩
  · split
    · rename_i h2
      simp only [Bool.and_eq_true, beq_iff_eq, decide_eq_true_eq] at h2
      split
      · rename_i h3
        simp only [Bool.and_eq_true] at h3
        refine ⟨h3.2, by simp, by simp; omega, fun k hk b hb => ?_⟩
        have hk : k < 3 := hk
        rcases Nat.eq_zero_or_pos k with rfl | hk0
        · exact hz b hb
        · rcases (show k = 1 ∨ k = 2 by omega) with rfl | rfl
          · exact hc 1 h2.1.2.2 b hb
          · exact hc 2 h2.2.2 b hb
      · exact ⟨herr, by simp, by simp; omega, fun k hk b hb => by
          have hk : k < 1 := hk
          obtain rfl : k = 0 := by omega
          exact hz b hb⟩
    · split
      · rename_i h2
        simp only [Bool.and_eq_true, beq_iff_eq, decide_eq_true_eq] at h2
        split
        · rename_i h3
          simp only [Bool.and_eq_true] at h3
          refine ⟨h3.2, by simp, by simp; omega, fun k hk b hb => ?_⟩
          have hk : k < 4 := hk
          rcases Nat.eq_zero_or_pos k with rfl | hk0
          · exact hz b hb
          · rcases (show k = 1 ∨ k = 2 ∨ k = 3 by omega) with rfl | rfl | rfl
            · exact hc 1 h2.1.1.2.2 b hb
            · exact hc 2 h2.1.2.2 b hb
            · exact hc 3 h2.2.2 b hb
        · exact ⟨herr, by simp, by simp; omega, fun k hk b hb => by
            have hk : k < 1 := hk
            obtain rfl : k = 0 := by omega
            exact hz b hb⟩
      · exact ⟨herr, by simp, by simp; omega, fun k hk b hb => by
          have hk : k < 1 := hk
          obtain rfl : k = 0 := by omega
          exact hz b hb⟩
/-- no byte of chars is in a rune of bytes of 128 and more -/
theorem noany_skip {s chars : ByteArray} {i n : Nat} (hc : Asc chars) (h : Lib.NoAny s.data.toList chars.data.toList i) (hk : ∀ k, k < n → ∀ b, s.data.toList[i + k]? = some b → 128 ≤ b.toNat) : Lib.NoAny s.data.toList chars.data.toList (i + n) := by
  intro j b hj hb
  by_cases hji : j < i
  · exact h j b hji hb
  · have := hk (j - i) (by omega) b (by rw [show i + (j - i) = j by omega]; exact hb)
    rw [← Bool.not_eq_true]
    intro e
    have e := List.elem_iff.1 e
    obtain ⟨m, hm, e⟩ := List.getElem_of_mem e
    have := hc m _ (List.getElem?_eq_getElem hm)
    rw [e] at this
    omega
theorem rune_any (chars : ByteArray) (r : Int) (w : World) (h : Asc chars) (h4 : 4 ≤ chars.size) (hz : chars.size ≤ 1000) (hr : 128 ≤ r) (hv : Utf8.valid r = true) : Calls Tryz.prog 81 #[.string chars, .int .i32 r] w fun e w' => e = .returned (.int .i64 (-1)) ∧ Fr w w' (fun _ => False) := by
  by_cases e : r = 65533
  · subst e
    exact rune_error chars w h hz
  · exact rune_high chars r w h h4 hz hr hv (by simpa using e)
end Go.Proofs.YtgcheollgnhdlaaGreatDoor.S7
namespace Go.Proofs.YtgcheollgnhdlaaGreatDoor.S7
open Go.RowKit Go.Mem Go.Lxr Go.Lib

theorem fr_iterAt (w : World) (k : Nat) (s : ByteArray) (p : Nat) : Fr w (w.iterAt k s p) (· = k) := by
  refine ⟨rfl, rfl, rfl, by simp [World.iterAt], fun j _ hk => ?_⟩
  have : k ≠ j := fun e => hk e.symm
  simp [World.iterAt, this]
def SInv (w : World) (s chars : ByteArray) (g : Nat) (wx : World) : Prop := ∃ i : Nat, i + g = s.size ∧ wx.heap[w.heap.size]? = some (.stringIter s i) ∧ Fr w wx (fun _ => False) ∧ Lib.NoAny s.data.toList chars.data.toList i
set_option maxRecDepth 1000000 in
set_option maxHeartbeats 8000000 in
theorem index_short (s chars : ByteArray) (w : World) (hc : Asc chars) (h4 : 4 ≤ chars.size) (hz : chars.size ≤ 1000) (h8 : s.size ≤ 8) :
    Calls Tryz.prog 50 #[.string s, .string chars] w fun e w' => e = .returned (.int .i64 (Lib.indexAny s.data.toList chars.data.toList)) ∧ Fr w w' (fun _ => False) := by
  have hemp : chars.toList.isEmpty = false := by
    rw [Lib.toList_data]
    cases h : chars.data.toList with
    | nil => have := Lib.size_eq chars; rw [h, List.length_nil] at this; omega
    | cons _ _ => rfl
  have hn1 : ((chars.size : Int) == 1) = false := beq_eq_false_iff_ne.2 (by omega)
  have h8z : decide ((8 : Int) < (s.size : Int)) = false := decide_eq_false (by omega)
  have HU := Lib.hid (Tryz.strings_shouldUseASCIISet (s.size : Int) w)
  rw [h8z] at HU
  go_enter Tryz.func50, Tryz.ntmps50
  go_wp2_with fail
  refine HU.out.mono ?_
  rintro e w2 ⟨rfl, rfl⟩
  go_wp2_with fail
  go_loopg [9, 10] s.size (fun g _ _ wx => SInv w2 s chars g wx)
  case atStart => exact ⟨0, by omega, World.iter_heap w2 s 0, fr_iter w2 s 0, Lib.NoAny.zero _ _⟩
  case round =>
    obtain ⟨i, hig, hit, hfr, hno⟩ := hrel
    have HN := Lib.hid hno
    have HF := Lib.hid hfr
    have HIT := Lib.hid hit
    have hks := hfr.size
    clear hno hfr
    by_cases hi : i < s.size
    · obtain ⟨x, hx⟩ : ∃ x : UInt8, s[i]'hi = x := ⟨_, rfl⟩
      have hxl : s.data.toList[i]? = some x := by rw [← hx]; exact Lib.data_getElem? s i hi
      have HX := Lib.hid hxl
      by_cases h128 : x.toNat < 128
      · have hnx := fun ty => run_next_ascii_at (P := Tryz.prog) wr w2.heap.size s i ty hit hi (by rw [hx]; exact h128)
        rw [hx] at hnx
        have HR := Lib.hid (fun W => Tryz.strings_IndexRune_ascii chars (x.toNat : Int) W (by omega) (by omega))
        rw [show ((x.toNat : Int)).toNat.toUInt8 = x by simp] at HR
        have hcon := Lib.contains_iff_indexByte chars.data.toList x
        obtain ⟨o, ho⟩ : ∃ o, Lib.indexByte chars.data.toList x = o := ⟨_, rfl⟩
        rw [ho] at HR hcon
        have HI2 := Lib.hid (iterAt_heap wr w2.heap.size s i (i + 1) hit)
        have HF2 := Lib.hid (HF.out.fresh (fr_iterAt wr w2.heap.size s (i + 1)) (fun j e => by omega))
        cases hin : chars.data.toList.contains x with
        | false =>
          rw [hin] at hcon
          have ho2 : ¬ (0 ≤ o) := of_decide_eq_false hcon.symm
          have HIN := Lib.hid hin
          clear hcon hxl hx ho hin hit
          go_wp2_with fail
          refine (HR.out _).mono ?_
          rintro e w3 ⟨rfl, rfl⟩
          go_wp2_with fail
          go_roundg (s.size - (i + 1))
          case measure => omega
          case rel => exact ⟨i + 1, by omega, HI2.out, HF2.out, HN.out.succ HX.out HIN.out⟩
        | true =>
          rw [hin] at hcon
          have ho2 : 0 ≤ o := of_decide_eq_true hcon.symm
          have HIN := Lib.hid hin
          clear hcon hxl hx ho hin hit
          go_wp2_with fail
          refine (HR.out _).mono ?_
          rintro e w3 ⟨rfl, rfl⟩
          go_wp2_with fail
          go_ret
          exact ⟨by rw [Lib.indexAny_hit HN.out HX.out HIN.out]; rfl, HF2.out⟩
      · obtain ⟨v1, v2, v3, v4⟩ := decode_step s i hi (by rw [hx]; omega)
        obtain ⟨v5, -⟩ := decode_high s i hi (by rw [hx]; omega)
        have hnx := fun ty => run_next_any_at (P := Tryz.prog) wr w2.heap.size s i ty hit hi
        have HNS := Lib.hid (noany_skip hc HN.out v4)
        generalize Utf8.decode s i = D at *
        obtain ⟨r, n⟩ := D
        simp only at hnx v1 v2 v3 HNS v5
        have HR := Lib.hid (fun W => rune_any chars (r : Int) W hc h4 hz (by omega) v1)
        have HI2 := Lib.hid (iterAt_heap wr w2.heap.size s i (i + n) hit)
        have HF2 := Lib.hid (HF.out.fresh (fr_iterAt wr w2.heap.size s (i + n)) (fun j e => by omega))
        clear hxl hx hit v1 v4
        go_wp2_with fail
        refine (HR.out _).mono ?_
        rintro e w3 ⟨rfl, hf3⟩
        have HF3 := Lib.hid hf3
        clear hf3
        go_wp2_with fail
        go_roundg (s.size - (i + n))
        case measure => omega
        case rel => exact ⟨i + n, by omega, (HF3.out.block _ (Array.getElem?_eq_some_iff.1 HI2.out).1 (fun h => h)).trans HI2.out, ff HF2.out HF3.out, HNS.out⟩
    · obtain rfl : i = s.size := by omega
      have hnx := fun ty => run_next_end_at (P := Tryz.prog) wr w2.heap.size s s.size ty hit (by omega)
      clear hit
      go_wp2_with fail
      go_ret
      exact ⟨by rw [Lib.indexAny_none (by rw [← Lib.size_eq]; exact HN.out)]; rfl, HF.out⟩
end Go.Proofs.YtgcheollgnhdlaaGreatDoor.S7
namespace Go.Proofs.YtgcheollgnhdlaaGreatDoor.S7
open Go.RowKit Go.Mem Go.Lxr

theorem contains_any (chars : Bs) : ∀ s : Bs, decide (0 ≤ Lib.indexAny s chars) = s.any (fun b => chars.contains b)
  | [] => rfl
  | b :: s => by
    have ih := contains_any chars s
    have hge := Lib.indexAny_ge chars s
    rw [List.any_cons, ← ih]
    have hd : Lib.indexAny (b :: s) chars = if chars.contains b then 0 else if Lib.indexAny s chars == -1 then -1 else Lib.indexAny s chars + 1 := by rw [Lib.indexAny]
    rw [hd]
    generalize Lib.indexAny s chars = o at *
    cases chars.contains b with
    | true => simp
    | false =>
      simp only [Bool.false_eq_true, if_false, Bool.false_or]
      by_cases h : o = -1
      · subst h; rfl
      · have h1 : (o == -1) = false := by simpa using h
        rw [h1]
        simp only [Bool.false_eq_true, if_false]
        rw [Bool.eq_iff_iff, decide_eq_true_iff, decide_eq_true_iff]
        omega
abbrev quoteS : Bs := [34]
abbrev endsS : Bs := [9, 10, 11, 12, 13, 32, 35]
theorem ends_iff (c : UInt8) : endsS.contains c = stopB c := by
  have h : ∀ k : Fin 256, endsS.contains (UInt8.ofNat k.val) = stopB (UInt8.ofNat k.val) := by decide +kernel
  have := h ⟨c.toNat, c.toNat_lt⟩
  simpa using this
theorem asc_of {l : Bs} (h : ∀ b ∈ l, b.toNat < 128) : Asc ⟨l.toArray⟩ := fun _ b hb => h b (List.mem_of_getElem? hb)
theorem zero_set : ∀ w, (zeroValue 116).run Tryz.prog w = .ok (.agg (Array.replicate 256 (.bool false))) w := (zero_of_info (P := Tryz.prog) (t := 116) (n := 256) (by kernel_rfl)).1
theorem index_quote (s : ByteArray) (w : World) : Calls Tryz.prog 50 #[.string s, strV quoteS] w fun e w' => e = .returned (.int .i64 (Lib.indexAny s.data.toList quoteS)) ∧ Fr w w' (fun _ => False) :=
  (Tryz.strings_IndexAny_one s ⟨quoteS.toArray⟩ w rfl (asc_of (by decide))).mono fun e w' ⟨h1, h2⟩ => ⟨h1, by rw [h2]; exact Fr.refl _ _⟩
theorem index_ends (s : ByteArray) (hs : s.size ≤ 1000000) (w : World) : Calls Tryz.prog 50 #[.string s, strV endsS] w fun e w' => e = .returned (.int .i64 (Lib.indexAny s.data.toList endsS)) ∧ Fr w w' (fun _ => False) := by
  by_cases h8 : s.size ≤ 8
  · exact index_short s ⟨endsS.toArray⟩ w (asc_of (by decide)) (by decide) (by decide) h8
  · refine (Tryz.strings_IndexAny_long zero_set s ⟨endsS.toArray⟩ w (by decide) (by omega) (by omega) (by decide) (asc_of (by decide))).mono ?_
    rintro e w' ⟨h1, rfl⟩
    exact ⟨h1, ff (Fr.new _ _ _) (Fr.new _ _ _)⟩
/-- what set.isIn asks -/
theorem isIn_of (S : Bs) (s : ByteArray) (w : World) (x : Bool) (hx : s.data.toList.any (fun b => S.contains b) = x) (h : ∀ w, Calls Tryz.prog 50 #[.string s, strV S] w fun e w' => e = .returned (.int .i64 (Lib.indexAny s.data.toList S)) ∧ Fr w w' (fun _ => False)) :
    Calls Tryz.prog 21 #[strV S, .string s] w fun e w' => e = .returned (.bool x) ∧ Fr w w' (fun _ => False) := by
  have HC : ∀ w, Calls Tryz.prog 33 #[.string s, strV S] w fun e w' => e = .returned (.bool x) ∧ Fr w w' (fun _ => False) := by
    intro w
    have HI := Lib.hid (h w)
    have HX := Lib.hid (contains_any S s.data.toList)
    rw [hx] at HX
    generalize Lib.indexAny s.data.toList S = o at HI HX
    clear h hx
    go_enter Tryz.func33, Tryz.ntmps33
    go_wp2_with fail
    refine HI.out.mono ?_
    rintro e w2 ⟨rfl, hf2⟩
    have HF2 := Lib.hid hf2
    clear hf2
    go_wp2_with fail
    go_ret
    exact ⟨by rw [← HX.out]; rfl, HF2.out⟩
  have HC := Lib.hid HC
  clear h hx
  go_enter Tryz.func21, Tryz.ntmps21
  go_wp2_with fail
  refine (HC.out w).mono ?_
  rintro e w2 ⟨rfl, hf2⟩
  have HF2 := Lib.hid hf2
  clear hf2
  go_wp2_with fail
  go_ret
  exact ⟨rfl, HF2.out⟩
theorem isIn_quote (l : Bs) (w : World) (x : Bool) (hx : l.contains 34 = x) : Calls Tryz.prog 21 #[strV quoteS, strV l] w fun e w' => e = .returned (.bool x) ∧ Fr w w' (fun _ => False) := by
  refine isIn_of quoteS ⟨l.toArray⟩ w x ?_ (fun w => index_quote _ w)
  show l.any (fun b => quoteS.contains b) = x
  rw [← hx, List.contains_eq_any_beq]
  congr 1
  funext b
  rw [one_iff]
  exact Bool.beq_comm
theorem isIn_ends (l : Bs) (hl : l.length ≤ 1000000) (w : World) (x : Bool) (hx : l.any stopB = x) : Calls Tryz.prog 21 #[strV endsS, strV l] w fun e w' => e = .returned (.bool x) ∧ Fr w w' (fun _ => False) := by
  refine isIn_of endsS ⟨l.toArray⟩ w x ?_ (fun w => index_ends _ (by rw [str_size]; exact hl) w)
  show l.any (fun b => endsS.contains b) = x
  rw [← hx]
  congr 1
  funext b
  exact ends_iff b
/-- a field as it is shown -/
theorem shown_any (l : Bs) (hl : l.length ≤ 1000) (w : World) : Calls Tryz.prog 22 #[strV l] w fun e w' => e = .returned (strV (showOne l)) ∧ Fr w w' (fun _ => False) := by
  obtain ⟨x, hx⟩ : ∃ x, l.any stopB = x := ⟨_, rfl⟩
  have HI := Lib.hid (isIn_ends l (by omega) w x hx)
  have hz := str_size l
  have hadd1 := fun w => run_add_str (P := Tryz.prog) w [34] l (by simp; omega)
  obtain ⟨q, hq⟩ : ∃ q, ([34] ++ l : Bs) = q := ⟨_, rfl⟩
  have hql : q.length = l.length + 1 := by rw [← hq]; simp
  have hadd2 := fun w => run_add_str (P := Tryz.prog) w q [34] (by simp; omega)
  rw [hq] at hadd1
  obtain ⟨t, ht⟩ : ∃ t, q ++ [34] = t := ⟨_, rfl⟩
  rw [ht] at hadd2
  have hqt : t = 34 :: (l ++ [34]) := by rw [← ht, ← hq]; simp
  cases l with
  | nil =>
    have HS := Lib.hid (show showOne [] = t by rw [hqt]; rfl)
    clear hq ht hqt hql hx
    go_enter Tryz.func22, Tryz.ntmps22
    go_wp2_with fail
    go_ret
    exact ⟨by rw [HS.out]; rfl, Fr.refl _ _⟩
  | cons c r =>
    have e0 : ((c :: r : Bs) == []) = false := rfl
    cases x with
    | true =>
      have HS := Lib.hid (show showOne (c :: r) = t by rw [hqt]; unfold showOne quotedB; rw [hx]; simp)
      clear hq ht hqt hql hx
      generalize c :: r = l at *
      go_enter Tryz.func22, Tryz.ntmps22
      go_wp2_with fail
      refine HI.out.mono ?_
      rintro e w2 ⟨rfl, hf2⟩
      have HF2 := Lib.hid hf2
      clear hf2
      go_wp2_with fail
      go_ret
      exact ⟨by rw [HS.out]; rfl, HF2.out⟩
    | false =>
      have HS := Lib.hid (show showOne (c :: r) = c :: r by unfold showOne quotedB; rw [hx]; simp)
      clear hq ht hqt hql hx
      generalize c :: r = l at *
      go_enter Tryz.func22, Tryz.ntmps22
      go_wp2_with fail
      refine HI.out.mono ?_
      rintro e w2 ⟨rfl, hf2⟩
      have HF2 := Lib.hid hf2
      clear hf2
      go_wp2_with fail
      go_ret
      exact ⟨by rw [HS.out]; rfl, HF2.out⟩
end Go.Proofs.YtgcheollgnhdlaaGreatDoor.S7
namespace Go.Proofs.YtgcheollgnhdlaaGreatDoor.S7
open Go.RowKit Go.Mem Go.Lxr

theorem take_snoc' {α : Type} {ls : List α} {k : Nat} {x : α} (h : ls[k]? = some x) : ls.take (k + 1) = ls.take k ++ [x] := by
  obtain ⟨h1, h2⟩ := List.getElem?_eq_some_iff.1 h
  rw [List.take_succ_eq_append_getElem h1, h2]

/-- a slice of texts at a place -/
theorem strs_at {w : World} {A : Option Addr} {n : Nat} {ls : List Bs} (h : Rd w 1 A n (ls.map strV)) {k : Nat} (hk : k < n) :
    ∃ b off x, A = some ⟨b, off, none⟩ ∧ ls[k]? = some x ∧ w.cell? ⟨b, off + k, none⟩ = some (strV x) := by
  obtain ⟨b, off, u, e, hu, hc⟩ := h.at_ hk
  rw [List.getElem?_map] at hu
  obtain ⟨x, hx, rfl⟩ := Option.map_eq_some_iff.1 hu
  exact ⟨b, off, x, e, hx, hc⟩
theorem strs_len {w : World} {A : Option Addr} {n : Nat} {ls : List Bs} (h : Rd w 1 A n (ls.map strV)) : ls.length = n := by have := h.1; simpa using this
theorem strs_fr {w w' : World} {A : Option Addr} {n : Nat} {ls : List Bs} (h : Rd w 1 A n (ls.map strV)) (hf : Fr w w' (fun _ => False)) : Rd w' 1 A n (ls.map strV) := Rd.fr h hf (fun _ _ _ _ h => h)
/-- what Show is asked for -/
def Light (n : Nat) (ls : List Bs) : Prop := n ≤ 1000 ∧ ∀ x ∈ ls, x.length ≤ 300
/-- a slice of strings that came in -/
theorem strs_in {H : Type} {enc : TypeId × Value → H} {w : World} {base fuel : Nat} {spare : Nat → Bool} {held : Bool} {a : Option Addr} {len cap : Nat} {x : DataW H × List MemPlace}
    (h : DataW.trod enc Tryz.prog w base spare held fuel 44 [Value.slice a len cap] = some x) :
    ∃ ls : List Bs, Rd w 1 a len (ls.map strV) ∧ len ≤ maxLen ∧ (∀ y ∈ ls, y.length ≤ maxLen) := by
  rcases Go.ChangeShapes.open_strings Tryz.underlying44 Tryz.underlying9 (by kernel_rfl) h with ⟨hcs, hx⟩ | ⟨ad, l, c, ss, hcs, _, hl, hm, hz, hx, hcell, hwz⟩
  · simp at hcs
    obtain ⟨rfl, rfl, rfl⟩ := hcs
    exact ⟨[], Rd.zero _ _ _, Nat.zero_le _, by simp⟩
  · simp at hcs
    obtain ⟨rfl, rfl, rfl⟩ := hcs
    have hlz : len ≤ ss.length := by
      rw [hz]
      split
      · exact hl
      · exact Nat.le_refl _
    have htl : (ss.take len).length = len := by rw [List.length_take]; exact Nat.min_eq_left hlz
    refine ⟨(ss.take len).map fun s => s.data.toList, ⟨by rw [List.length_map, List.length_map, htl]; omega, fun hpos => ?_⟩, by omega, ?_⟩
    · have h0 := hcell 0 (by omega)
      have had : ∃ b off, ad = ⟨b, off, none⟩ := by
        obtain ⟨b, off, spot⟩ := ad
        cases spot with
        | none => exact ⟨b, off, rfl⟩
        | some s =>
          exfalso
          simp [Addr.add, World.cell?] at h0
          split at h0 <;> simp at h0
      obtain ⟨b, off, rfl⟩ := had
      refine ⟨b, off, rfl, fun j u hu => ?_⟩
      rw [List.map_map, List.getElem?_map] at hu
      obtain ⟨z, hz1, hz2⟩ := Option.map_eq_some_iff.1 hu
      obtain ⟨hj, hz3⟩ := List.getElem?_eq_some_iff.1 hz1
      rw [htl] at hj
      have hc := hcell j (by omega)
      have hadd : (⟨b, off, none⟩ : Addr).add j = ⟨b, off + j, none⟩ := by unfold Addr.add; split <;> simp_all
      rw [hadd] at hc
      rw [hc, ← hz2, ← hz3, List.getElem_take, List.getD_eq_getElem?_getD, List.getElem?_eq_getElem (by omega)]
      show _ = some (strV _)
      rw [← strV_of]
      rfl
    · intro y hy
      obtain ⟨s, hs, rfl⟩ := List.mem_map.1 hy
      have := hwz s (List.mem_of_mem_take hs)
      rw [bytes_len]
      exact this
/-- does a text of the slice hold a quote? -/
def quoteAny (ls : List Bs) : Bool := ls.any (fun s => s.contains 34)
abbrev isInV : Value := .func (.func 21) #[strV quoteS] #[]
theorem indexFunc_any (A : Option Addr) (n c : Nat) (ls : List Bs) (w : World) (hr : Rd w 1 A n (ls.map strV)) (hn : n ≤ 1000000) :
    Calls Tryz.prog 32 #[.slice A n c, isInV] w fun e w' => (∃ o : Int, e = .returned (.int .i64 o) ∧ decide (0 ≤ o) = quoteAny ls) ∧ Fr w w' (fun _ => False) := by
  have HR := Lib.hid hr
  have HL := Lib.hid (strs_len hr)
  clear hr
  go_enter Tryz.func32, Tryz.ntmps32
  go_wp2_with fail
  go_loopg [5, 8] n (fun g _ v8 wr => ∃ k : Nat, k + g = n ∧ v8 = .int .i64 (k : Int) ∧ (∀ x ∈ ls.take k, x.contains 34 = false) ∧ Fr w wr (fun _ => False))
  case atStart => exact ⟨0, by omega, rfl, by simp, Fr.refl _ _⟩
  case round =>
    obtain ⟨k, hk, rfl, hpre, hf⟩ := hrel
    have HP := Lib.hid hpre
    have HF := Lib.hid hf
    clear hpre
    by_cases hlt : k < n
    · obtain ⟨b1, o1, x1, rfl, hx1, hc1⟩ := strs_at (strs_fr HR.out hf) hlt
      have HX1 := Lib.hid hx1
      have i0 : (0 : Int) ≤ (k : Int) := by omega
      have i1 : (k : Int) < (n : Int) := by omega
      obtain ⟨q, hq⟩ : ∃ q, x1.contains 34 = q := ⟨_, rfl⟩
      have HI := Lib.hid (isIn_quote x1 wr q hq)
      have HQ := Lib.hid hq
      clear hx1 hq hf
      cases q with
      | true =>
        go_wp2_with fail
        refine HI.out.mono ?_
        rintro e w2 ⟨rfl, hf2⟩
        have HF2 := Lib.hid (ff HF.out hf2)
        clear hf2
        go_wp2_with fail
        go_ret
        refine ⟨⟨_, rfl, ?_⟩, HF2.out⟩
        have : quoteAny ls = true := List.any_eq_true.2 ⟨x1, List.mem_of_getElem? HX1.out, HQ.out⟩
        rw [this]
        exact decide_eq_true (by omega)
      | false =>
        go_wp2_with fail
        refine HI.out.mono ?_
        rintro e w2 ⟨rfl, hf2⟩
        have HF2 := Lib.hid (ff HF.out hf2)
        clear hf2
        go_wp2_with fail
        go_roundg (n - (k + 1))
        case measure => omega
        case rel => exact ⟨k + 1, by omega, by go_num, by
          rw [take_snoc' HX1.out]
          intro y hy
          rcases List.mem_append.1 hy with hy | hy
          · exact HP.out y hy
          · simp at hy; rw [hy]; exact HQ.out, HF2.out⟩
    · clear hf
      go_wp2_with fail
      go_ret
      refine ⟨⟨-1, rfl, ?_⟩, HF.out⟩
      have hp := HP.out
      rw [List.take_of_length_le (by rw [HL.out]; omega)] at hp
      have : quoteAny ls = false := List.any_eq_false.2 (fun x hx => by rw [hp x hx]; exact Bool.false_ne_true)
      rw [this]
      rfl
theorem containsFunc_any (A : Option Addr) (n c : Nat) (ls : List Bs) (w : World) (hr : Rd w 1 A n (ls.map strV)) (hn : n ≤ 1000000) (x : Bool) (hx : quoteAny ls = x) :
    Calls Tryz.prog 20 #[.slice A n c, isInV] w fun e w' => e = .returned (.bool x) ∧ Fr w w' (fun _ => False) := by
  have HI := Lib.hid (indexFunc_any A n c ls w hr hn)
  have HX := Lib.hid hx
  clear hr hx
  go_enter Tryz.func20, Tryz.ntmps20
  go_wp2_with fail
  refine HI.out.mono ?_
  rintro e w2 ⟨⟨o, rfl, ho⟩, hf2⟩
  have HF2 := Lib.hid hf2
  have HO := Lib.hid ho
  clear hf2 ho
  go_wp2_with fail
  go_ret
  exact ⟨by rw [← HX.out, ← HO.out]; rfl, HF2.out⟩
end Go.Proofs.YtgcheollgnhdlaaGreatDoor.S7
namespace Go.Proofs.YtgcheollgnhdlaaGreatDoor.S7
open Go.RowKit Go.Mem Go.Lxr

theorem join_snoc (x : Bs) : ∀ l : List Bs, joinL (l ++ [x]) = if l = [] then showOne x else joinL l ++ 32 :: showOne x
  | [] => rfl
  | [s] => rfl
  | s :: s2 :: l => by
    have ih := join_snoc x (s2 :: l)
    rw [if_neg (by simp)] at ih
    rw [if_neg (by simp), List.cons_append, List.cons_append]
    show showOne s ++ 32 :: joinL ((s2 :: l) ++ [x]) = (showOne s ++ 32 :: joinL (s2 :: l)) ++ 32 :: showOne x
    rw [ih]
    simp
theorem show_pos (x : Bs) : 1 ≤ (showOne x).length := by
  unfold showOne
  split
  · simp
  · rename_i h
    unfold quotedB at h
    cases x with
    | nil => simp at h
    | cons c x => simp
theorem show_le (x : Bs) : (showOne x).length ≤ x.length + 2 := by
  unfold showOne
  split <;> simp
/-- the line behind k fields and, if there is a field ahead, the space -/
def lead (k : Nat) (j : Bs) : Bs := if k = 0 then j else j ++ [32]
theorem join_step {ls : List Bs} {k : Nat} {x : Bs} (h : ls[k]? = some x) : joinL (ls.take (k + 1)) = lead k (joinL (ls.take k)) ++ showOne x := by
  have hk : k < ls.length := (List.getElem?_eq_some_iff.1 h).1
  rw [take_snoc' h, join_snoc]
  unfold lead
  rcases Nat.eq_zero_or_pos k with rfl | hp
  · simp [joinL]
  · have : ls.take k ≠ [] := fun e => by
      have hl : (ls.take k).length = k := by rw [List.length_take]; omega
      rw [e] at hl
      exact absurd (show (0 : Nat) = k from hl) (by omega)
    rw [if_neg this, if_neg (by omega)]
    simp
theorem join_mono {ls : List Bs} : ∀ (d k : Nat), k + d ≤ ls.length → (joinL (ls.take k)).length ≤ (joinL (ls.take (k + d))).length
  | 0, k, _ => Nat.le_refl _
  | d + 1, k, h => by
    have ih := join_mono (ls := ls) d k (by omega)
    have hx : ls[k + d]? = some (ls[k + d]'(by omega)) := List.getElem?_eq_getElem _
    rw [show k + (d + 1) = k + d + 1 by omega, join_step hx]
    have : (joinL (ls.take (k + d))).length ≤ (lead (k + d) (joinL (ls.take (k + d)))).length := by unfold lead; split <;> simp
    simp
    omega
theorem join_all {ls : List Bs} {k : Nat} (h : k ≤ ls.length) : (joinL (ls.take k)).length ≤ (joinL ls).length := by
  have := join_mono (ls := ls) (ls.length - k) k (by omega)
  rwa [show k + (ls.length - k) = ls.length by omega, List.take_length] at this
/-- what Show answers -/
def ShowOut (o : Bs × Int) (w : World) (e : Ending) (w' : World) : Prop := e = .returned (.tuple #[strV o.1, .int .i64 o.2]) ∧ Fr w w' (fun _ => False)
theorem showD_bad {ls : List Bs} (h : quoteAny ls = true) : showD ls = ([], 1) := by
  have h : (ls.any fun s => s.contains 34) = true := h
  unfold showD
  rw [if_pos h]
theorem showD_long {ls : List Bs} (h : quoteAny ls = false) (h2 : 200 < (joinL ls).length) : showD ls = ([], 17) := by
  unfold showD
  have h : (ls.any fun s => s.contains 34) = false := h
  rw [if_neg (by rw [h]; exact Bool.false_ne_true), if_pos h2]
theorem showD_ok {ls : List Bs} (h : quoteAny ls = false) (h2 : (joinL ls).length ≤ 200) : showD ls = (joinL ls, 0) := by
  unfold showD
  have h : (ls.any fun s => s.contains 34) = false := h
  rw [if_neg (by rw [h]; exact Bool.false_ne_true), if_neg (by omega)]
theorem own_ok {w w1 w2 : World} {v v' : Value} {acc t : Bs} (hb : Bts w1 w.heap.size v acc) (hown : Row w2 w.heap.size 5 1 v' (acc.length + (⟨t.toArray⟩ : ByteArray).size) (acc.map u8V ++ strCells ⟨t.toArray⟩)) (hf : Fr w1 w2 (fun k => some k = v.ownBlock)) (h0 : Fr w w1 (fun _ => False)) :
    Bts w2 w.heap.size v' (acc ++ t) ∧ Fr w w2 (fun _ => False) :=
  ⟨Bts.add hown, h0.fresh hf (fun k e => (Row.lt hb k e.symm).1)⟩
def WInv (w : World) (ls : List Bs) (n g : Nat) (v4 v12 : Value) (wr : World) : Prop := ∃ k : Nat, k + g = n ∧ v12 = .int .i64 (k : Int) ∧ Bts wr w.heap.size v4 (joinL (ls.take k)) ∧ (joinL (ls.take k)).length ≤ 200 ∧ Fr w wr (fun _ => False)
set_option maxRecDepth 100000 in
set_option maxHeartbeats 3200000 in
theorem Show_any (A : Option Addr) (n c : Nat) (ls : List Bs) (w : World) (hr : Rd w 1 A n (ls.map strV)) (hL : Light n ls) : Calls Tryz.prog 13 #[.slice A n c] w (ShowOut (showD ls) w) := by
  have hn := hL.1
  obtain ⟨x, hx⟩ : ∃ x, quoteAny ls = x := ⟨_, rfl⟩
  have HC := Lib.hid (containsFunc_any A n c ls w hr (by omega) x hx)
  have hlen := strs_len hr
  have HR := Lib.hid hr
  cases x with
  | true =>
    rw [showD_bad hx]
    clear hr hx hlen
    go_enter Tryz.func13, Tryz.ntmps13
    go_wp2_with fail
    refine HC.out.mono ?_
    rintro e w2 ⟨rfl, hf2⟩
    have HF2 := Lib.hid hf2
    clear hf2
    go_wp2_with fail
    go_ret2
    exact ⟨rfl, HF2.out⟩
  | false =>
    have HX := Lib.hid hx
    have HLN := Lib.hid hlen
    have HS := Lib.hid hL.2
    obtain ⟨D, hD⟩ : ∃ D, showD ls = D := ⟨_, rfl⟩
    have HD := Lib.hid hD
    rw [hD]
    clear hr hx hlen hL hD
    go_enter Tryz.func13, Tryz.ntmps13
    go_wp2_with fail
    refine HC.out.mono ?_
    rintro e w2 ⟨rfl, hf2⟩
    have HF2 := Lib.hid hf2
    clear hf2
    go_wp2_with fail
    go_loopg [4, 5, 6, 12] n (fun g v4 _ _ v12 wr => WInv w ls n g v4 v12 wr)
    case atStart => exact ⟨0, by omega, rfl, bts_nil _ _, by simp [joinL], HF2.out⟩
    case round =>
      obtain ⟨k, hk, rfl, hb, hl200, hf⟩ := hrel
      have HF := Lib.hid hf
      obtain ⟨J, hJ⟩ : ∃ J, joinL (ls.take k) = J := ⟨_, rfl⟩
      have HJ := Lib.hid hJ
      rw [hJ] at hb hl200
      have HB := Lib.hid hb
      obtain ⟨A4, c4, rfl⟩ := hb.slice
      obtain ⟨i0, hi0, hz0, hz1, hz2⟩ := info_parts infoB
      have hws := hf.size
      by_cases hlt : k < n
      · obtain ⟨b1, o1, x1, rfl, hx1, hc1⟩ := strs_at (strs_fr HR.out hf) hlt
        have hxl := HS.out x1 (List.mem_of_getElem? hx1)
        have HX1 := Lib.hid hx1
        have HST := Lib.hid (join_step hx1)
        rw [hJ] at HST
        have hsp := show_le x1
        have HSW := Lib.hid (fun W => shown_any x1 (by omega) W)
        obtain ⟨y, hy⟩ : ∃ y, showOne x1 = y := ⟨_, rfl⟩
        rw [hy] at HST HSW hsp
        have hzy := str_size y
        have j0 : (0 : Int) ≤ (k : Int) := by omega
        have j1 : (k : Int) < (n : Int) := by omega
        rcases Nat.eq_zero_or_pos k with hk0 | hk0
        · subst hk0
          have HJL := Lib.hid (show lead 0 J = J from rfl)
          have hc1 : wr.cell? ⟨b1, o1, none⟩ = some (strV x1) := by simpa using hc1
          clear hf hJ hb hx1 hy
          go_wp2_with fail
          refine (HSW.out wr).mono ?_
          rintro e w8 ⟨rfl, hf8⟩
          have HF8 := Lib.hid (ff HF.out hf8)
          have HB8 := Lib.hid (HB.out.fr hf8 (fun g e => e.elim))
          have hs8 := (ff HF.out hf8).size
          clear hf8
          by_cases hbig : 200 < J.length + y.length
          · have t1 : (200 : Int) - (J.length : Int) < (y.length : Int) := by omega
            have HE := Lib.hid (show D = ([], 17) by
              rw [← HD.out]
              refine showD_long HX.out ?_
              have h1 := join_all (ls := ls) (k := 0 + 1) (by rw [HLN.out]; omega)
              rw [HST.out] at h1
              have h2 := HJL.out
              rw [h2] at h1
              simp at h1
              omega)
            clear hbig
            go_wp2_with fail
            go_ret2
            rw [HE.out]
            exact ⟨rfl, HF8.out⟩
          · have t1 : ¬ ((200 : Int) - (J.length : Int) < (y.length : Int)) := by omega
            have hb63 : J.length + y.length ≤ 200 := by omega
            clear hbig
            go_wp2_with (at_builtin; refine wpList_append_str _ rfl (.tmp 30) (.tmp 31) 59 9 rfl w.heap.size 5 i0 Tryz.underlying59 Tryz.underlying9 hi0 hz0 hz1 hz2 _ J.length _ rfl HB8.out ⟨y.toArray⟩ rfl (by rw [str_size]; omega) hs8 ?_; intro v9 w9 hown9 hf9 _)
            obtain ⟨hb9, hf9⟩ := own_ok HB8.out hown9 hf9 HF8.out
            obtain ⟨A9, c9, rfl⟩ := hb9.slice
            go_roundg (n - (0 + 1))
            case measure => omega
            case rel => exact ⟨0 + 1, by omega, by go_num, by rw [HST.out, HJL.out]; exact hb9, by rw [HST.out, HJL.out]; simp; omega, hf9⟩
        · have hf1 := Fr.new wr (.cells #[.int .u8 32] 5) (fun _ => False)
          have HF1 := Lib.hid (ff hf hf1)
          have HB1 := Lib.hid (HB.out.fr hf1 (fun g e => e.elim))
          have HRX := Lib.hid (rd_new wr 5 (0, 0) [.int .u8 32])
          have hs1 : w.heap.size ≤ (wr.alloc (.cells #[.int .u8 32] 5)).heap.size := (ff hf hf1).size
          have j2 : (0 : Int) < (k : Int) := by omega
          clear hf hJ hb hx1 hy hf1
          go_wp2_with (at_builtin; refine wpList_append_row _ rfl (.tmp 19) (.tmp 20) 59 rfl w.heap.size 5 i0 _ 1 1 Tryz.underlying59 hi0 hz0 hz1 hz2 rfl (by decide) _ J.length _ rfl HB1.out _ 1 1 [.int .u8 32] rfl HRX.out (by intro u hu; simp at hu; subst hu; rfl) (by simp only [maxLen]; omega) (by omega) hs1 ?_; intro v7 w7 hown7 hf7 _)
          have hb7 : Bts w7 w.heap.size v7 (J ++ [32]) := by
            show Row _ _ _ _ _ _ _
            rw [List.length_append, List.map_append]
            exact hown7
          have HF7 := Lib.hid (HF1.out.fresh hf7 (fun k e => (Row.lt HB1.out k e.symm).1))
          obtain ⟨J2, hJ2⟩ : ∃ J2, J ++ [32] = J2 := ⟨_, rfl⟩
          have hjl : J2.length ≤ 201 := by rw [← hJ2]; simp; omega
          have HJ2 := Lib.hid (show lead k J = J2 by unfold lead; rw [if_neg (by omega), hJ2])
          rw [hJ2] at hb7
          have HB7 := Lib.hid hb7
          obtain ⟨A7, c7, rfl⟩ := hb7.slice
          clear hb7 hown7 hf7 hJ2
          refine (HSW.out w7).mono ?_
          rintro e w8 ⟨rfl, hf8⟩
          have HF8 := Lib.hid (ff HF7.out hf8)
          have HB8 := Lib.hid (HB7.out.fr hf8 (fun g e => e.elim))
          have hs8 := (ff HF7.out hf8).size
          clear hf8
          by_cases hbig : 200 < J2.length + y.length
          · have t1 : (200 : Int) - (J2.length : Int) < (y.length : Int) := by omega
            have HE := Lib.hid (show D = ([], 17) by
              rw [← HD.out]
              refine showD_long HX.out ?_
              have h1 := join_all (ls := ls) (k := k + 1) (by rw [HLN.out]; omega)
              rw [HST.out] at h1
              have h2 := HJ2.out
              rw [h2] at h1
              simp at h1
              omega)
            clear hbig
            go_wp2_with fail
            go_ret2
            rw [HE.out]
            exact ⟨rfl, HF8.out⟩
          · have t1 : ¬ ((200 : Int) - (J2.length : Int) < (y.length : Int)) := by omega
            have hb63 : J2.length + y.length ≤ 200 := by omega
            clear hbig
            go_wp2_with (at_builtin; refine wpList_append_str _ rfl (.tmp 30) (.tmp 31) 59 9 rfl w.heap.size 5 i0 Tryz.underlying59 Tryz.underlying9 hi0 hz0 hz1 hz2 _ J2.length _ rfl HB8.out ⟨y.toArray⟩ rfl (by rw [str_size]; omega) hs8 ?_; intro v9 w9 hown9 hf9 _)
            obtain ⟨hb9, hf9⟩ := own_ok HB8.out hown9 hf9 HF8.out
            obtain ⟨A9, c9, rfl⟩ := hb9.slice
            go_roundg (n - (k + 1))
            case measure => omega
            case rel => exact ⟨k + 1, by omega, by go_num, by rw [HST.out, HJ2.out]; exact hb9, by rw [HST.out, HJ2.out]; simp; omega, hf9⟩
      · obtain rfl : k = n := by omega
        have htx : ∀ w', wr = w' → (convert 59 9 (.slice A4 J.length c4)).run Tryz.prog w' = .ok (strV J) w' := fun w' e => by subst e; exact HB.out.text
        have htx := htx wr rfl
        have HE := Lib.hid (show D = (J, 0) by
          rw [← HD.out]
          have : ls.take k = ls := List.take_of_length_le (by rw [HLN.out]; exact Nat.le_refl _)
          rw [this] at hJ
          rw [showD_ok HX.out (by rw [hJ]; exact hl200), hJ])
        clear hf hJ hb
        go_wp2_with fail
        go_ret2
        rw [HE.out]
        exact ⟨rfl, HF.out⟩
end Go.Proofs.YtgcheollgnhdlaaGreatDoor.S7
