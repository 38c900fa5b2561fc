import Derived.Test.YtolmemdkklfdpaaCom
import Derived.Lib.OthersKept
import Derived.Laws.Runes
import Derived.Laws.RangeAny
import Derived.WalkMore
namespace Go.Proofs.Ytolmemdkklfdpaa
open Go.RowKit Go.Mem Go.Lxr

/-- bytes below 128 alone -/
def Asc (s : ByteArray) : Prop := ∀ (j : Nat) b, s.data.toList[j]? = some b → b.toNat < 128
theorem asc_at {s : ByteArray} (h : Asc s) {i : Nat} (hi : i < s.size) : (s[i]'hi).toNat < 128 := h i _ (Lib.data_getElem? s i hi)
theorem fr_iter (w : World) (s : ByteArray) (p : Nat) : Fr w (w.iter s p) (fun _ => False) := Fr.new w _ _
set_option maxRecDepth 1000000 in
set_option maxHeartbeats 1600000 in
theorem rune_error (chars : ByteArray) (w : World) (h : Asc chars) (_hz : chars.size ≤ 1000) : Calls Try.prog 34 #[.string chars, .int .i32 65533] w fun e w' => e = .returned (.int .i64 (-1)) ∧ Fr w w' (fun _ => False) := by
  have HA := Lib.hid h
  clear h
  go_enter Try.func34, Try.ntmps34
  go_wp2_with fail
  go_loopg [5, 6] chars.size (fun g _ _ wx => ∃ i : Nat, i + g = chars.size ∧ wx = w.iter chars i)
  case atStart => exact ⟨0, by omega, rfl⟩
  case round =>
    obtain ⟨i, hig, rfl⟩ := hrel
    by_cases hi : i < chars.size
    · obtain ⟨x, hx⟩ : ∃ x : UInt8, chars[i]'hi = x := ⟨_, rfl⟩
      have hx128 : x.toNat < 128 := by rw [← hx]; exact asc_at HA.out hi
      have hnx := fun ty => run_next_ascii (P := Try.prog) w chars i ty hi (by rw [hx]; exact hx128)
      rw [hx] at hnx
      have hne : ((x.toNat : Int) == 65533) = false := by simp; omega
      clear hx
      go_wp2_with fail
      go_roundg (chars.size - (i + 1))
      case measure => omega
      case rel => exact ⟨i + 1, by omega, rfl⟩
    · obtain rfl : i = chars.size := by omega
      have hnx := run_next_end (P := Try.prog) w chars chars.size
      go_wp2_with fail
      go_ret
      exact ⟨rfl, fr_iter _ _ _⟩
theorem run_sl_lo {P : Program} (w : World) (t : TypeId) (ht : P.underlying t = some .string) (s X : ByteArray) (x : Int) (a : Nat) (hx : x = (a : Int)) (ha : a ≤ s.size) (h : s.extract a s.size = X) :
    (Instr.slice t (.string s) (some (.int .i64 x)) none none).run P w = .ok (.string X) w := by
  subst hx
  rw [run_slice_string_l (P := P) w t s ht .i64 (a : Int) (by omega) (by omega)]
  simp only [Int.toNat_natCast]
  rw [h]
set_option maxRecDepth 1000000 in
set_option maxHeartbeats 3200000 in
theorem rune_high (chars : ByteArray) (r : Int) (w : World) (h : Asc chars) (h4 : 4 ≤ chars.size) (hz : chars.size ≤ 1000) (hr : 128 ≤ r) (hv : Utf8.valid r = true) (hne : (r == 65533) = false) : Calls Try.prog 34 #[.string chars, .int .i32 r] w fun e w' => e = .returned (.int .i64 (-1)) ∧ Fr w w' (fun _ => False) := by
  obtain ⟨n2, n4, hlast⟩ := encode_facts r hv hr
  obtain ⟨E, hE⟩ : ∃ E, Utf8.encode r = E := ⟨_, rfl⟩
  rw [hE] at n2 n4
  simp only [hE] at hlast
  have hV := Lib.hid (Try.utf8_ValidRune r w)
  rw [show Lib.validRune r = true by rw [validRune_eq] at hv; exact hv] at hV
  have hconv := fun w => run_convert_int_string (P := Try.prog) w 21 9 .i32 r (by rw [Try.underlying21]; rfl) Try.underlying9
  rw [hE] at hconv
  obtain ⟨k, hk⟩ : ∃ k, E.size = k + 1 := ⟨E.size - 1, by omega⟩
  have hkE : k < E.size := by omega
  have hkc : k < chars.size := by omega
  have hl : 128 ≤ (E[k]'hkE).toNat := by
    have := hlast (by omega)
    have e : E.size - 1 = k := by omega
    simp only [e] at this
    exact this
  have hc := asc_at h hkc
  have hx : (((chars[k]'hkc).toNat : Int) == ((E[k]'hkE).toNat : Int)) = false := by simp; omega
  obtain ⟨X, hX⟩ : ∃ X, chars.extract (k + 1) chars.size = X := ⟨_, rfl⟩
  have hsl := fun w => run_sl_lo (P := Try.prog) w 9 Try.underlying9 chars X ((k : Int) + 1) (k + 1) (by omega) (by omega) hX
  obtain ⟨o, ho⟩ : ∃ o, Lib.indexByte X.data.toList (E[k]'hkE) = o := ⟨_, rfl⟩
  have ho2 : o < 0 := by
    have := Lib.contains_iff_indexByte X.data.toList (E[k]'hkE)
    rw [ho] at this
    have hn : X.data.toList.contains (E[k]'hkE) = false := by
      rw [← Bool.not_eq_true]
      intro e
      have e := List.elem_iff.1 e
      rw [← hX] at e
      obtain ⟨j, hj, e⟩ := List.getElem_of_mem (mem_extract e)
      have := h j _ (List.getElem?_eq_getElem hj)
      rw [e] at this
      omega
    rw [hn] at this
    have := of_decide_eq_false this.symm
    omega
  have HI := Lib.hid (fun w => Try.strings_IndexByte X ((E[k]'hkE).toNat : Int) w)
  rw [show (((E[k]'hkE).toNat : Int)).toNat.toUInt8 = E[k]'hkE by simp, ho] at HI
  have hs : (E.size : Int) - 1 = (k : Int) := by omega
  have i0 : (0 : Int) ≤ (k : Int) := by omega
  have i1 : (k : Int) < (chars.size : Int) := by omega
  have i2 : (k : Int) < (E.size : Int) := by omega
  have i3 : IntKind.i64.wrap ((k : Int) + 1) = (k : Int) + 1 := wrap_small _ (by omega) (by omega)
  have t0 : (0 : Int) ≤ r := by omega
  have t1 : ¬ (r < 128) := by omega
  clear hlast hE hk ho hl hc hX hv n2 n4
  go_enter Try.func34, Try.ntmps34
  go_wp2_with fail
  refine hV.out.mono ?_
  rintro e w2 ⟨rfl, rfl⟩
  go_wp2_with fail
  go_step3
  go_wp2_with fail
  go_loopg [9, 10, 11, 12] 0 (fun g v9 v10 _ _ wr => wr = w2 ∧ v9 = .int .i64 (k : Int) ∧ v10 = .int .i64 0)
  case atStart => exact ⟨rfl, rfl, rfl⟩
  case round =>
    obtain ⟨rfl, rfl, rfl⟩ := hrel
    go_wp2_with fail
    go_step3
    go_wp2_with fail
    go_quiet (fail)
    go_wp2_with fail
    go_quiet ((go_at_call 31; exact (HI.out _).mono (fun e w' h => ⟨h.1, _, h.2⟩)))
    go_wp2_with fail
    change bodyPost Try.prog Try.f34 (fun e w' => e = .returned (.int .i64 (-1)) ∧ Fr wr w' (fun _ => False)) Exit.ret _ _
    go_ret
    exact ⟨rfl, Fr.drewN _ _ _⟩
end Go.Proofs.Ytolmemdkklfdpaa
