import Derived.Test.YtolmemdkklfdpaaAny
namespace Go.Proofs.Ytolmemdkklfdpaa
open Go.RowKit Go.Mem Go.Lxr Go.Lib

theorem fr_iterAt (w : World) (k : Nat) (s : ByteArray) (p : Nat) : Fr w (w.iterAt k s p) (· = k) := by
  refine ⟨rfl, rfl, rfl, by simp [World.iterAt], fun j _ hk => ?_⟩
  have : k ≠ j := fun e => hk e.symm
  simp [World.iterAt, this]
def SInv (w : World) (s chars : ByteArray) (g : Nat) (wx : World) : Prop := ∃ i : Nat, i + g = s.size ∧ wx.heap[w.heap.size]? = some (.stringIter s i) ∧ Fr w wx (fun _ => False) ∧ Lib.NoAny s.data.toList chars.data.toList i
set_option maxRecDepth 1000000 in
set_option maxHeartbeats 8000000 in
theorem index_short (s chars : ByteArray) (w : World) (hc : Asc chars) (h4 : 4 ≤ chars.size) (hz : chars.size ≤ 1000) (h8 : s.size ≤ 8) :
    Calls Try.prog 32 #[.string s, .string chars] w fun e w' => e = .returned (.int .i64 (Lib.indexAny s.data.toList chars.data.toList)) ∧ Fr w w' (fun _ => False) := by
  have hemp : chars.toList.isEmpty = false := by
    rw [Lib.toList_data]
    cases h : chars.data.toList with
    | nil => have := Lib.size_eq chars; rw [h, List.length_nil] at this; omega
    | cons _ _ => rfl
  have hn1 : ((chars.size : Int) == 1) = false := beq_eq_false_iff_ne.2 (by omega)
  have h8z : decide ((8 : Int) < (s.size : Int)) = false := decide_eq_false (by omega)
  have HU := Lib.hid (Try.strings_shouldUseASCIISet (s.size : Int) w)
  rw [h8z] at HU
  go_enter Try.func32, Try.ntmps32
  go_wp2_with fail
  refine HU.out.mono ?_
  rintro e w2 ⟨rfl, rfl⟩
  go_wp2_with fail
  go_loopg [9, 10] s.size (fun g _ _ wx => SInv w2 s chars g wx)
  case atStart => exact ⟨0, by omega, World.iter_heap w2 s 0, fr_iter w2 s 0, Lib.NoAny.zero _ _⟩
  case round =>
    obtain ⟨i, hig, hit, hfr, hno⟩ := hrel
    have HN := Lib.hid hno
    have HF := Lib.hid hfr
    have HIT := Lib.hid hit
    have hks := hfr.size
    clear hno hfr
    by_cases hi : i < s.size
    · obtain ⟨x, hx⟩ : ∃ x : UInt8, s[i]'hi = x := ⟨_, rfl⟩
      have hxl : s.data.toList[i]? = some x := by rw [← hx]; exact Lib.data_getElem? s i hi
      have HX := Lib.hid hxl
      by_cases h128 : x.toNat < 128
      · have hnx := fun ty => run_next_ascii_at (P := Try.prog) wr w2.heap.size s i ty hit hi (by rw [hx]; exact h128)
        rw [hx] at hnx
        have HR := Lib.hid (fun W => Try.strings_IndexRune_ascii chars (x.toNat : Int) W (by omega) (by omega))
        rw [show ((x.toNat : Int)).toNat.toUInt8 = x by simp] at HR
        have hcon := Lib.contains_iff_indexByte chars.data.toList x
        obtain ⟨o, ho⟩ : ∃ o, Lib.indexByte chars.data.toList x = o := ⟨_, rfl⟩
        rw [ho] at HR hcon
        have HI2 := Lib.hid (iterAt_heap wr w2.heap.size s i (i + 1) hit)
        have HF2 := Lib.hid (HF.out.fresh (fr_iterAt wr w2.heap.size s (i + 1)) (fun j e => by omega))
        cases hin : chars.data.toList.contains x with
        | false =>
          rw [hin] at hcon
          have ho2 : ¬ (0 ≤ o) := of_decide_eq_false hcon.symm
          have HIN := Lib.hid hin
          clear hcon hxl hx ho hin hit
          go_wp2_with fail
          refine (HR.out _).mono ?_
          rintro e w3 ⟨rfl, rfl⟩
          go_wp2_with fail
          go_roundg (s.size - (i + 1))
          case measure => omega
          case rel => exact ⟨i + 1, by omega, HI2.out, HF2.out, HN.out.succ HX.out HIN.out⟩
        | true =>
          rw [hin] at hcon
          have ho2 : 0 ≤ o := of_decide_eq_true hcon.symm
          have HIN := Lib.hid hin
          clear hcon hxl hx ho hin hit
          go_wp2_with fail
          refine (HR.out _).mono ?_
          rintro e w3 ⟨rfl, rfl⟩
          go_wp2_with fail
          go_ret
          exact ⟨by rw [Lib.indexAny_hit HN.out HX.out HIN.out]; rfl, HF2.out⟩
      · obtain ⟨v1, v2, v3, v4⟩ := decode_step s i hi (by rw [hx]; omega)
        obtain ⟨v5, -⟩ := decode_high s i hi (by rw [hx]; omega)
        have hnx := fun ty => run_next_any_at (P := Try.prog) wr w2.heap.size s i ty hit hi
        have HNS := Lib.hid (noany_skip hc HN.out v4)
        generalize Utf8.decode s i = D at *
        obtain ⟨r, n⟩ := D
        simp only at hnx v1 v2 v3 HNS v5
        have HR := Lib.hid (fun W => rune_any chars (r : Int) W hc h4 hz (by omega) v1)
        have HI2 := Lib.hid (iterAt_heap wr w2.heap.size s i (i + n) hit)
        have HF2 := Lib.hid (HF.out.fresh (fr_iterAt wr w2.heap.size s (i + n)) (fun j e => by omega))
        clear hxl hx hit v1 v4
        go_wp2_with fail
        refine (HR.out _).mono ?_
        rintro e w3 ⟨rfl, hf3⟩
        have HF3 := Lib.hid hf3
        clear hf3
        go_wp2_with fail
        go_roundg (s.size - (i + n))
        case measure => omega
        case rel => exact ⟨i + n, by omega, (HF3.out.block _ (Array.getElem?_eq_some_iff.1 HI2.out).1 (fun h => h)).trans HI2.out, ff HF2.out HF3.out, HNS.out⟩
    · obtain rfl : i = s.size := by omega
      have hnx := fun ty => run_next_end_at (P := Try.prog) wr w2.heap.size s s.size ty hit (by omega)
      clear hit
      go_wp2_with fail
      go_ret
      exact ⟨by rw [Lib.indexAny_none (by rw [← Lib.size_eq]; exact HN.out)]; rfl, HF.out⟩
end Go.Proofs.Ytolmemdkklfdpaa
