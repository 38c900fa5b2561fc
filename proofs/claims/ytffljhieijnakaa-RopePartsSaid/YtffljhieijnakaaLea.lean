import Derived.Test.YtffljhieijnakaaEvn
import Derived.Test.YtffljhieijnakaaShelf
namespace Go.Proofs.Ytffljhieijnakaa
open Go.RowKit Go.Mem Go.Rope

theorem clone_any (s : ByteArray) (w : World) (hlim : s.size ≤ 1000000) :
    Calls Try.prog 40 #[.string s] w fun e w' => e = .returned (.string s) ∧ Fr w w' (fun _ => False) := by
  have HC := Lib.hid (Try.stringslite_Clone s w (by omega))
  go_enter Try.func40, Try.ntmps40
  go_wp2_with fail
  refine HC.out.mono ?_
  rintro e w1 ⟨rfl, hb⟩
  have HB := Lib.hid hb
  clear hb
  go_wp2_with fail
  go_ret
  exact ⟨rfl, (Fr.ofBelow HB.out).trans (Fr.refl _ (fun _ => False)) (fun i hi h => absurd h (by omega)) (fun _ _ h => h)⟩
theorem leaf_made {w5 w6 : World} {l : Bs} {x y : Int} (h0 : l ≠ []) (h1 : l.length ≤ 128) (he : w6 = w5.alloc (.cells #[.pointer none, .pointer none, strV l, .int .i64 x, .int .i64 y, .int .i64 1] 68)) (hx : x = (l.length : Int)) (hy : y = (feeds l : Int)) :
    NodeAt w6 w6.heap.size (ptr w5.heap.size) l 1 := by
  subst hx hy
  have hb6 : Blk w6 w5.heap.size 68 #[.pointer none, .pointer none, strV l, .int .i64 (l.length : Int), .int .i64 (feeds l : Int), .int .i64 1] := by rw [he]; exact Blk.made _ _ _
  exact .leaf hb6.lt hb6 h0 h1
theorem str_size (l : Bs) : (⟨l.toArray⟩ : ByteArray).size = l.length := by show l.toArray.size = _; simp
theorem str_list (l : Bs) : (⟨l.toArray⟩ : ByteArray).data.toList = l := by simp
theorem str_ne {l : Bs} (h : l ≠ []) : l.isEmpty = false := by simpa using h

theorem nodeOf_nil (w : World) : Calls Try.prog 27 #[strV []] w (Gives w [] 0) := by
  go_enter Try.func27, Try.ntmps27
  go_wp2_with fail
  go_ret
  exact ⟨Fr.refl _ _, _, rfl, .empty⟩
theorem nodeOf_leaf (l : Bs) (w : World) (h0 : l ≠ []) (h1 : l.length ≤ 128) : Calls Try.prog 27 #[strV l] w (Gives w l 1) := by
  have hs := str_size l
  have hne := str_ne h0
  have hC := Lib.hid (clone_any ⟨l.toArray⟩ w (by rw [hs]; omega))
  have hK := Lib.hid (fun w => Try.strings_Count_one ⟨l.toArray⟩ 10 w)
  rw [str_list] at hK
  have H0 := Lib.hid h0
  have HS := Lib.hid hs
  clear h0 hs
  go_enter Try.func27, Try.ntmps27
  go_wp2_with fail
  refine hC.out.mono ?_
  rintro e w2 ⟨rfl, hf2⟩
  have HF2 := Lib.hid hf2
  clear hf2
  go_wp2_with fail
  refine (hK.out _).mono ?_
  rintro e w3 ⟨rfl, rfl⟩
  go_wp2_with fail
  go_ret
  exact ⟨ff HF2.out (Fr.new _ _ _), _, rfl, leaf_made H0.out h1 rfl rfl rfl⟩
end Go.Proofs.Ytffljhieijnakaa
