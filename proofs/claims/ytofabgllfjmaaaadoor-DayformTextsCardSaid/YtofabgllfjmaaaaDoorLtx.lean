import Derived.Test.YtofabgllfjmaaaaDoorAli
import Derived.Test.YtofabgllfjmaaaaDoorRpa
import Derived.Test.YtofabgllfjmaaaaDoorRsh
import Derived.Laws.StructEq
namespace Go.Proofs.YtofabgllfjmaaaaDoor
open Go.RowKit Go.Mem Go.Dfm

theorem eql_day (k d q a b c : Int) (w : World) : (binOp .eql 23 (dayV k d q) (dayV a b c)).run Tryd.prog w = .ok (.bool (k == a && (d == b && q == c))) w := by
  have u3 := Tryd.underlying3
  have hS : Tryd.prog.underlying 23 = some (.struct (Tryd.prog.fieldsOf 23)) := by kernel_rfl
  have hp : Tryd.prog.stoodInHeld 23 = false := by kernel_rfl
  rw [run_eql_struct, show (10000 : Nat) = 9999 + 1 from rfl, run_equalIn_agg w 9999 23 _ _ hS hp]
  simp only [Program.fieldsOf, Tryd.underlying23]
  go_simp
  by_cases h1 : k = a <;> by_cases h2 : d = b <;> by_cases h3 : q = c <;> simp [h1, h2, h3]
theorem neq_day (k d q a b c : Int) (w : World) : (binOp .neq 23 (dayV k d q) (dayV a b c)).run Tryd.prog w = .ok (.bool (!(k == a && (d == b && q == c)))) w := by
  have u3 := Tryd.underlying3
  have hS : Tryd.prog.underlying 23 = some (.struct (Tryd.prog.fieldsOf 23)) := by kernel_rfl
  have hp : Tryd.prog.stoodInHeld 23 = false := by kernel_rfl
  rw [run_neq_struct, show (10000 : Nat) = 9999 + 1 from rfl, run_equalIn_agg w 9999 23 _ _ hS hp]
  simp only [Program.fieldsOf, Tryd.underlying23]
  go_simp
  by_cases h1 : k = a <;> by_cases h2 : d = b <;> by_cases h3 : q = c <;> simp [h1, h2, h3]
theorem same_day (k d q : Int) : (k == k && (d == d && q == q)) = true := by simp
theorem rParse_list (l : Bs) (hl : l.length ≤ 100000) (w : World) (k d q j : Int) (h : parseD l = (k, d, q, j)) : Calls Tryd.prog 9 #[strV l] w (ParseR k d q j w) :=
  rParse_any ⟨l.toArray⟩ (by rw [str_size]; omega) w k d q j (by rw [show (⟨l.toArray⟩ : ByteArray).data.toList = l from rfl, rparse_eq, h])
theorem len_any (l : Bs) : (⟨l.toArray⟩ : ByteArray).size = l.length := str_size l
set_option maxHeartbeats 1600000 in
theorem texts_any (l : Bs) (_hm : l.length ≤ maxLen) (k d q : Int) (w : World) (hw : WOk w) : Calls Tryd.prog 3 #[strV l, dayV k d q] w fun e w' => e = .returned (.bool true) ∧ Fr w w' (fun _ => False) := by
  have HA := Lib.hid (fun W (f : Fr w W (fun _ => False)) => alive_any W (hw.fr f))
  have hz := str_size l
  by_cases hl : 300 < l.length
  · have h1 : (300 : Int) < (l.length : Int) := by omega
    clear hw hl
    go_enter Tryd.func3, Tryd.ntmps3
    go_wp2_with fail
    refine (HA.out _ (Fr.new _ _ _)).mono ?_
    rintro e w2 ⟨rfl, hf2⟩
    have HF2 := Lib.hid (ff (Fr.new w _ _) hf2)
    clear hf2
    go_wp2_with fail
    go_ret
    exact ⟨rfl, HF2.out⟩
  · have h1 : (l.length : Int) ≤ 300 := by omega
    obtain ⟨⟨k1, d1, q1, j1⟩, hp⟩ : ∃ x, parseD l = x := ⟨_, rfl⟩
    obtain ⟨⟨t, j2⟩, hs⟩ : ∃ x, showD k d q = x := ⟨_, rfl⟩
    have HP := Lib.hid (fun W (f : Fr w W (fun _ => False)) => Parse_any l (by omega) W (hw.fr f) k1 d1 q1 j1 hp)
    have HR := Lib.hid (fun W => rParse_list l (by omega) W k1 d1 q1 j1 hp)
    have HS := Lib.hid (fun W (f : Fr w W (fun _ => False)) => Show_any k d q W (hw.fr f) t j2 hs)
    have HT := Lib.hid (fun W => rShow_any k d q W t j2 hs)
    have E1 := fun w => eql_day k1 d1 q1 k1 d1 q1 w
    rw [same_day] at E1
    have HB := Lib.hid (Blk.made w 23 #[.int .i64 k, .int .i64 d, .int .i64 q])
    clear hw hl hp hs
    go_enter Tryd.func3, Tryd.ntmps3
    go_wp2_with fail
    refine (HP.out _ (Fr.new _ _ _)).mono ?_
    rintro e w2 ⟨rfl, hf2⟩
    have HA2 := Lib.hid (ff hf2 (Fr.new w2 (dayC k1 d1 q1) (fun _ => False)))
    have HF2 := Lib.hid (ff (Fr.new w (dayC k d q) (fun _ => False)) HA2.out)
    clear hf2
    go_wp2_with fail
    refine (HR.out _).mono ?_
    rintro e w3 ⟨rfl, hf3⟩
    have HB3 := Lib.hid (ff hf3 (Fr.new w3 (dayC k1 d1 q1) (fun _ => False)))
    have HF3 := Lib.hid (ff HF2.out HB3.out)
    obtain ⟨c0, c1, c2⟩ := day_cells (ff HA2.out HB3.out)
    clear hf3
    go_wp2_with fail
    refine (HS.out _ HF3.out).mono ?_
    rintro e w4 ⟨rfl, hf4⟩
    have HC4 := Lib.hid hf4
    have HF4 := Lib.hid (ff HF3.out hf4)
    obtain ⟨c0, c1, c2⟩ := day_cells (ff (ff HA2.out HB3.out) hf4)
    clear hf4
    go_wp2_with fail
    refine (HT.out _).mono ?_
    rintro e w5 ⟨rfl, hf5⟩
    have HF5 := Lib.hid (ff HF4.out hf5)
    obtain ⟨g0, g1, g2⟩ := day_cells (ff HC4.out hf5)
    obtain ⟨i0, i1, i2⟩ := day_cells (ff (ff HB3.out HC4.out) hf5)
    clear hf5
    go_wp2_with fail
    refine (HA.out _ HF5.out).mono ?_
    rintro e w6 ⟨rfl, hf6⟩
    have HF6 := Lib.hid (ff HF5.out hf6)
    clear hf6
    go_wp2_with fail
    go_ret
    exact ⟨rfl, HF6.out⟩
end Go.Proofs.YtofabgllfjmaaaaDoor
