import Derived.Test.YtofabgllfjmaaaaDoorCdy
import Derived.Test.YtofabgllfjmaaaaDoorPlain
import Derived.BigQuiet
import Derived.Deep.QuietTactic
import Derived.WalkLawsBesides
import Derived.IntWalk
import Derived.Lib.Hide
import Derived.Tactics2
namespace Go.Proofs.YtofabgllfjmaaaaDoor
open Go.RowKit Go.Mem Go.Dfm

abbrev Bs := List UInt8
abbrev strV (l : Bs) : Value := .string ⟨l.toArray⟩
theorem infoB : (Tryd.prog.info? 5).map (fun i => (i.zero, i.size, i.bytes)) = some (some (.int .u8 0), 1, 1) := by kernel_rfl
theorem infoS : (Tryd.prog.info? 9).map (fun i => (i.zero, i.size, i.bytes)) = some (some (.string ⟨#[]⟩), 1, 16) := by kernel_rfl
theorem str_size (l : Bs) : (⟨l.toArray⟩ : ByteArray).size = l.length := by show l.toArray.size = _; simp
theorem bytes_len (s : ByteArray) : s.data.toList.length = s.size := by rw [Array.length_toList]; rfl
theorem strV_of (s : ByteArray) : Value.string s = strV s.data.toList := by
  show Value.string s = .string ⟨s.data.toList.toArray⟩
  congr
theorem run_add_str {P : Program} (w : World) (a b : Bs) (h : a.length + b.length ≤ 1000000) : (Op.stringOp .add ⟨a.toArray⟩ ⟨b.toArray⟩).run P w = .ok (strV (a ++ b)) w := by
  rw [run_string_add_sum w _ _ (by show a.toArray.size + b.toArray.size ≤ _; simp; omega)]
  show Result.ok (Value.string ((⟨a.toArray⟩ : ByteArray) ++ ⟨b.toArray⟩)) w = .ok (.string ⟨(a ++ b).toArray⟩) w
  congr 2
theorem ff {a c d : World} (h : Fr a c (fun _ => False)) (h2 : Fr c d (fun _ => False)) : Fr a d (fun _ => False) := h.trans h2 (fun _ _ h => h) (fun _ _ h => h)
theorem fd {a b : World} (h : Fr a b (fun _ => False)) (n : Nat) : Fr a (b.drewN n) (fun _ => False) := ff h (Fr.drewN _ _ _)
theorem _root_.Go.Mem.Fr.cell0 {a c : World} {b o : Nat} {v : Value} (h : Fr a c (fun _ => False)) (hc : a.cell? ⟨b, o, none⟩ = some v) : c.cell? ⟨b, o, none⟩ = some v :=
  (World.cell?_of_block (w := a) (h.block b (World.block_lt_of_cell? a _ hc) (fun h => h))).trans hc

/-- a day -/
abbrev dayV (k d w : Int) : Value := .agg #[.int .i64 k, .int .i64 d, .int .i64 w]
abbrev dayC (k d w : Int) : Obj := .cells #[.int .i64 k, .int .i64 d, .int .i64 w] 23
theorem infoDay : (Tryd.prog.info? 23).map (fun i => (i.size)) = some 3 := by kernel_rfl
theorem ret_bf {a b : Bool} {x y : World} (h : a = b) (hf : Fr x y (fun _ => False)) : Ending.returned (.bool a) = .returned (.bool b) ∧ Fr x y (fun _ => False) := ⟨by rw [h], hf⟩
theorem right_any (k d q : Int) (w : World) : Calls Tryd.prog 18 #[dayV k d q] w fun e w' => e = .returned (.bool (rightB k d q)) ∧ Fr w w' (fun _ => False) := by
  obtain ⟨b, hb⟩ : ∃ b, rightB k d q = b := ⟨_, rfl⟩
  have HB := Lib.hid (show b = true ↔ rightP k d q by rw [← hb]; exact rightB_iff)
  rw [hb]
  clear hb
  go_enter Tryd.func18, Tryd.ntmps18
  go_wp2_with fail
  all_goals
    go_ret
    refine ret_bf ?_ (Fr.new _ _ _)
    have hb := HB.out
    rw [Bool.eq_iff_iff, hb]
    simp [rightP]
    try (simp only [beq_iff_eq, beq_eq_false_iff_ne, ne_eq] at *; omega)
end Go.Proofs.YtofabgllfjmaaaaDoor
