import Derived.Test.YtcjednmenbdmnaaDoorDig
namespace Go.Proofs.YtcjednmenbdmnaaDoor
open Go.RowKit Go.Mem Go.Wire

/-- a number's digits, as bytes -/
def digW (n : Nat) : List Int := (Lib.decDigits n).map fun b => (b.toNat : Int)
/-- a text as a frame -/
def frameW (bs : List Int) : List Int := digW bs.length ++ 58 :: (bs ++ [10])

theorem one_u8 (l : List Int) : ∀ u ∈ l.map u8v, u.oneCell' = true := by
  intro u hu
  obtain ⟨x, _, rfl⟩ := List.mem_map.1 hu
  rfl
theorem strCells_dig (n : Nat) : strCells (decStr n ++ { data := #[58] }) = (digW n ++ [58]).map u8v := by
  simp [strCells, decStr, digW, u8v]

theorem decStr_len (n : Nat) : (decStr n).size = (digW n).length := by
  show (Lib.decDigits n).toArray.size = _
  simp [digW]

/-- what Frame answers of at most 20000 bytes -/
def FrameOut (bs : List Int) (w : World) (e : Ending) (w' : World) : Prop :=
  ∃ v, e = .returned (.tuple #[v, .int .i64 0]) ∧ Row w' w.heap.size 5 1 v (frameW bs).length ((frameW bs).map u8v) ∧ Fr w w' (fun _ => False)

theorem rframe_any (A : Option Addr) (n cap : Nat) (bs : List Int) (w : World) (hbn : bs.length = n) (hr : Rd w 1 A n (bs.map u8v)) (hn : n ≤ 20000) :
    Calls Tryd.prog 7 #[.slice A n cap] w (FrameOut bs w) := by
  obtain ⟨i0, hi0, hz0, hz1, hz2⟩ := info_parts info5
  have HN := Lib.hid hbn
  have HR := Lib.hid hr
  have HO := Lib.hid (one_u8 bs)
  clear hbn hr
  have hcb := fun (w : World) (s : ByteArray) => Lib.run_convert_string_bytes (P := Tryd.prog) w 9 22 5 s Tryd.underlying9 Tryd.underlying22 Tryd.underlying5
  go_enter Tryd.func7, Tryd.ntmps7
  go_wp2_with fail
  refine (digits_any 4 n w (by omega) (by omega) (by omega)).mono ?_
  rintro e w1 ⟨s, rfl, hs, hsz, hf1⟩
  have HS := Lib.hid hs
  have HF1 := Lib.hid hf1
  clear hs hf1
  obtain ⟨s2, hs2⟩ : ∃ s2, s2 = s ++ { data := #[58] } := ⟨_, rfl⟩
  have h2 : s2.size = s.size + 1 := by rw [hs2, ByteArray.size_append]; rfl
  have hadd : ∀ w, (Op.stringOp .add s { data := #[58] }).run Tryd.prog w = .ok (.string s2) w := fun w => by
    rw [hs2]
    exact run_string_add_sum w _ _ (by show s.size + 1 ≤ _; omega)
  have HS2 := Lib.hid hs2
  obtain ⟨row, hfb⟩ := bytes_row w1 5 s2 (by simp only [maxLen]; omega)
  have ROW := Lib.hid row
  have HFB := Lib.hid hfb
  have h3 : s2.size ≤ 21 := by omega
  have H2 := Lib.hid h2
  clear hs2 row hfb h2
  go_wp2_with (first
    | (at_builtin; refine wpList_append_row _ rfl (.tmp 11) (.tmp 12) 22 rfl w1.heap.size 5 i0 _ 1 1 Tryd.underlying22 hi0 hz0 hz1 hz2 rfl (by decide) _ s2.size _ rfl ROW.out A n cap _ rfl ((HR.out.fr HF1.out (fun _ _ _ _ h => h)).fr HFB.out (fun _ _ _ _ h => h)) HO.out (by simp only [maxLen]; omega) (by omega) HFB.out.size ?_; intro v2 w2 hrow2 hfr2 _)
    | (at_builtin; refine wpList_append_row _ rfl (.tmp 13) (.tmp 14) 22 rfl w1.heap.size 5 i0 _ 1 1 Tryd.underlying22 hi0 hz0 hz1 hz2 rfl (by decide) v2 (s2.size + n) _ rfl (hrow2.fr (Fr.new _ _ (fun _ => False)) (fun _ _ h => h)) _ 1 1 [.int .u8 10] rfl (rd_new w2 5 (0, 0) [.int .u8 10]) (one_u8 [10]) (by simp only [maxLen]; omega) (by omega) (Nat.le_trans (Nat.le_trans HFB.out.size hfr2.size) (Fr.new w2 _ (fun _ => False)).size) ?_; intro v3 w3 hrow3 hfr3 _))
  go_ret2
  have hsz2 : s2.size = (digW n).length + 1 := by
    rw [H2.out, HS.out, decStr_len]
  have hcells : strCells s2 ++ bs.map u8v ++ [.int .u8 10] = (frameW bs).map u8v := by
    rw [HS2.out, HS.out, strCells_dig]
    simp [frameW, HN.out, u8v]
  have hlen : s2.size + n + 1 = (frameW bs).length := by
    rw [hsz2]
    simp [frameW, HN.out]
    omega
  rw [hcells, hlen] at hrow3
  have f2 : Fr w1 w2 (fun _ => False) := HFB.out.fresh hfr2 (fun k e => (ROW.out.lt k e.symm).1)
  have f3 : Fr w1 w3 (fun _ => False) := (f2.trans (Fr.new _ _ (fun _ => False)) (fun _ _ h => h) (fun _ _ h => h)).fresh hfr3 (fun k e => (hrow2.lt k e.symm).1)
  exact ⟨v3, rfl, hrow3.base HF1.out.size, HF1.out.trans f3 (fun _ _ h => h) (fun _ _ h => h)⟩
end Go.Proofs.YtcjednmenbdmnaaDoor
