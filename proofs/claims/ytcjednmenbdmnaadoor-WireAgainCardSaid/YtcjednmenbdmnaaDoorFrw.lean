import Derived.Test.YtcjednmenbdmnaaDoorFrm
import Derived.Test.YtcjednmenbdmnaaDoorSame
namespace Go.Proofs.YtcjednmenbdmnaaDoor
open Go.RowKit Go.Mem Go.Wire

abbrev TabOk (B : Nat) (w : World) : Prop := Lib.TabBelow Tryd.prog B w "internal/strconv.uint64pow10" .u64 Lib.pow10Tab
theorem tab_more {B B' : Nat} {w : World} (h : TabOk B w) (hb : B ≤ B') : TabOk B' w := fun w' h' => h w' (h'.mono hb)
theorem tab_fr {B : Nat} {w w' : World} (h : TabOk B w) (hb : B ≤ w.heap.size) (f : Fr w w' (fun _ => False)) : TabOk B w' := h.on (f.below hb (fun _ h => h.elim))

theorem frame_any (B : Nat) (A : Option Addr) (n cap : Nat) (bs : List Int) (w : World) (hbn : bs.length = n) (hr : Rd w 1 A n (bs.map u8v)) (hn : n ≤ 20000) (hB : B ≤ w.heap.size) (ht : TabOk B w) :
    Calls Tryd.prog 6 #[.slice A n cap] w (FrameOut bs w) := by
  obtain ⟨i0, hi0, hz0, hz1, hz2⟩ := info_parts info5
  have HN := Lib.hid hbn
  have HR := Lib.hid hr
  have HO := Lib.hid (one_u8 bs)
  have HT := Lib.hid (tab_more ht hB)
  clear hbn hr ht
  go_enter Tryd.func6, Tryd.ntmps6
  have hcap : (6 + (n : Int) + 1) = ((n + 7 : Nat) : Int) := by omega
  have HCAP := Lib.hid hcap
  clear hcap
  go_wp2_with (at_make; refine wpList_make_own _ rfl _ _ 22 rfl w.heap.size 5 i0 _ 1 Tryd.underlying22 hi0 hz0 hz1 .i64 .i64 _ (n + 7) rfl rfl HCAP.out (by rw [hz2]; omega) (by simp only [maxLen]; omega) (Nat.le_refl _) ?_; intro w1 hown1 hg1)
  have f1 : Fr w w1 (fun _ => False) := (Fr.ofGrown hg1).mono (fun _ _ h => by cases h)
  have F1 := Lib.hid f1
  have O1 := Lib.hid hown1
  have T1 := Lib.hid (tab_fr HT.out (Nat.le_refl _) f1)
  clear f1 hown1 hg1
  refine (Tryd.strconv_AppendInt_10 w.heap.size 0 n (by omega) (by omega) _ [] w1 O1.out F1.out.size (by omega) T1.out).mono ?_
  rintro e w2 ⟨v2, rfl, hown2, hb2, -⟩
  have hdl : (Lib.itoa (n : Int)).length = (digW n).length := by rw [Lib.itoa_nonneg]; simp [digW]
  have hdc : Lib.byteCells (Lib.itoa (n : Int)) = (digW n).map u8v := by rw [Lib.itoa_nonneg]; simp [digW, Lib.byteCells, u8v]
  have hd20 : (digW n).length ≤ 5 := by
    have := decStr_size 4 n (by omega)
    rw [decStr_len] at this
    exact this
  rw [hdl, hdc, Nat.zero_add, List.nil_append] at hown2
  have F2 := Lib.hid (F1.out.fresh (Fr.ofBelow hb2) (fun _ h => h))
  have O2 := Lib.hid hown2
  clear hown2 hb2 hdl hdc
  have H1 := Lib.hid (one_u8 [58])
  have H2 := Lib.hid (one_u8 [10])
  obtain ⟨d, hd⟩ : ∃ d, d = (digW n).length := ⟨_, rfl⟩
  rw [← hd] at O2 hd20
  have HD := Lib.hid hd
  clear hd
  go_wp2_with (first
    | (at_builtin; refine wpList_append_own_at _ rfl (.tmp 17) (.tmp 18) 22 rfl w.heap.size 5 i0 _ 1 1 Tryd.underlying22 hi0 hz0 hz1 hz2 rfl (by decide) v2 d _ rfl (O2.out.alloc _) ⟨w2.heap.size, 0, none⟩ 1 1 [.int .u8 58] rfl rfl (cell_one_new _ _ _) H1.out (by simp only [maxLen]; omega) (by omega) (Nat.le_trans F2.out.size (Fr.new w2 _ (fun _ => False)).size) ?_; intro v3 w3 hown3 hg3 _ _)
    | (at_builtin; refine wpList_append_rd _ rfl (.tmp 20) (.tmp 21) 22 rfl w.heap.size 5 i0 _ 1 1 Tryd.underlying22 hi0 hz0 hz1 hz2 rfl (by decide) v3 (d + 1) _ rfl hown3 A n cap _ rfl (HR.out.fr (F2.out.fresh (Fr.new w2 _ (fun _ => False)) (fun _ h => h.elim) |>.fresh (Fr.ofGrown hg3) (fun k e => (O2.out.lt k e.symm).1)) (fun _ _ _ _ h => h)) HO.out (by simp only [maxLen]; omega) (by omega) (Nat.le_trans (Nat.le_trans F2.out.size (Fr.new w2 _ (fun _ => False)).size) hg3.size) ?_; intro v4 w4 hown4 hg4 _)
    | (at_builtin; refine wpList_append_own_at _ rfl (.tmp 23) (.tmp 24) 22 rfl w.heap.size 5 i0 _ 1 1 Tryd.underlying22 hi0 hz0 hz1 hz2 rfl (by decide) v4 (d + 1 + n) _ rfl (hown4.alloc _) ⟨w4.heap.size, 0, none⟩ 1 1 [.int .u8 10] rfl rfl (cell_one_new _ _ _) H2.out (by simp only [maxLen]; omega) (by omega) (Nat.le_trans (Nat.le_trans (Nat.le_trans (Nat.le_trans F2.out.size (Fr.new w2 _ (fun _ => False)).size) hg3.size) hg4.size) (Fr.new w4 _ (fun _ => False)).size) ?_; intro v5 w5 hown5 hg5 _ _))
  go_ret2
  have hcells : (digW n).map u8v ++ [.int .u8 58] ++ bs.map u8v ++ [.int .u8 10] = (frameW bs).map u8v := by simp [frameW, HN.out, u8v]
  have hlen : d + 1 + n + 1 = (frameW bs).length := by
    simp [frameW, HN.out, HD.out]
    omega
  have no : ∀ k : Nat, False → w.heap.size ≤ k := fun _ h => h.elim
  have f3 := (F2.out.fresh (Fr.new w2 _ (fun _ => False)) no).fresh (Fr.ofGrown hg3) (fun k e => (O2.out.lt k e.symm).1)
  have f4 := f3.fresh (Fr.ofGrown hg4) (fun k e => (hown3.lt k e.symm).1)
  have f5 := (f4.fresh (Fr.new w4 _ (fun _ => False)) no).fresh (Fr.ofGrown hg5) (fun k e => (hown4.lt k e.symm).1)
  rw [hcells, hlen] at hown5
  exact ⟨v5, rfl, .of_own hown5, f5⟩

theorem frame_big (A : Option Addr) (n cap : Nat) (w : World) (hn : 20000 < n) (_hm : n ≤ maxLen) : Calls Tryd.prog 6 #[.slice A n cap] w fun e w' => e = .returned (.tuple #[.slice none 0 0, .int .i64 17]) ∧ w = w' := by
  go_enter Tryd.func6, Tryd.ntmps6
  go_wp2
  go_ret2
  exact ⟨rfl, rfl⟩
theorem rframe_big (A : Option Addr) (n cap : Nat) (w : World) (hn : 20000 < n) (_hm : n ≤ maxLen) : Calls Tryd.prog 7 #[.slice A n cap] w fun e w' => e = .returned (.tuple #[.slice none 0 0, .int .i64 17]) ∧ w = w' := by
  go_enter Tryd.func7, Tryd.ntmps7
  go_wp2
  go_ret2
  exact ⟨rfl, rfl⟩

theorem frames_walk (A : Option Addr) (n cap : Nat) (bs : List Int) (W : World) (hbn : bs.length = n) (hr : Rd W 1 A n (bs.map u8v)) (hm : n ≤ maxLen) (ht : TabOk W.heap.size W) :
    Calls Tryd.prog 3 #[.slice A n cap] W fun e w' => e = .returned (.bool true) ∧ Fr W w' (fun _ => False) := by
  by_cases hn : n ≤ 20000
  · have HN := Lib.hid hbn
    have HR := Lib.hid hr
    have HT := Lib.hid ht
    clear hbn hr ht
    have hfl : (frameW bs).length ≤ 30000 := by
      have := decStr_size 4 n (by omega)
      rw [decStr_len] at this
      simp [frameW, HN.out]
      omega
    go_enter Tryd.func3, Tryd.ntmps3
    go_wp2_with fail
    refine (frame_any W.heap.size A n cap bs W HN.out HR.out hn (Nat.le_refl _) HT.out).mono ?_
    rintro e w1 ⟨v1, rfl, row1, hf1⟩
    have R1 := Lib.hid row1
    have F1 := Lib.hid hf1
    clear row1 hf1
    go_wp2_with fail
    refine (rframe_any A n cap bs w1 HN.out (HR.out.fr F1.out (fun _ _ _ _ h => h)) hn).mono ?_
    rintro e w2 ⟨v2, rfl, row2, hf2⟩
    obtain ⟨A1, c1, rfl, -, -, rd1, -⟩ := (R1.out.fr hf2 (fun _ _ h => h)).rd
    obtain ⟨A2, c2, rfl, -, -, rd2, -⟩ := row2.rd
    have F2 := Lib.hid hf2
    have D1 := Lib.hid rd1
    have D2 := Lib.hid rd2
    clear row2 hf2 rd1 rd2
    go_wp2_with fail
    refine (same_true A1 A2 _ c1 c2 (frameW bs) w2 D1.out D2.out (by omega)).mono ?_
    rintro e w3 ⟨rfl, m3, hw3⟩
    have F3 := Lib.hid (show Fr w2 w3 (fun _ => False) by rw [hw3]; exact Fr.drewN _ _ _)
    clear hw3
    go_wp2_with fail
    refine (alive_true w3).mono ?_
    rintro e w4 ⟨rfl, hf4⟩
    have F4 := Lib.hid hf4
    clear hf4
    go_wp2_with fail
    go_ret
    have t : ∀ {a b c : World}, Fr a b (fun _ => False) → Fr b c (fun _ => False) → Fr a c (fun _ => False) := fun h k => h.trans k (fun _ _ h => h) (fun _ _ h => h)
    exact ⟨rfl, t (t (t F1.out F2.out) F3.out) F4.out⟩
  · have hn' : 20000 < n := by omega
    clear hbn hr ht hn
    go_enter Tryd.func3, Tryd.ntmps3
    go_wp2_with fail
    refine (frame_big A n cap W hn' hm).mono ?_
    rintro e w1 ⟨rfl, rfl⟩
    go_wp2_with fail
    refine (rframe_big A n cap W hn' hm).mono ?_
    rintro e w1 ⟨rfl, rfl⟩
    go_wp2_with fail
    refine (same_true none none 0 0 0 [] W (Rd.zero _ _ _) (Rd.zero _ _ _) (by omega)).mono ?_
    rintro e w3 ⟨rfl, m3, hw3⟩
    have F3 := Lib.hid (show Fr W w3 (fun _ => False) by rw [hw3]; exact Fr.drewN _ _ _)
    clear hw3
    go_wp2_with fail
    refine (alive_true w3).mono ?_
    rintro e w4 ⟨rfl, hf4⟩
    have F4 := Lib.hid hf4
    clear hf4
    go_wp2_with fail
    go_ret
    exact ⟨rfl, F3.out.trans F4.out (fun _ _ h => h) (fun _ _ h => h)⟩
end Go.Proofs.YtcjednmenbdmnaaDoor
