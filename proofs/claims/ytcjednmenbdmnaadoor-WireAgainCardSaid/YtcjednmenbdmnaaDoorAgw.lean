import Derived.Test.YtcjednmenbdmnaaDoorFrp
import Derived.Test.YtcjednmenbdmnaaDoorFrw
namespace Go.Proofs.YtcjednmenbdmnaaDoor
open Go.RowKit Go.Mem Go.Wire

/-- a new row of bytes is owned -/
theorem own_row {w : World} (e : TypeId) (cs : List Value) (base : Nat) (hb : base ≤ w.heap.size) (hm : cs.length ≤ maxLen) :
    (w.alloc (.cells cs.toArray e)).ownsRow base e 1 (.slice (some ⟨w.heap.size, 0, none⟩) cs.length cs.length) cs.length cs :=
  ⟨by simp, .inr ⟨w.heap.size, cs.length, cs.toArray, rfl, hb, heap_alloc_new w _, Nat.le_refl _, hm, by simp, by simp⟩⟩

def keep (l : List Int) : List Int := l.filter (· ≠ 10)
theorem keep_len (l : List Int) : (keep l).length ≤ l.length := List.length_filter_le _ _
theorem keep_hit (l : List Int) (c : Int) (h : c ≠ 10) : keep (l ++ [c]) = keep l ++ [c] := by simp [keep, List.filter_append, h]
theorem keep_miss (l : List Int) (c : Int) (h : c = 10) : keep (l ++ [c]) = keep l := by simp [keep, List.filter_append, h]

theorem again_walk (Aj : Option Addr) (nj cj : Nat) (js : List Int) (A : Option Addr) (n cap : Nat) (bs : List Int) (W : World)
    (hjb : ∀ x ∈ js, 0 ≤ x ∧ x ≤ 255) (hjn : js.length = nj) (hjr : Rd W 1 Aj nj (js.map u8v)) (hjm : nj ≤ maxLen)
    (hb : ∀ x ∈ bs, 0 ≤ x ∧ x ≤ 255) (hbn : bs.length = n) (hr : Rd W 1 A n (bs.map u8v)) (hm : n ≤ maxLen) (ht : TabOk W.heap.size W) :
    Calls Tryd.prog 5 #[.slice Aj nj cj, .slice A n cap] W fun e w' => e = .returned (.bool true) ∧ Fr W w' (fun _ => False) := by
  by_cases hn : n ≤ 20000
  · obtain ⟨i0, hi0, hz0, hz1, hz2⟩ := info_parts info5
    have HN := Lib.hid hbn
    have HR := Lib.hid hr
    have HB := Lib.hid hb
    have HJN := Lib.hid hjn
    have HJR := Lib.hid hjr
    have HJB := Lib.hid hjb
    have HT := Lib.hid ht
    clear hbn hr hb hjn hjr hjb ht
    have hfl : (frameW bs).length ≤ 30000 := by
      have := decStr_size 4 n (by omega)
      rw [decStr_len] at this
      simp [frameW, HN.out]
      omega
    by_cases hj : 2000 < nj
    · go_enter Tryd.func5, Tryd.ntmps5
      go_wp2_with fail
      refine (frame_any W.heap.size A n cap bs W HN.out HR.out hn (Nat.le_refl _) HT.out).mono ?_
      rintro e w1 ⟨v1, rfl, row1, hf1⟩
      have F1 := Lib.hid hf1
      clear row1 hf1
      go_wp2_with fail
      refine (alive_true w1).mono ?_
      rintro e w2 ⟨rfl, hf2⟩
      have F2 := Lib.hid hf2
      clear hf2
      go_wp2_with fail
      go_ret
      exact ⟨rfl, F1.out.trans F2.out (fun _ _ h => h) (fun _ _ h => h)⟩
    · go_enter Tryd.func5, Tryd.ntmps5
      go_wp2_with fail
      refine (frame_any W.heap.size A n cap bs W HN.out HR.out hn (Nat.le_refl _) HT.out).mono ?_
      rintro e w1 ⟨v1, rfl, row1, hf1⟩
      have R1 := Lib.hid row1
      have F1 := Lib.hid hf1
      clear row1 hf1
      go_wp2_with fail
      go_loopw [7, 8] (fun v7 v8 wr => ∃ k : Nat, k ≤ nj ∧ v8 = .int .i64 k ∧ wr.ownsRow w1.heap.size 5 1 v7 ((keep (js.take k)).length + 1) (u8v 120 :: (keep (js.take k)).map u8v) ∧ Fr w1 wr (fun _ => False)) (fun _ v8 _ => nj - (intOf v8).toNat)
      case atStart =>
        exact ⟨0, Nat.zero_le _, rfl, own_row 5 [u8v 120] w1.heap.size (Nat.le_refl _) (by simp [maxLen]), Fr.new _ _ _⟩
      case round =>
        obtain ⟨k, hk, rfl, hown, hf⟩ := hrel
        have HO := Lib.hid hown
        have HF := Lib.hid hf
        clear hown hf
        have hkl := keep_len (js.take k)
        have hkt : (js.take k).length ≤ nj := by rw [List.length_take, HJN.out]; omega
        by_cases hlt : k < nj
        · obtain ⟨b, off, rfl, hcc⟩ := HJR.out.2 (by omega)
          have hkk : k < js.length := by rw [HJN.out]; exact hlt
          obtain ⟨c, hc⟩ : ∃ c, js[k] = c := ⟨_, rfl⟩
          have hcell := hcc k (u8v c) (by rw [List.getElem?_map, List.getElem?_eq_getElem hkk, hc]; rfl)
          have hbw : b < W.heap.size := World.block_lt_of_cell? W _ hcell
          have hcell : wr.cell? ⟨b, off + k, none⟩ = some (.int .u8 c) := (World.cell?_of_block (w := W) ((F1.out.trans HF.out (fun _ _ h => h) (fun _ _ h => h) : Fr W wr (fun _ => False)).block b hbw (fun h => h))).trans hcell
          have htk : Hid (js.take (k + 1) = js.take k ++ [c]) := by
            show _ = _
            rw [List.take_succ_eq_append_getElem hkk, hc]
          obtain ⟨c0, c1⟩ := HJB.out c (by rw [← hc]; exact List.getElem_mem hkk)
          clear hcc hc hkk hbw
          by_cases h10 : c = 10
          · have e10 : ((c : Int) != 10) = false := by simp [h10]
            have hkp := Lib.hid (keep_miss (js.take k) c h10)
            clear h10
            go_wp2_with fail
            go_roundw
            case rel => exact ⟨k + 1, by omega, by go_num, by rw [htk.out, hkp.out]; exact HO.out, HF.out⟩
            case measure => simp [intOf]; omega
          · have e10 : ((c : Int) != 10) = true := by simpa using h10
            have hkp := Lib.hid (keep_hit (js.take k) c h10)
            have H1 := Lib.hid (one_u8 [c])
            clear h10
            go_wp2_with (at_builtin; refine wpList_append_own_at _ rfl (.tmp 36) (.tmp 41) 22 rfl w1.heap.size 5 i0 _ 1 1 Tryd.underlying22 hi0 hz0 hz1 hz2 rfl (by decide) u7 _ _ rfl (HO.out.alloc _) ⟨wr.heap.size, 0, none⟩ 1 1 [.int .u8 c] rfl rfl (cell_one_new _ _ _) H1.out (by simp only [maxLen]; omega) (by omega) (Nat.le_trans HF.out.size (Fr.new wr _ (fun _ => False)).size) ?_; intro v' w2 hown2 hg2 _ _)
            have hf2 := (HF.out.fresh (Fr.new wr _ (fun _ => False)) (fun _ h => h.elim)).fresh (Fr.ofGrown hg2) (fun i e => (HO.out.lt i e.symm).1)
            go_roundw
            case rel => exact ⟨k + 1, by omega, by go_num, by rw [htk.out, hkp.out]; simpa [u8v] using hown2, hf2⟩
            case measure => simp [intOf]; omega
        · have hkn : k = nj := by omega
          have htk : js.take k = js := List.take_of_length_le (by rw [HJN.out]; omega)
          rw [htk] at HO hkl
          clear htk hkt
          obtain ⟨j, hjj⟩ : ∃ j, j = keep js := ⟨_, rfl⟩
          rw [← hjj] at HO hkl
          have hjne : ∀ x ∈ j, x ≠ 10 := fun x hx => by
            rw [hjj, keep] at hx
            simpa using (List.mem_filter.1 hx).2
          have hjby : ∀ x ∈ j, 0 ≤ x ∧ x ≤ 255 := fun x hx => by
            rw [hjj, keep] at hx
            exact HJB.out x (List.mem_filter.1 hx).1
          have hjl : j.length ≤ 2000 := by
            rw [HJN.out] at hkl
            omega
          have HJ1 := Lib.hid hjne
          have HJ2 := Lib.hid hjby
          clear hjj hjne hjby hkl
          subst hkn
          obtain ⟨A7, c7, rfl, -, -, rd7, -, -⟩ := own_rd HO.out
          obtain ⟨A1, c1, rfl, -, -, rd1, -⟩ := (R1.out.fr HF.out (fun _ _ h => h)).rd
          have D7 := Lib.hid rd7
          have D1 := Lib.hid rd1
          have M7 := Lib.hid (one_u8 (120 :: j))
          have M1 := Lib.hid (one_u8 (frameW bs))
          have M2 := Lib.hid (one_u8 [10])
          clear rd7 rd1
          go_wp2_with (first
            | (at_builtin; refine wpList_append_rd _ rfl (.tmp 44) (.tmp 45) 22 rfl wr.heap.size 5 i0 _ 1 1 Tryd.underlying22 hi0 hz0 hz1 hz2 rfl (by decide) (.slice (some ⟨wr.heap.size, 0, none⟩) 0 0) 0 [] rfl (World.ownsRow_made wr #[] 0 (Nat.le_refl _) (Nat.zero_le _) rfl) A7 (j.length + 1) c7 (u8v 120 :: j.map u8v) rfl (D7.out.fr (Fr.new wr _ (fun _ => False)) (fun _ _ _ _ h => h)) M7.out (by simp only [maxLen]; omega) (by omega) (Fr.new wr _ (fun _ => False)).size ?_; intro v2 w2 hown2 hg2 _; have F2 := Lib.hid ((Fr.new wr _ (fun _ => False)).fresh (Fr.ofGrown hg2) (fun i e => by simp [Value.ownBlock] at e; omega)); have hown2' := Lib.hid (show w2.ownsRow wr.heap.size 5 1 v2 (j.length + 1) (u8v 120 :: j.map u8v) by simpa using hown2); clear hown2 hg2)
            | (at_builtin; refine wpList_append_own_at _ rfl (.tmp 46) (.tmp 47) 22 rfl wr.heap.size 5 i0 _ 1 1 Tryd.underlying22 hi0 hz0 hz1 hz2 rfl (by decide) v2 (j.length + 1) (u8v 120 :: j.map u8v) rfl (hown2'.out.alloc _) ⟨w2.heap.size, 0, none⟩ 1 1 [.int .u8 10] rfl rfl (cell_one_new _ _ _) M2.out (by simp only [maxLen]; omega) (by omega) (Nat.le_trans F2.out.size (Fr.new w2 _ (fun _ => False)).size) ?_; intro v3 w3 hown3 hg3 _ _; have F3 := Lib.hid ((F2.out.fresh (Fr.new w2 _ (fun _ => False)) (fun _ h => h.elim)).fresh (Fr.ofGrown hg3) (fun i e => (hown2'.out.lt i e.symm).1)); have hown3' := Lib.hid hown3; clear hown3 hg3)
            | (at_builtin; refine wpList_append_rd _ rfl (.tmp 48) (.tmp 49) 22 rfl wr.heap.size 5 i0 _ 1 1 Tryd.underlying22 hi0 hz0 hz1 hz2 rfl (by decide) v3 (j.length + 1 + 1) _ rfl hown3'.out A1 (frameW bs).length c1 _ rfl (D1.out.fr F3.out (fun _ _ _ _ h => h)) M1.out (by simp only [maxLen]; omega) (by omega) F3.out.size ?_; intro v4 w4 hown4 hg4 _; have F4 := Lib.hid (F3.out.fresh (Fr.ofGrown hg4) (fun i e => (hown3'.out.lt i e.symm).1)); obtain ⟨A4, c4, rfl, -, -, rd4, -, -⟩ := own_rd hown4; have D4 := Lib.hid rd4; clear rd4 hown4 hg4))
          obtain ⟨σ', hrun, hheld⟩ := again_run j bs (by rw [HN.out]; exact hn) HJ1.out
          have hlen : (120 :: (j ++ (10 :: frameW bs))).length = j.length + 1 + 1 + (frameW bs).length := by simp; omega
          have hcells : u8v 120 :: j.map u8v ++ [.int .u8 10] ++ (frameW bs).map u8v = (120 :: (j ++ (10 :: frameW bs))).map u8v := by simp [u8v]
          have hby : ∀ x ∈ 120 :: (j ++ (10 :: frameW bs)), 0 ≤ x ∧ x ≤ 255 := fun x hx => by
            simp only [List.mem_cons, List.mem_append] at hx
            rcases hx with rfl | hx | rfl | hx
            · omega
            · exact HJ2.out x hx
            · omega
            · exact frame_bytes bs (by rw [HN.out]; exact hn) HB.out x hx
          have HRUN := Lib.hid hrun
          have HHELD := Lib.hid hheld
          have HBY := Lib.hid hby
          have HLEN := Lib.hid hlen
          have D5 := Lib.hid (show Rd w4 1 A4 (j.length + 1 + 1 + (frameW bs).length) ((120 :: (j ++ (10 :: frameW bs))).map u8v) by rw [← hcells]; exact D4.out)
          clear hrun hheld hby hlen hcells
          refine (split_any A4 _ c4 (120 :: (j ++ (10 :: frameW bs))) w4 HBY.out HLEN.out D5.out (by omega)).mono ?_
          rintro e w5 ⟨v5, r5, rfl, hi5, ho5, hf5⟩
          rw [show runW st0 _ = (σ', [none, some bs]) from HRUN.out] at hi5 ho5
          simp only [HHELD.out] at ho5
          obtain ⟨A5, c5, rfl, ht5, -⟩ := hi5.tells
          obtain ⟨B5, d5, rfl⟩ := own_slice ho5
          obtain ⟨b1, o1, it1, A6, c6, rfl, hit1, k1, k2, -⟩ := ht5.at_ (k := 0) (by simp)
          obtain ⟨b2, o2, it2, A8, c8, e2, hit2, k3, k4, rd8⟩ := ht5.at_ (k := 1) (by simp)
          simp at hit1 hit2 e2
          obtain ⟨rfl, rfl⟩ := e2
          subst hit1 hit2
          simp [bytesOf] at k1 k2 k3 k4
          have D8 := Lib.hid rd8
          have F5 := Lib.hid hf5
          have hnb : bs.length = n := HN.out
          rw [hnb] at k4
          clear hi5 ho5 ht5 rd8 hf5 hnb
          go_wp2_with fail
          have t : ∀ {a b c : World}, Fr a b (fun _ => False) → Fr b c (fun _ => False) → Fr a c (fun _ => False) := fun h k => h.trans k (fun _ _ h => h) (fun _ _ h => h)
          have FW := Lib.hid (t (t (t F1.out HF.out) F4.out) F5.out)
          have D9 := Lib.hid (show Rd w5 1 A8 n (bs.map u8v) by have := D8.out; simp only [bytesOf, HN.out] at this; exact this)
          clear t
          refine (same_true A8 A n c8 cap bs w5 D9.out (HR.out.fr FW.out (fun _ _ _ _ h => h)) (by omega)).mono ?_
          rintro e w6 ⟨rfl, m6, hw6⟩
          have F6 := Lib.hid (show Fr w5 w6 (fun _ => False) by rw [hw6]; exact Fr.drewN _ _ _)
          clear hw6
          go_wp2_with fail
          refine (alive_true w6).mono ?_
          rintro e w7 ⟨rfl, hf7⟩
          have F7 := Lib.hid hf7
          clear hf7
          go_wp2_with fail
          go_ret
          exact ⟨rfl, (FW.out.trans F6.out (fun _ _ h => h) (fun _ _ h => h)).trans F7.out (fun _ _ h => h) (fun _ _ h => h)⟩
  · have hn' : 20000 < n := by omega
    clear hbn hr ht hn hjn hjr hjb hb
    go_enter Tryd.func5, Tryd.ntmps5
    go_wp2_with fail
    refine (frame_big A n cap W hn' hm).mono ?_
    rintro e w1 ⟨rfl, rfl⟩
    go_wp2_with fail
    refine (alive_true W).mono ?_
    rintro e w4 ⟨rfl, hf4⟩
    have F4 := Lib.hid hf4
    clear hf4
    go_wp2_with fail
    go_ret
    exact ⟨rfl, F4.out⟩
end Go.Proofs.YtcjednmenbdmnaaDoor
