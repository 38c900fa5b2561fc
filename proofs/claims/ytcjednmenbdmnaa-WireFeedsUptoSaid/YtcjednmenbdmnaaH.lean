import Derived.Test.YtcjednmenbdmnaaG
import Derived.Test.YtcjednmenbdmnaaBack
namespace Go.Proofs.Ytcjednmenbdmnaa
open Go.RowKit Go.Mem Go.Wire

def PairR (W : World) (x : Pair) : Prop := ∃ A c, x.2 = .slice A (bytesOf x.1).length c ∧ Rd W 1 A (bytesOf x.1).length ((bytesOf x.1).map u8v)
/-- the items of the document's answer: their bytes lie in W -/
def RItems (W wr : World) (v : Value) (its : List It) : Prop :=
  ∃ l : List Pair, l.map (·.1) = its ∧ wr.ownsRow W.heap.size 43 2 v its.length (l.flatMap pairCells) ∧ ∀ x ∈ l, PairR W x
theorem RItems.fr {W w w' : World} {v : Value} {its : List It} (h : RItems W w v its) (hf : Fr w w' (fun _ => False)) : RItems W w' v its := by
  obtain ⟨l, h1, h2, h3⟩ := h
  exact ⟨l, h1, hf.own h2 (fun _ _ h => h), h3⟩
theorem RItems.tells {W w : World} {v : Value} {its : List It} (h : RItems W w v its) (hf : Fr W w (fun _ => False)) : ∃ A c, v = .slice A its.length c ∧ Tells w A its.length its := by
  obtain ⟨l, h1, h2, h3⟩ := h
  obtain ⟨A, c, hv, hc, hm, hrd, -⟩ := own_rd h2
  refine ⟨A, c, hv, l, h1, hrd, by rw [← h1, List.length_map], fun x hx => ?_⟩
  obtain ⟨A', c', e, hr⟩ := h3 x hx
  exact ⟨A', c', e, hr.fr hf (fun _ _ _ _ h => h)⟩
def lenOf : Value → Nat | .slice _ n _ => n | _ => 0

theorem rpush {W w w' : World} {v v' : Value} {its : List It} {x : Pair} (o : Array Value) (l : List Pair) (h1 : l.map (·.1) = its) (h2 : w.ownsRow W.heap.size 43 2 v its.length (l.flatMap pairCells))
    (h3 : ∀ x ∈ l, PairR W x) (hx : PairR W x) (ho : w'.ownsRow W.heap.size 43 2 v' (its.length + 1) (l.flatMap pairCells ++ [.bool x.1.isNone, x.2])) (hg : (w.alloc (.cells o 43)).grownBy w' v.ownBlock)
    (hf : Fr W w (fun _ => False)) : RItems W w' v' (its ++ [x.1]) ∧ Fr W w' (fun _ => False) := by
  refine ⟨⟨l ++ [x], by simp [h1], by simpa [pairCells] using ho, fun y hy => ?_⟩, ?_⟩
  · rcases List.mem_append.1 hy with hy | hy
    · exact h3 y hy
    · simp at hy
      subst hy
      exact hx
  · exact (hf.trans (Fr.new w _ (fun _ => False)) (fun _ _ h => h) (fun _ _ h => h)).trans (Fr.ofGrown hg) (fun _ _ h => h) (fun k hk e => by have := (h2.lt k e.symm).1; omega)

theorem drop_ok {A' : Option Addr} {n' c' k : Nat} {W : World} {rest : List Int} (hr : Rd W 1 A' n' (rest.map u8v)) (hc : n' ≤ c') (hl : rest.length = n') (hk : k ≤ n') :
    Rd W 1 (cutA A' c' k 1) (n' - k) ((rest.drop k).map u8v) := by
  have := hr.cutA (lo := k) (hi := n') hk (Nat.le_refl _) hc
  simp only [Nat.mul_one] at this
  rw [← List.map_drop, List.take_of_length_le (by simp; omega)] at this
  exact this

/-- what the document's Split leaves -/
def RSplitOut (W : World) (bs : List Int) (e : Ending) (w' : World) : Prop :=
  ∃ v A' c', e = .returned (.tuple #[v, .slice A' (splitW bs).2.length c']) ∧ RItems W w' v (splitW bs).1 ∧ Rd W 1 A' (splitW bs).2.length ((splitW bs).2.map u8v) ∧ Fr W w' (fun _ => False)

theorem rsplit_any (A : Option Addr) (n cap : Nat) (bs : List Int) (W : World) (hb : ∀ x ∈ bs, 0 ≤ x ∧ x ≤ 255) (hbn : bs.length = n) (hr : Rd W 1 A n (bs.map u8v)) (hnc : n ≤ cap) (hn : n ≤ 1099511627776) :
    Calls Try.prog 7 #[.slice A n cap] W (RSplitOut W bs) := by
  obtain ⟨i0, hi0, hz0, hz1, hz2⟩ := info_parts info43
  have HB := Lib.hid hb
  have HN := Lib.hid hbn
  have HR := Lib.hid hr
  clear hb hbn hr
  go_enter Try.func7, Try.ntmps7
  go_wp2_with fail
  go_loopw [0, 4] (fun v0 v4 wr => ∃ A' n' c' rest its, v0 = .slice A' n' c' ∧ n' ≤ c' ∧ its.length + n' ≤ n ∧ rest.length = n' ∧ (∀ x ∈ rest, 0 ≤ x ∧ x ≤ 255) ∧ Rd W 1 A' n' (rest.map u8v) ∧
    splitW bs = (its ++ (splitW rest).1, (splitW rest).2) ∧ RItems W wr v4 its ∧ Fr W wr (fun _ => False)) (fun v0 _ _ => lenOf v0)
  case atStart =>
    exact ⟨A, n, cap, bs, [], rfl, hnc, by simp, HN.out, HB.out, HR.out, by simp, ⟨[], rfl, World.ownsRow_nil _ _ _ _, fun x hx => by cases hx⟩, Fr.refl _ _⟩
  case round =>
    obtain ⟨A', n', c', rest, its, rfl, hnc', hil, hrl, hrb, hrd, hsp, hits, hf⟩ := hrel
    have HRL := Lib.hid hrl
    have HRB := Lib.hid hrb
    have HRD := Lib.hid hrd
    have HSP := Lib.hid hsp
    have HIT := Lib.hid hits
    have HF := Lib.hid hf
    clear hrl hrb hrd hsp hits hf
    by_cases h0 : n' = 0
    · subst h0
      have hnil : rest = [] := List.eq_nil_of_length_eq_zero HRL.out
      go_wp2_with fail
      go_ret2
      have hs := HSP.out
      rw [hnil, splitW_nil] at hs
      simp only [List.append_nil] at hs
      unfold RSplitOut
      rw [hs]
      exact ⟨u4, none, 0, rfl, HIT.out, Rd.zero _ _ _, HF.out⟩
    · have hpos : 0 < n' := by omega
      have hne : Hid (rest ≠ []) := by
        intro e
        have := HRL.out
        rw [e] at this
        exact h0 this.symm
      clear h0
      have hrw := HRD.out.fr HF.out (fun _ _ _ _ h => h)
      have HRW := Lib.hid hrw
      clear hrw
      go_wp2_with fail
      refine (first_any A' n' c' rest wr HRB.out HRL.out HRW.out hnc' (by omega)).mono ?_
      rintro e w1 ⟨Ax, lx, cx, rfl, hlx, hrx, m, hw1⟩
      have hf1 : Fr W w1 (fun _ => False) := by rw [hw1]; exact HF.out.trans (Fr.drewN wr m _) (fun _ _ h => h) (fun _ _ h => h)
      have HF1 := Lib.hid hf1
      have hit1 : RItems W w1 u4 its := by rw [hw1]; exact HIT.out.fr (Fr.drewN wr m _)
      have HIT1 := Lib.hid hit1
      have HLX := Lib.hid hlx
      have HRX := Lib.hid (hrx W HRD.out)
      clear hw1 hf1 hit1 hlx hrx
      have hk2 := firstW_le rest
      have hk3 : (firstW rest).1 = 0 ∨ (firstW rest).1 = 1 ∨ (firstW rest).1 = 2 := by omega
      clear hk2
      rcases hk3 with hk | hk | hk
      · have HK := Lib.hid hk
        have e0 : (((firstW rest).1 : Int) == 0) = true := by simp [hk]
        clear hk
        go_wp2_with fail
        go_ret2
        have hs := HSP.out
        rw [splitW_left rest hne.out HK.out] at hs
        simp only [List.append_nil] at hs
        unfold RSplitOut
        rw [hs, HRL.out]
        exact ⟨u4, A', c', rfl, HIT1.out, HRD.out, HF1.out⟩
      · have HK := Lib.hid hk
        have e0 : (((firstW rest).1 : Int) == 0) = false := by simp [hk]
        have e1 : (((firstW rest).1 : Int) == 1) = true := by simp [hk]
        obtain ⟨hat1, hat2⟩ := firstW_whole rest hk
        rw [HRL.out] at hat2
        clear hk
        obtain ⟨l, l1, l2, l3⟩ := HIT1.out
        have L1 := Lib.hid l1
        have L2 := Lib.hid l2
        have L3 := Lib.hid l3
        have hq1 : its.length + 1 ≤ maxLen := by simp only [maxLen]; omega
        have hq2 : (its.length + 1) * 32 ≤ 140737488355328 := by omega
        have hbs : W.heap.size ≤ (w1.alloc (.cells #[.bool false, .slice Ax lx cx] 43)).heap.size := by
          have := HF1.out.size
          simp
          omega
        clear l1 l2 l3
        have hsl : ∀ w, (Instr.slice 22 (.slice A' n' c') (some (.int .i64 ((firstW rest).2.1 : Int))) none none).run Try.prog w = .ok (.slice (cutA A' c' (firstW rest).2.1 1) (n' - (firstW rest).2.1) (c' - (firstW rest).2.1)) w := fun w => run_cut_lo w 22 5 1 Try.underlying22 size5 A' n' c' _ hat2
        go_wp2_with (at_builtin; refine wpList_append_own_at _ rfl (.tmp 23) (.tmp 26) 26 rfl W.heap.size 43 i0 _ 2 32 Try.underlying26 hi0 hz0 hz1 hz2 rfl (by decide) u4 its.length (l.flatMap pairCells) rfl (L2.out.alloc _) ⟨w1.heap.size, 0, none⟩ 1 1 [.bool false, .slice Ax lx cx] rfl rfl (two_new _ _ _ _) (one_two _ _ rfl rfl) hq1 hq2 hbs ?_; intro v' w3 hown hg3 _ hat)
        obtain ⟨r1, r2⟩ := rpush (x := (some (firstW rest).2.2, .slice Ax lx cx)) _ l L1.out L2.out L3.out ⟨Ax, cx, by rw [HLX.out]; rfl, by have := HRX.out; rw [HLX.out] at this; exact this⟩ hown hg3 HF1.out
        go_roundw
        case rel =>
          refine ⟨_, _, _, rest.drop (firstW rest).2.1, its ++ [some (firstW rest).2.2], rfl, by omega, by simp; omega, by rw [List.length_drop, HRL.out], fun x hx => HRB.out x (List.mem_of_mem_drop hx), drop_ok HRD.out hnc' HRL.out hat2, ?_, r1, r2⟩
          rw [HSP.out, splitW_whole rest hne.out HK.out]
          simp
        case measure => simp [lenOf]; omega
      · have HK := Lib.hid hk
        have e0 : (((firstW rest).1 : Int) == 0) = false := by simp [hk]
        have e1 : (((firstW rest).1 : Int) == 1) = false := by simp [hk]
        clear hk
        obtain ⟨l, l1, l2, l3⟩ := HIT1.out
        have L1 := Lib.hid l1
        have L2 := Lib.hid l2
        have L3 := Lib.hid l3
        have hq1 : its.length + 1 ≤ maxLen := by simp only [maxLen]; omega
        have hq2 : (its.length + 1) * 32 ≤ 140737488355328 := by omega
        have hbs : W.heap.size ≤ (w1.alloc (.cells #[.bool true, .slice none 0 0] 43)).heap.size := by
          have := HF1.out.size
          simp
          omega
        clear l1 l2 l3
        go_wp2_with (at_builtin; refine wpList_append_own_at _ rfl (.tmp 31) (.tmp 33) 26 rfl W.heap.size 43 i0 _ 2 32 Try.underlying26 hi0 hz0 hz1 hz2 rfl (by decide) u4 its.length (l.flatMap pairCells) rfl (L2.out.alloc _) ⟨w1.heap.size, 0, none⟩ 1 1 [.bool true, .slice none 0 0] rfl rfl (two_new _ _ _ _) (one_two _ _ rfl rfl) hq1 hq2 hbs ?_; intro v' w3 hown hg3 _ hat)
        obtain ⟨r1, r2⟩ := rpush (x := (none, .slice none 0 0)) _ l L1.out L2.out L3.out ⟨none, 0, rfl, Rd.zero _ _ _⟩ hown hg3 HF1.out
        have R1 := Lib.hid r1
        have R2 := Lib.hid r2
        have HRW3 := Lib.hid (HRD.out.fr r2 (fun _ _ _ _ h => h))
        clear r1 r2 hown hg3 hat
        go_loop [6] (fun v6 => ∃ k : Nat, k ≤ n' ∧ v6 = .int .i64 k ∧ lineW rest (firstW rest).2.1 = lineW rest k) (fun v6 => n' - (intOf v6).toNat)
        case atStart =>
          exact ⟨(firstW rest).2.1, by have := firstW_bad rest HK.out; rw [HRL.out] at this; exact this, rfl, rfl⟩
        case round =>
          obtain ⟨k, hkn, rfl, hline⟩ := hrel
          have HLINE := Lib.hid hline
          clear hline
          by_cases hlt : k < n'
          · obtain ⟨b, off, rfl, hcell⟩ := Rd.u8 HRW3.out hlt
            have hkl : k < rest.length := by rw [HRL.out]; exact hlt
            have hc := hcell k hkl
            obtain ⟨c, hcc⟩ : ∃ c, rest[k] = c := ⟨_, rfl⟩
            rw [hcc] at hc
            have HC : Hid (rest[k]? = some c) := by
              show _ = _
              rw [List.getElem?_eq_getElem hkl, hcc]
            clear hcell hcc hkl
            by_cases h10 : c = 10
            · have e10 : ((c : Int) != 10) = false := by simp [h10]
              have HL : Hid (lineW rest (firstW rest).2.1 = k) := by
                show _ = _
                rw [HLINE.out, lineW_hit rest k (by rw [HC.out, h10])]
              have ekn : ((k : Int) == (n' : Int)) = false := by simp; omega
              have hsl : ∀ w, (Instr.slice 22 (.slice (some ⟨b, off, none⟩) n' c') (some (.int .i64 ((k : Int) + 1))) none none).run Try.prog w = .ok (.slice (cutA (some ⟨b, off, none⟩) c' (k + 1) 1) (n' - (k + 1)) (c' - (k + 1))) w := fun w => run_cut_lo w 22 5 1 Try.underlying22 size5 _ n' c' (k + 1) (by omega)
              clear h10
              go_wp2_with fail
              go_roundw
              case rel =>
                refine ⟨_, _, _, rest.drop (k + 1), its ++ [none], rfl, by omega, by simp; omega, by rw [List.length_drop, HRL.out], fun x hx => HRB.out x (List.mem_of_mem_drop hx), drop_ok HRD.out hnc' HRL.out (by omega), ?_, R1.out, R2.out⟩
                rw [HSP.out, splitW_bad rest hne.out HK.out (by rw [HL.out, HRL.out]; exact hlt), HL.out]
                simp
              case measure => simp [lenOf]; omega
            · have e10 : ((c : Int) != 10) = true := by simpa using h10
              have HL : Hid (lineW rest (firstW rest).2.1 = lineW rest (k + 1)) := by
                show _ = _
                rw [HLINE.out, lineW_miss rest k c HC.out h10]
              clear h10
              go_wp2_with fail
              go_round
              case rel => exact ⟨k + 1, by omega, by go_num, HL.out⟩
              case measure => simp [intOf]; omega
          · have hkn' : k = n' := by omega
            have HL : Hid (lineW rest (firstW rest).2.1 = k) := by
              show _ = _
              rw [HLINE.out, lineW_end rest k (by rw [HRL.out]; omega)]
            subst hkn'
            go_wp2_with fail
            go_ret2
            have hs := HSP.out
            rw [splitW_bad_end rest hne.out HK.out (by rw [HL.out, HRL.out]; exact Nat.le_refl _)] at hs
            simp only at hs
            have R1' := R1.out
            have R2' := R2.out
            unfold RSplitOut
            rw [hs]
            exact ⟨v', none, 0, rfl, R1', Rd.zero _ _ _, R2'⟩
end Go.Proofs.Ytcjednmenbdmnaa
