import Derived.Test.YtognobpgagaamaaDoorMon
namespace Go.Proofs.YtognobpgagaamaaDoor
open Go.RowKit Go.Mem Go.Kwd

def u8s (l : Bs) : List Value := (l.map fun b => (b.toNat : Int)).map (Value.int .u8)
theorem text_push (xs : List Int) (y : Int) : text (xs ++ [y]) = (text xs).push (UInt8.ofNat y.toNat) := by simp [text]
theorem text_bytes (l : Bs) : text (l.map fun b => (b.toNat : Int)) = ⟨l.toArray⟩ := by
  have : ∀ l : Bs, text ((l.reverse).map fun b => (b.toNat : Int)) = ⟨l.reverse.toArray⟩ := by
    intro l
    induction l with
    | nil => rfl
    | cons b l ih =>
      rw [List.reverse_cons, List.map_append, List.map_cons, List.map_nil, text_push, ih]
      have : UInt8.ofNat ((b.toNat : Int)).toNat = b := by simp
      rw [this]
      apply ByteArray.ext
      simp
  have := this l.reverse
  rw [List.reverse_reverse] at this
  exact this
theorem conv_nil (w : World) : (convert 35 9 (.slice none 0 0)).run Tryd.prog w = .ok (.string ⟨#[]⟩) w := by kernel_rfl
/-- a slice of bytes of the call's own, as a string -/
theorem own_text {w : World} {base : Nat} {v : Value} {l : Bs} (h : w.ownsRow base 5 1 v l.length (u8s l)) : (convert 35 9 v).run Tryd.prog w = .ok (strV l) w := by
  obtain ⟨A, c, rfl, -, -, hrd, hn, -⟩ := own_rd h
  cases A with
  | none =>
    have h0 := hn rfl
    obtain rfl : l = [] := List.length_eq_zero_iff.1 h0.1
    obtain rfl := h0.2
    exact conv_nil w
  | some a =>
    have := run_text (P := Tryd.prog) w 35 9 5 Tryd.underlying35 Tryd.underlying5 Tryd.underlying9 a l.length c (l.map fun b => (b.toNat : Int)) (show Rd w 1 (some a) l.length ((l.map fun b => (b.toNat : Int)).map (Value.int .u8)) from hrd)
    rw [text_bytes] at this
    exact this

theorem small_snoc {l : Bs} {k : Nat} {c : UInt8} (h : l[k]? = some c) : small (l.take (k + 1)) = small (l.take k) ++ [lowB c] := by
  obtain ⟨hk, rfl⟩ := List.getElem?_eq_some_iff.1 h
  rw [small, small, List.take_succ_eq_append_getElem hk, List.map_append]
  rfl
def SInv (w : World) (l : Bs) (n g : Nat) (v3 v4 : Value) (wr : World) : Prop :=
  ∃ k : Nat, k + g = n ∧ v4 = .int .i64 (k : Int) ∧ wr.ownsRow w.heap.size 5 1 v3 k (u8s (small (l.take k))) ∧ Fr w wr (fun _ => False)
set_option maxRecDepth 100000 in
theorem rsmall_any (l : Bs) (w : World) (hl : l.length ≤ 1000000) : Calls Tryd.prog 44 #[strV l] w fun e w' => e = .returned (strV (small l)) ∧ Fr w w' (fun _ => False) := by
  have hls := str_size l
  obtain ⟨s, hs⟩ : ∃ s : ByteArray, s = ⟨l.toArray⟩ := ⟨_, rfl⟩
  rw [← hs] at hls
  rw [show strV l = .string s by rw [hs]]
  have HSL := Lib.hid (show s.data.toList = l by rw [hs])
  clear hs
  have hsz : s.size ≤ 1000000 := by omega
  have HLS := Lib.hid hls
  clear hls
  obtain ⟨t, ht⟩ : ∃ t, small l = t := ⟨_, rfl⟩
  rw [ht]
  have HT := Lib.hid ht
  clear ht
  obtain ⟨i0, hi0, hz0, hz1, hz2⟩ := info_parts infoB
  go_enter Tryd.func44, Tryd.ntmps44
  go_wp2_with fail
  go_loopg [3, 4, 5] s.size (fun g v3 v4 _ wr => SInv w l s.size g v3 v4 wr)
  case atStart => exact ⟨0, by omega, rfl, World.ownsRow_nil _ _ _ _, Fr.refl _ _⟩
  case round =>
    obtain ⟨k, hk, rfl, hown, hf⟩ := hrel
    have HO := Lib.hid hown
    have HF := Lib.hid hf
    obtain ⟨A3, c3, rfl⟩ := own_slice hown
    have hws := hf.size
    clear hown hf
    by_cases hlt : k < s.size
    · have hget := get_str HSL.out hlt
      have HSN := Lib.hid (small_snoc hget)
      have h0 : (0 : Int) ≤ (k : Int) := by omega
      have h1 : (k : Int) < (s.size : Int) := by omega
      clear hget
      by_cases hg : 65 ≤ (s[k].toNat : Int) ∧ (s[k].toNat : Int) ≤ 90
      · have HE := Lib.hid (low_great hg.1 hg.2)
        obtain ⟨g1, g2⟩ := hg
        have HO3 := Lib.hid (HO.out.alloc (.cells #[.int .u8 ((s[k].toNat : Int) + 32)] 5))
        go_wp2_with (at_builtin; refine wpList_append_rd _ rfl (.tmp 23) (.tmp 25) 35 rfl w.heap.size 5 i0 _ 1 1 Tryd.underlying35 hi0 hz0 hz1 hz2 rfl (by decide) _ _ _ rfl HO3.out _ 1 1 [.int .u8 ((s[k].toNat : Int) + 32)] rfl (rd_new wr 5 (0, 0) [.int .u8 ((s[k].toNat : Int) + 32)]) (by intro u hu; simp at hu; subst hu; rfl) (by simp only [maxLen]; omega) (by omega) (by simp; omega) ?_; intro v6 w6 hown6 hg6 _)
        have HFW6 := Lib.hid ((ff HF.out (Fr.new wr _ _)).fresh (Fr.ofGrown hg6) (fun i e => (HO3.out.lt i e.symm).1))
        have HO6 := Lib.hid hown6
        clear hown6 hg6
        go_wp2_with fail
        go_roundg (s.size - (k + 1))
        case measure => omega
        case rel => exact ⟨k + 1, by omega, by go_num, by rw [HSN.out]; have := HO6.out; rw [← HE.out] at this; simpa [u8s] using this, HFW6.out⟩
      · have h' : (s[k].toNat : Int) < 65 ∨ 90 < (s[k].toNat : Int) := by omega
        have HE := Lib.hid (low_else h')
        have HO3 := Lib.hid (HO.out.alloc (.cells #[.int .u8 (s[k].toNat : Int)] 5))
        clear hg
        rcases h' with h' | h'
        all_goals
          go_wp2_with (at_builtin; refine wpList_append_rd _ rfl (.tmp 23) (.tmp 25) 35 rfl w.heap.size 5 i0 _ 1 1 Tryd.underlying35 hi0 hz0 hz1 hz2 rfl (by decide) _ _ _ rfl HO3.out _ 1 1 [.int .u8 (s[k].toNat : Int)] rfl (rd_new wr 5 (0, 0) [.int .u8 (s[k].toNat : Int)]) (by intro u hu; simp at hu; subst hu; rfl) (by simp only [maxLen]; omega) (by omega) (by simp; omega) ?_; intro v6 w6 hown6 hg6 _)
          have HFW6 := Lib.hid ((ff HF.out (Fr.new wr _ _)).fresh (Fr.ofGrown hg6) (fun i e => (HO3.out.lt i e.symm).1))
          have HO6 := Lib.hid hown6
          clear hown6 hg6
          go_wp2_with fail
          go_roundg (s.size - (k + 1))
          case measure => omega
          case rel => exact ⟨k + 1, by omega, by go_num, by rw [HSN.out, HE.out]; simpa [u8s] using HO6.out, HFW6.out⟩
    · have hkn : k = s.size := by omega
      have htk : small (l.take k) = t := by rw [List.take_of_length_le (by have := HLS.out; omega), HT.out]
      have htl : t.length = k := by rw [← HT.out, small_len, ← HLS.out, hkn]
      have hown := HO.out
      rw [htk, ← htl] at hown
      have HOT := own_text hown
      rw [htl] at HOT
      clear hown htk htl
      subst hkn
      go_wp2_with fail
      go_ret
      exact ⟨rfl, HF.out⟩
end Go.Proofs.YtognobpgagaamaaDoor
