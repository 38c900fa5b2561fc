import Derived.Test.YtbolgodoifbnnaaRfb
namespace Go.Proofs.Ytbolgodoifbnnaa
open Go.RowKit Go.Mem Go.Esc

def u8s (l : Bs) : List Value := (l.map fun b => (b.toNat : Int)).map (Value.int .u8)
theorem text_push (xs : List Int) (y : Int) : text (xs ++ [y]) = (text xs).push (UInt8.ofNat y.toNat) := by simp [text]
theorem text_bytes (l : Bs) : text (l.map fun b => (b.toNat : Int)) = ⟨l.toArray⟩ := by
  have : ∀ l : Bs, text ((l.reverse).map fun b => (b.toNat : Int)) = ⟨l.reverse.toArray⟩ := by
    intro l
    induction l with
    | nil => rfl
    | cons b l ih =>
      rw [List.reverse_cons, List.map_append, List.map_cons, List.map_nil, text_push, ih]
      have : UInt8.ofNat ((b.toNat : Int)).toNat = b := by simp
      rw [this]
      apply ByteArray.ext
      simp
  have := this l.reverse
  rw [List.reverse_reverse] at this
  exact this
theorem conv_nil (w : World) : (convert 39 9 (.slice none 0 0)).run Try.prog w = .ok (.string ⟨#[]⟩) w := by kernel_rfl
/-- a slice of bytes of the call's own, as a string -/
theorem own_text {w : World} {base : Nat} {v : Value} {l : Bs} (h : w.ownsRow base 5 1 v l.length (u8s l)) : (convert 39 9 v).run Try.prog w = .ok (strV l) w := by
  obtain ⟨A, c, rfl, -, -, hrd, hn, -⟩ := own_rd h
  cases A with
  | none =>
    have h0 := hn rfl
    obtain rfl : l = [] := List.length_eq_zero_iff.1 h0.1
    obtain rfl := h0.2
    exact conv_nil w
  | some a =>
    have := run_text (P := Try.prog) w 39 9 5 Try.underlying39 Try.underlying5 Try.underlying9 a l.length c (l.map fun b => (b.toNat : Int)) (show Rd w 1 (some a) l.length ((l.map fun b => (b.toNat : Int)).map (Value.int .u8)) from hrd)
    rw [text_bytes] at this
    exact this
theorem rest_str {s : ByteArray} {a : Nat} {l : Bs} (h : s.data.toList.drop a = l) : s.extract a s.size = ⟨l.toArray⟩ := by
  have hl : s.data.toList.length = s.size := bytes_len s
  apply ByteArray.ext
  apply Array.toList_inj.1
  simp [← h, List.extract]
  rw [List.take_of_length_le (by rw [List.length_drop, hl]; omega)]

def UInv (w : World) (s : ByteArray) (T : Got Bs) (g : Nat) (v5 v6 : Value) (wr : World) : Prop :=
  ∃ (acc l : Bs) (a : Nat), 1 ≤ a ∧ a ≤ s.size ∧ v6 = .int .i64 (a : Int) ∧ s.data.toList.drop a = l ∧ l.length ≤ g ∧ T = (bodyD g l).glue acc ∧ wr.ownsRow w.heap.size 5 1 v5 acc.length (u8s acc) ∧ acc.length + l.length ≤ 999999 ∧ Fr w wr (fun _ => False)

theorem rUnquote_no (s : ByteArray) (w : World) (h : s.data.toList.head? ≠ some 34) : Calls Try.prog 7 #[.string s] w (ReadS (quotedD s.data.toList) s w) := by
  rw [quotedD, if_neg h]
  by_cases h0 : 0 < s.size
  · have hh : s.data.toList.head? = some s[0] := by
      rw [List.head?_eq_getElem?, List.getElem?_eq_getElem (by rw [bytes_len]; exact h0)]
      rfl
    have e : ((s[0].toNat : Int) != 34) = true := by
      have : ((s[0].toNat : Int) == 34) = false := toNat_ne (k := 34) (fun e => h (by rw [hh, e])) rfl
      simp [bne, this]
    have e1 : ((s.size : Int) == 0) = false := beq_eq_false_iff_ne.2 (by omega)
    clear hh h
    go_enter Try.func7, Try.ntmps7
    go_wp2_with fail
    go_ret3
    exact ⟨Fr.refl _ _, rfl⟩
  · have e1 : ((s.size : Int) == 0) = true := beq_iff_eq.2 (by omega)
    clear h
    go_enter Try.func7, Try.ntmps7
    go_wp2_with fail
    go_ret3
    exact ⟨Fr.refl _ _, rfl⟩
set_option maxHeartbeats 1000000 in
theorem rUnquote_yes (s : ByteArray) (w : World) (hz : s.size ≤ 999990) (h : s.data.toList.head? = some 34) : Calls Try.prog 7 #[.string s] w (ReadS (quotedD s.data.toList) s w) := by
  have h0 : 0 < s.size := by
    rw [← bytes_len s]
    apply List.length_pos_iff.2
    intro e
    rw [e] at h
    cases h
  have hh : s.data.toList.head? = some s[0] := by
    rw [List.head?_eq_getElem?, List.getElem?_eq_getElem (by rw [bytes_len]; exact h0)]
    rfl
  have e : ((s[0].toNat : Int) != 34) = false := by
    have : s[0] = 34 := by rw [hh] at h; simpa using h
    rw [this]
    rfl
  have e1 : ((s.size : Int) == 0) = false := beq_eq_false_iff_ne.2 (by omega)
  obtain ⟨T, hT⟩ : ∃ T, quotedD s.data.toList = T := ⟨_, rfl⟩
  rw [hT]
  rw [quotedD, if_pos h] at hT
  obtain ⟨l0, hl0⟩ : ∃ l0, s.data.toList.tail = l0 := ⟨_, rfl⟩
  rw [hl0] at hT
  have hd1 : s.data.toList.drop 1 = l0 := by rw [← hl0]; simp
  have hll : l0.length ≤ 999990 := by rw [← hd1, List.length_drop, bytes_len]; omega
  have HT := Lib.hid hT
  have HD := Lib.hid hd1
  clear hT hl0 hd1 h hh
  go_enter Try.func7, Try.ntmps7
  go_wp2_with fail
  go_loopg [5, 6] l0.length (fun g v5 v6 wr => UInv w s T g v5 v6 wr)
  case atStart => exact ⟨[], l0, 1, by omega, by omega, rfl, HD.out, Nat.le_refl _, by rw [HT.out, glue_nil], World.ownsRow_nil _ _ _ _, by simp; omega, Fr.refl _ _⟩
  case round =>
    obtain ⟨acc, l, a, ha1, ha2, rfl, hd, hlg, hTe, hown, hal, hf⟩ := hrel
    have HD := Lib.hid hd
    have HLG := Lib.hid hlg
    have HTE := Lib.hid hTe
    have HO := Lib.hid hown
    have HF := Lib.hid hf
    have hla := (drop_empty ha2 hd).2
    obtain ⟨A5, c5, rfl⟩ := own_slice hown
    have HX := Lib.hid (rest_str hd)
    have HOT := Lib.hid (own_text hown)
    clear hd hlg hTe hown hf e
    cases l with
    | nil =>
      have hae : a = s.size := by simp at hla; omega
      subst hae
      go_wp2_with fail
      go_ret3
      rw [HTE.out, body_nil]
      exact ⟨HF.out, rfl⟩
    | cons c r =>
      obtain ⟨hlt, hc, hdr⟩ := drop_cons HD.out
      have hi1 : (a : Int) < (s.size : Int) := by omega
      have hi0 : (0 : Int) ≤ (a : Int) := by omega
      by_cases h34 : c = 34
      · have hb : ((s[a].toNat : Int) != 34) = false := by rw [hc, h34]; rfl
        subst h34
        have ht := HOT.out
        have HLA := Lib.hid hla
        clear hc hdr hla
        go_wp2_with fail
        go_ret3
        rw [HTE.out, body_quo]
        have hfin : ((s.size - r.length : Nat) : Int) = (a : Int) + 1 := by have := HLA.out; simp at this; omega
        refine ⟨HF.out, ?_⟩
        show _ = Ending.returned (.tuple #[strV (acc ++ []), .int .i64 ((s.size - r.length : Nat) : Int), .int .i64 0])
        rw [hfin, List.append_nil]
        rfl
      · have hb : ((s[a].toNat : Int) != 34) = true := by
          have : ((s[a].toNat : Int) == 34) = false := toNat_ne (k := 34) (by rw [hc]; exact h34) rfl
          simp [bne, this]
        have hh : (c :: r).head? ≠ some 34 := by simpa using h34
        have hx := HX.out
        have HO1 := Lib.hid (fun W => one_any (c :: r) W (by omega) (by simp) hh)
        have hll2 : (c :: r).length ≤ 999999 := by omega
        rcases hst : stepD (c :: r) with k | ⟨c2, r2⟩
        · rw [hst] at HO1
          have hk := step_kind hst
          have HFIN := Lib.hid (body_err HLG.out (by simp) hh hst)
          clear hst hc hdr hh h34 hla
          have hfin : ∀ w' : World, Fr w w' (fun _ => False) → ReadS T s w (.returned (.tuple #[.string ⟨#[]⟩, .int .i64 0, .int .i64 k])) w' := fun w' h => by
            rw [HTE.out, HFIN.out]
            exact ⟨h, rfl⟩
          have HFN := Lib.hid hfin
          clear hfin
          rcases hk with rfl | rfl
          all_goals
            simp only [OneV, show ¬ ((3 : Int) = 9) by omega, if_true, if_false] at HO1
            go_wp2_with fail
            refine (HO1.out _).mono ?_
            rintro e w3 ⟨rfl, hf3⟩
            have HF3 := Lib.hid hf3
            clear hf3
            go_wp2_with fail
            go_ret3
            exact HFN.out _ (ff HF.out HF3.out)
        · rw [hst] at HO1
          obtain ⟨g', hg', hrl, hlt2, hbd⟩ := body_go HLG.out hh hst
          have hsuf := step_suffix hh hst
          have hcl := enc_len c2
          have hdl : (c :: r).length = r2.length + (enc c2).length := by
            have := enc_step _ _ _ hh hst
            have := congrArg List.length this
            rw [List.length_append] at this
            omega
          have HG := Lib.hid hg'
          have HRL := Lib.hid hrl
          have HBD := Lib.hid hbd
          have HSU := Lib.hid (show s.data.toList.drop (a + (enc c2).length) = r2 by rw [hsuf, ← HD.out, List.drop_drop])
          obtain ⟨i0, hi0', hz0, hz1, hz2⟩ := info_parts infoB
          simp only [OneV] at HO1
          obtain ⟨q, hq⟩ : ∃ q, (enc c2).length = q := ⟨_, rfl⟩
          rw [hq] at HO1 HSU hcl hdl
          have hen : ((q : Int) == 0) = false := beq_eq_false_iff_ne.2 (by omega)
          clear hst hc hdr hh h34 hg' hrl hbd hsuf hq
          go_wp2_with fail
          refine (HO1.out _).mono ?_
          rintro e w3 ⟨rfl, hf3⟩
          have HF3 := Lib.hid (ff HF.out hf3)
          have HO3 := Lib.hid ((hf3.own HO.out (fun _ _ h => h)).alloc (.cells #[.int .u8 (c2.toNat : Int)] 5))
          have hsz3 := HF3.out.size
          clear hf3
          go_wp2_with (at_builtin; refine wpList_append_rd _ rfl (.tmp 38) (.tmp 40) 39 rfl w.heap.size 5 i0 _ 1 1 Try.underlying39 hi0' hz0 hz1 hz2 rfl (by decide) _ _ _ rfl HO3.out _ 1 1 [.int .u8 (c2.toNat : Int)] rfl (rd_new w3 5 (0, 0) [.int .u8 (c2.toNat : Int)]) (by intro u hu; simp at hu; subst hu; rfl) (by simp only [maxLen]; omega) (by omega) (by simp; omega) ?_; intro v6 w6 hown6 hg6 _)
          have hfw6 : Fr w w6 (fun _ => False) := (ff HF3.out (Fr.new w3 _ _)).fresh (Fr.ofGrown hg6) (fun i e => (HO3.out.lt i e.symm).1)
          have HFW6 := Lib.hid hfw6
          have HO6 := Lib.hid hown6
          clear hfw6 hown6 hg6
          go_wp2_with fail
          go_roundg g'
          case measure => rw [HG.out]; omega
          case rel => exact ⟨acc ++ [c2], r2, a + q, by omega, by omega, by go_num, HSU.out, HRL.out, by rw [HTE.out, HBD.out, glue_cons], by simpa [u8s] using HO6.out, by simp; omega, HFW6.out⟩
theorem rUnquote_any (s : ByteArray) (w : World) (hz : s.size ≤ 999990) : Calls Try.prog 7 #[.string s] w (ReadS (quotedD s.data.toList) s w) := by
  by_cases h : s.data.toList.head? = some 34
  · exact rUnquote_yes s w hz h
  · exact rUnquote_no s w h
end Go.Proofs.Ytbolgodoifbnnaa
