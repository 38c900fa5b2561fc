import Derived.Test.YtbolgodoifbnnaaDoorRel
namespace Go.Proofs.YtbolgodoifbnnaaDoor
open Go.RowKit Go.Mem Go.Esc

def WOut (b : Nat) (l : Bs) (w : World) (e : Ending) (w' : World) : Prop := e = .returned (.tuple #[]) ∧ IsB w' b l ∧ Fr w w' (fun k => b ≤ k)
theorem bb {b : Nat} {a c d : World} (h : Fr a c (fun k => b ≤ k)) (h2 : Fr c d (fun k => b ≤ k)) : Fr a d (fun k => b ≤ k) := h.trans h2 (fun _ _ h => h) (fun _ _ h => h)

theorem we_two (w : World) (b : Nat) (l : Bs) (c : UInt8) (h : IsB w b l) (hl : l.length ≤ 900000) (hc : c = 34 ∨ c = 92) :
    Calls Tryd.prog 35 #[.pointer (some ⟨b, 0, none⟩), .int .u8 (c.toNat : Int)] w (WOut b (l ++ enc c) w) := by
  have H1 := Lib.hid (bbyte_any b l 92 92 w h (by omega) rfl)
  have H2 := Lib.hid (fun (w2 : World) (h2 : IsB w2 b (l ++ [92])) => bbyte_any b (l ++ [92]) c _ w2 h2 (by simp; omega) rfl)
  have he : enc c = [92, c] := by rw [enc, if_pos hc]
  have HE := Lib.hid (show l ++ [92] ++ [c] = l ++ enc c by rw [he]; simp)
  clear h he
  rcases hc with rfl | rfl
  all_goals
    simp only [show ((34 : UInt8).toNat : Int) = 34 from rfl, show ((92 : UInt8).toNat : Int) = 92 from rfl] at H2 ⊢
    go_enter Tryd.func35, Tryd.ntmps35
    go_wp2_with fail
    refine H1.out.mono ?_
    rintro e w2 ⟨rfl, hb2, hf2⟩
    have HF2 := Lib.hid hf2
    have H3 := Lib.hid (H2.out w2 hb2)
    clear hf2 hb2
    go_wp2_with fail
    refine H3.out.mono ?_
    rintro e w3 ⟨rfl, hb3, hf3⟩
    have HF3 := Lib.hid hf3
    have HB3 := Lib.hid hb3
    clear hf3 hb3
    go_wp2_with fail
    go_end0
    exact ⟨rfl, HE.out ▸ HB3.out, bb HF2.out HF3.out⟩
theorem we_ctl (w : World) (b : Nat) (l : Bs) (c : UInt8) (h : IsB w b l) (hl : l.length ≤ 900000) (hc : c = 10 ∨ c = 9) :
    Calls Tryd.prog 35 #[.pointer (some ⟨b, 0, none⟩), .int .u8 (c.toNat : Int)] w (WOut b (l ++ enc c) w) := by
  have H1 := Lib.hid (btext_any b l [92, 110] ⟨#[92, 110]⟩ w h (by simp; omega) rfl)
  have H2 := Lib.hid (btext_any b l [92, 116] ⟨#[92, 116]⟩ w h (by simp; omega) rfl)
  clear h
  rcases hc with rfl | rfl
  · simp only [show ((10 : UInt8).toNat : Int) = 10 from rfl]
    go_enter Tryd.func35, Tryd.ntmps35
    go_wp2_with fail
    refine H1.out.mono ?_
    rintro e w2 ⟨rfl, hb2, hf2⟩
    have HF2 := Lib.hid hf2
    have HB2 := Lib.hid hb2
    clear hf2 hb2
    go_wp2_with fail
    go_end0
    exact ⟨rfl, HB2.out, HF2.out⟩
  · simp only [show ((9 : UInt8).toNat : Int) = 9 from rfl]
    go_enter Tryd.func35, Tryd.ntmps35
    go_wp2_with fail
    refine H2.out.mono ?_
    rintro e w2 ⟨rfl, hb2, hf2⟩
    have HF2 := Lib.hid hf2
    have HB2 := Lib.hid hb2
    clear hf2 hb2
    go_wp2_with fail
    go_end0
    exact ⟨rfl, HB2.out, HF2.out⟩
theorem we_plain (w : World) (b : Nat) (l : Bs) (c : UInt8) (h : IsB w b l) (hl : l.length ≤ 900000) (h1 : c ≠ 34) (h2 : c ≠ 92) (h3 : c ≠ 10) (h4 : c ≠ 9) (hco : codedB c = false) :
    Calls Tryd.prog 35 #[.pointer (some ⟨b, 0, none⟩), .int .u8 (c.toNat : Int)] w (WOut b (l ++ enc c) w) := by
  have he : enc c = [c] := by rw [enc, if_neg (by rintro (e | e); exact h1 e; exact h2 e), if_neg h3, if_neg h4, if_neg (by rw [hco]; decide)]
  obtain ⟨n, hn⟩ : ∃ n : Int, n = (c.toNat : Int) := ⟨_, rfl⟩
  rw [← hn]
  have H1 := Lib.hid (bbyte_any b l c n w h (by omega) hn)
  have H2 := Lib.hid (fun w => isCoded_any w c n hn)
  rw [hco] at H2
  have e1 : (n == 34) = false := toNat_ne (k := 34) h1 hn
  have e2 : (n == 92) = false := toNat_ne (k := 92) h2 hn
  have e3 : (n == 10) = false := toNat_ne (k := 10) h3 hn
  have e4 : (n == 9) = false := toNat_ne (k := 9) h4 hn
  have HE := Lib.hid he
  clear h he hn hco h1 h2 h3 h4
  go_enter Tryd.func35, Tryd.ntmps35
  go_wp2_with fail
  refine (H2.out _).mono ?_
  rintro e w2 ⟨rfl, rfl⟩
  go_wp2_with fail
  refine H1.out.mono ?_
  rintro e w2 ⟨rfl, hb2, hf2⟩
  have HF2 := Lib.hid hf2
  have HB2 := Lib.hid hb2
  clear hf2 hb2
  go_wp2_with fail
  go_end0
  exact ⟨rfl, HE.out ▸ HB2.out, HF2.out⟩
theorem hexAt (i : Nat) (h : i < (⟨#[48, 49, 50, 51, 52, 53, 54, 55, 56, 57, 97, 98, 99, 100, 101, 102]⟩ : ByteArray).size) (d : UInt8) (hd : i = d.toNat) (h16 : d < 16) :
    (((⟨#[48, 49, 50, 51, 52, 53, 54, 55, 56, 57, 97, 98, 99, 100, 101, 102]⟩ : ByteArray)[i]'h).toNat : Int) = ((hexd d).toNat : Int) := by
  have : ∀ i : Fin 16, (#[48, 49, 50, 51, 52, 53, 54, 55, 56, 57, 97, 98, 99, 100, 101, 102] : Array UInt8)[i.val]? = some (hexd (UInt8.ofNat i.val)) := by decide +kernel
  have hi : i < 16 := h
  have := this ⟨i, hi⟩
  subst hd
  rw [Array.getElem?_eq_getElem hi] at this
  simp only [Option.some.injEq] at this
  have e : (⟨#[48, 49, 50, 51, 52, 53, 54, 55, 56, 57, 97, 98, 99, 100, 101, 102]⟩ : ByteArray)[d.toNat]'h = hexd d := by
    have e2 : UInt8.ofNat d.toNat = d := by simp
    rw [e2] at this
    exact this
  rw [e]
theorem shr_nat (c : UInt8) : ((c.toNat : Int) / 16).toNat = (c >>> 4).toNat := by
  have : ∀ i : Fin 256, ((i.val : Int) / 16).toNat = ((UInt8.ofNat i.val) >>> 4).toNat := by decide +kernel
  have := this ⟨c.toNat, c.toNat_lt⟩
  simpa using this
theorem and_nat (c : UInt8) : ((c.toNat : Int) % 16).toNat = (c &&& 15).toNat := by
  have : ∀ i : Fin 256, ((i.val : Int) % 16).toNat = ((UInt8.ofNat i.val) &&& 15).toNat := by decide +kernel
  have := this ⟨c.toNat, c.toNat_lt⟩
  simpa using this
theorem we_code (w : World) (b : Nat) (l : Bs) (c : UInt8) (h : IsB w b l) (hl : l.length ≤ 900000) (h1 : c ≠ 34) (h2 : c ≠ 92) (h3 : c ≠ 10) (h4 : c ≠ 9) (hco : codedB c = true) :
    Calls Tryd.prog 35 #[.pointer (some ⟨b, 0, none⟩), .int .u8 (c.toNat : Int)] w (WOut b (l ++ enc c) w) := by
  have he : enc c = [92, 120, hexd (c >>> 4), hexd (c &&& 15)] := by rw [enc, if_neg (by rintro (e | e); exact h1 e; exact h2 e), if_neg h3, if_neg h4, if_pos hco]
  obtain ⟨n, hn⟩ : ∃ n : Int, n = (c.toNat : Int) := ⟨_, rfl⟩
  rw [← hn]
  have b1 : 0 ≤ n := by omega
  have b2 : n < 256 := by have := c.toNat_lt; omega
  have H1 := Lib.hid (btext_any b l [92, 120] ⟨#[92, 120]⟩ w h (by simp; omega) rfl)
  have H2 := Lib.hid (fun w => isCoded_any w c n hn)
  rw [hco] at H2
  have e1 : (n == 34) = false := toNat_ne (k := 34) h1 hn
  have e2 : (n == 92) = false := toNat_ne (k := 92) h2 hn
  have e3 : (n == 10) = false := toNat_ne (k := 10) h3 hn
  have e4 : (n == 9) = false := toNat_ne (k := 9) h4 hn
  have HE := Lib.hid he
  have HN := Lib.hid hn
  clear h he hn hco h1 h2 h3 h4
  go_enter Tryd.func35, Tryd.ntmps35
  go_wp2_with fail
  refine (H2.out _).mono ?_
  rintro e w2 ⟨rfl, rfl⟩
  go_wp2_with fail
  refine H1.out.mono ?_
  rintro e w2 ⟨rfl, hb2, hf2⟩
  have HF2 := Lib.hid hf2
  have HB2 := Lib.hid hb2
  clear hf2 hb2
  go_wp2_with fail
  refine (bbyte_any b (l ++ [92, 120]) (hexd (c >>> 4)) _ w2 HB2.out (by simp; omega) (hexAt _ _ _ (by rw [HN.out]; exact shr_nat c) (high_lt c))).mono ?_
  rintro e w3 ⟨rfl, hb3, hf3⟩
  have HF3 := Lib.hid hf3
  have HB3 := Lib.hid hb3
  clear hf3 hb3
  go_wp2_with fail
  refine (bbyte_any b (l ++ ([92, 120] : Bs) ++ [hexd (c >>> 4)]) (hexd (c &&& 15)) _ w3 HB3.out (by simp; omega) (hexAt _ _ _ (by rw [HN.out]; exact and_nat c) (low_lt c))).mono ?_
  rintro e w4 ⟨rfl, hb4, hf4⟩
  have HF4 := Lib.hid hf4
  have HB4 := Lib.hid hb4
  clear hf4 hb4
  go_wp2_with fail
  go_end0
  have hl2 : l ++ ([92, 120] : Bs) ++ [hexd (c >>> 4)] ++ [hexd (c &&& 15)] = l ++ enc c := by rw [HE.out]; simp
  exact ⟨rfl, hl2 ▸ HB4.out, bb (bb HF2.out HF3.out) HF4.out⟩
theorem we_any (w : World) (b : Nat) (l : Bs) (c : UInt8) (n : Int) (hn : n = c.toNat) (h : IsB w b l) (hl : l.length ≤ 900000) :
    Calls Tryd.prog 35 #[.pointer (some ⟨b, 0, none⟩), .int .u8 n] w (WOut b (l ++ enc c) w) := by
  subst hn
  by_cases h12 : c = 34 ∨ c = 92
  · exact we_two w b l c h hl h12
  · by_cases h34 : c = 10 ∨ c = 9
    · exact we_ctl w b l c h hl h34
    · cases hco : codedB c
      · exact we_plain w b l c h hl (fun e => h12 (.inl e)) (fun e => h12 (.inr e)) (fun e => h34 (.inl e)) (fun e => h34 (.inr e)) hco
      · exact we_code w b l c h hl (fun e => h12 (.inl e)) (fun e => h12 (.inr e)) (fun e => h34 (.inl e)) (fun e => h34 (.inr e)) hco

theorem bytes_at {s : ByteArray} {k : Nat} (h : k < s.size) : s.data.toList.take (k + 1) = s.data.toList.take k ++ [s[k]] := by
  rw [List.take_succ_eq_append_getElem (by simpa using h)]; rfl
theorem bytes_len (s : ByteArray) : s.data.toList.length = s.size := by rw [Array.length_toList]; rfl
set_option maxHeartbeats 400000 in
theorem wq_any (w : World) (b : Nat) (l : Bs) (s : ByteArray) (h : IsB w b l) (hl : l.length + 4 * s.size ≤ 800000) :
    Calls Tryd.prog 22 #[.pointer (some ⟨b, 0, none⟩), .string s] w (WOut b (l ++ quoteL s.data.toList) w) := by
  have H1 := Lib.hid (bbyte_any b l 34 34 w h (by omega) rfl)
  have hbw := h.lt
  clear h
  go_enter Tryd.func22, Tryd.ntmps22
  go_wp2_with fail
  refine H1.out.mono ?_
  rintro e w2 ⟨rfl, hb2, hf2⟩
  have HF2 := Lib.hid hf2
  have HB2 := Lib.hid hb2
  clear hf2 hb2
  go_wp2_with fail
  go_loopw [9] (fun v9 wr => ∃ k : Nat, k ≤ s.size ∧ v9 = .int .i64 k ∧ IsB wr b (l ++ 34 :: (s.data.toList.take k).flatMap enc) ∧ Fr w wr (fun k => b ≤ k)) (fun v9 _ => s.size - (intOf v9).toNat)
  case atStart => exact ⟨0, Nat.zero_le _, rfl, by simpa using HB2.out, HF2.out⟩
  case round =>
    obtain ⟨k, hk, rfl, hb, hf⟩ := hrel
    have HB := Lib.hid hb
    have HF := Lib.hid hf
    have hlen : (l ++ 34 :: (s.data.toList.take k).flatMap enc).length ≤ 800001 := by
      have h1 := (encs_len (s.data.toList.take k)).2
      have h2 : (s.data.toList.take k).length ≤ s.size := by rw [List.length_take, bytes_len]; omega
      rw [List.length_append, List.length_cons]
      omega
    clear hb hf
    by_cases hlt : k < s.size
    · have HT := Lib.hid (show (l ++ 34 :: (s.data.toList.take k).flatMap enc) ++ enc s[k] = l ++ 34 :: (s.data.toList.take (k + 1)).flatMap enc by rw [bytes_at hlt]; simp)
      have HL := Lib.hid hlen
      generalize hacc : l ++ 34 :: (s.data.toList.take k).flatMap enc = acc at HB HT HL
      clear hacc hlen
      go_wp2_with fail
      refine (we_any wr b acc s[k] _ rfl HB.out (by have := HL.out; omega)).mono ?_
      rintro e w3 ⟨rfl, hb3, hf3⟩
      have HF3 := Lib.hid hf3
      have HB3 := Lib.hid hb3
      clear hf3 hb3
      go_wp2_with fail
      go_roundw
      case rel => exact ⟨k + 1, by omega, by go_num, HT.out ▸ HB3.out, bb HF.out HF3.out⟩
      case measure => simp [intOf]; omega
    · have HT := Lib.hid (show (l ++ 34 :: (s.data.toList.take k).flatMap enc) ++ [34] = l ++ quoteL s.data.toList by rw [List.take_of_length_le (by rw [bytes_len]; omega)]; simp [quoteL])
      have HL := Lib.hid hlen
      generalize hacc : l ++ 34 :: (s.data.toList.take k).flatMap enc = acc at HB HT HL
      clear hacc hlen
      go_wp2_with fail
      refine (bbyte_any b acc 34 34 wr HB.out (by have := HL.out; omega) rfl).mono ?_
      rintro e w3 ⟨rfl, hb3, hf3⟩
      have HF3 := Lib.hid hf3
      have HB3 := Lib.hid hb3
      clear hf3 hb3
      go_wp2_with fail
      go_end0
      exact ⟨rfl, HT.out ▸ HB3.out, bb HF.out HF3.out⟩

theorem Quote_any (s : ByteArray) (w : World) (hz : s.size ≤ 200000) :
    Calls Tryd.prog 13 #[.string s] w fun e w' => e = .returned (strV (quoteL s.data.toList)) ∧ Fr w w' (fun _ => False) := by
  have H1 := Lib.hid (wq_any _ _ [] s (isB_new w) (by simp; omega))
  go_enter Tryd.func13, Tryd.ntmps13
  go_wp2_with fail
  refine H1.out.mono ?_
  rintro e w2 ⟨rfl, hb2, hf2⟩
  have HF2 := Lib.hid hf2
  have HS := Lib.hid (bstring_any _ _ _ hb2)
  clear hf2 hb2
  go_wp2_with fail
  refine HS.out.mono ?_
  rintro e w3 ⟨rfl, hf3⟩
  have HF3 := Lib.hid hf3
  clear hf3
  go_wp2_with fail
  go_ret
  exact ⟨by simp, ((Fr.new w _ (fun _ => False)).fresh HF2.out (fun k hk => hk)).fresh HF3.out (fun k hk => hk)⟩
end Go.Proofs.YtbolgodoifbnnaaDoor
