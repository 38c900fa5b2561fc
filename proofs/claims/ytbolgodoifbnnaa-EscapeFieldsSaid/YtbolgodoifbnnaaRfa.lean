import Derived.Test.YtbolgodoifbnnaaAli
namespace Go.Proofs.Ytbolgodoifbnnaa
open Go.RowKit Go.Mem Go.Esc

theorem run_add_str {P : Program} (w : World) (a b : Bs) (h : a.length + b.length ≤ 1000000) : (Op.stringOp .add ⟨a.toArray⟩ ⟨b.toArray⟩).run P w = .ok (strV (a ++ b)) w := by
  rw [run_string_add_sum w _ _ (by show a.toArray.size + b.toArray.size ≤ _; simp; omega)]
  show Result.ok (Value.string ((⟨a.toArray⟩ : ByteArray) ++ ⟨b.toArray⟩)) w = .ok (.string ⟨(a ++ b).toArray⟩) w
  congr 2
theorem hex_any (w : World) (d : UInt8) (n : Int) (hn : n = d.toNat) (h16 : d < 16) : Calls Try.prog 35 #[.int .u8 n] w fun e w' => e = .returned (strV [hexd d]) ∧ w = w' := by
  have b1 : 0 ≤ n := by omega
  have b2 : n < 16 := by have := UInt8.lt_iff_toNat_lt.1 h16; simp at this; omega
  have hsl : ∀ w : World, (Instr.slice 9 (.string ⟨#[48, 49, 50, 51, 52, 53, 54, 55, 56, 57, 97, 98, 99, 100, 101, 102]⟩) (some (.int .u8 n)) (some (.int .u8 (n + 1))) none).run Try.prog w = .ok (strV [hexd d]) w := by
    obtain rfl : d = UInt8.ofNat n.toNat := by
      apply UInt8.toNat_inj.1
      rw [UInt8.toNat_ofNat']
      omega
    clear hn h16
    have : n = 0 ∨ n = 1 ∨ n = 2 ∨ n = 3 ∨ n = 4 ∨ n = 5 ∨ n = 6 ∨ n = 7 ∨ n = 8 ∨ n = 9 ∨ n = 10 ∨ n = 11 ∨ n = 12 ∨ n = 13 ∨ n = 14 ∨ n = 15 := by omega
    rcases this with rfl | rfl | rfl | rfl | rfl | rfl | rfl | rfl | rfl | rfl | rfl | rfl | rfl | rfl | rfl | rfl
    all_goals
      intro w
      kernel_rfl
  clear hn h16
  go_enter Try.func35, Try.ntmps35
  go_wp2_with fail
  go_ret
  exact ⟨rfl, rfl⟩
theorem take_prefix (a b : Bs) (hl : a.length ≤ b.length) : ((⟨b.toArray⟩ : ByteArray).extract 0 a.length).toList = b.take a.length := by
  rw [Lib.toList_data]
  have := extract_str ⟨b.toArray⟩ 0 a.length
  rw [Nat.zero_add] at this
  rw [this]
  simp
theorem pref_take (a b : Bs) : (b.take a.length == a) = decide (a <+: b) := by
  rw [Bool.eq_iff_iff, beq_iff_eq, decide_eq_true_iff]
  constructor
  · intro h
    exact ⟨b.drop a.length, by have := List.take_append_drop a.length b; rw [h] at this; exact this⟩
  · rintro ⟨t, rfl⟩
    simp
theorem begins_any (w : World) (a b : Bs) (ha : a.length ≤ 1000000) (hb : b.length ≤ 1000000) : Calls Try.prog 33 #[strV a, strV b] w fun e w' => e = .returned (.bool (decide (a <+: b))) ∧ w = w' := by
  have za : (⟨a.toArray⟩ : ByteArray).size = a.length := by show a.toArray.size = _; simp
  have zb : (⟨b.toArray⟩ : ByteArray).size = b.length := by show b.toArray.size = _; simp
  by_cases hl : a.length ≤ b.length
  · go_enter Try.func33, Try.ntmps33
    go_wp2_with fail
    go_ret
    exact ⟨by rw [← pref_take, ← take_prefix a b hl]; rfl, rfl⟩
  · have hl' : b.length < a.length := by omega
    have hd : decide (a <+: b) = false := by
      rw [decide_eq_false_iff_not]
      intro h
      have := h.length_le
      omega
    rw [hd]
    clear hd hl
    go_enter Try.func33, Try.ntmps33
    go_wp2_with fail
    go_ret
    exact ⟨rfl, rfl⟩

theorem escaped_const (w : World) (c : UInt8) (hc : c = 34 ∨ c = 92 ∨ c = 10 ∨ c = 9) : Calls Try.prog 21 #[.int .u8 (c.toNat : Int)] w fun e w' => e = .returned (strV (enc c)) ∧ Fr w w' (fun _ => False) := by
  rcases hc with rfl | rfl | rfl | rfl
  all_goals
    simp only [show ((34 : UInt8).toNat : Int) = 34 from rfl, show ((92 : UInt8).toNat : Int) = 92 from rfl, show ((10 : UInt8).toNat : Int) = 10 from rfl, show ((9 : UInt8).toNat : Int) = 9 from rfl]
    go_enter Try.func21, Try.ntmps21
    go_wp2_with fail
    go_ret
    exact ⟨rfl, Fr.refl _ _⟩
theorem escaped_else (w : World) (c : UInt8) (h1 : c ≠ 34) (h2 : c ≠ 92) (h3 : c ≠ 10) (h4 : c ≠ 9) : Calls Try.prog 21 #[.int .u8 (c.toNat : Int)] w fun e w' => e = .returned (strV (enc c)) ∧ Fr w w' (fun _ => False) := by
  obtain ⟨n, hn⟩ : ∃ n : Int, n = (c.toNat : Int) := ⟨_, rfl⟩
  rw [← hn]
  have b1 : 0 ≤ n := by omega
  have b2 : n < 256 := by have := c.toNat_lt; omega
  have e1 : (n == 34) = false := toNat_ne (k := 34) h1 hn
  have e2 : (n == 92) = false := toNat_ne (k := 92) h2 hn
  have e3 : (n == 10) = false := toNat_ne (k := 10) h3 hn
  have e4 : (n == 9) = false := toNat_ne (k := 9) h4 hn
  have he : enc c = if codedB c = true then [92, 120, hexd (c >>> 4), hexd (c &&& 15)] else [c] := by rw [enc, if_neg (by rintro (e | e); exact h1 e; exact h2 e), if_neg h3, if_neg h4]
  have hco : codedB c = !(decide ((32 : Int) ≤ n) && decide (n ≤ 126)) := by
    have h34 : ¬ n = 10 ∧ ¬ n = 9 := by simpa using And.intro e3 e4
    have hc : ∀ k : UInt8, (c = k) ↔ n = (k.toNat : Int) := fun k => by rw [← UInt8.toNat_inj]; omega
    have h32 : (c = 32) ↔ n = 32 := hc 32
    rw [Bool.eq_iff_iff]
    simp only [codedB, plainB, Bool.and_eq_true, bne_iff_ne, ne_eq, Bool.not_eq_true', Bool.and_eq_false_iff, decide_eq_false_iff_not, UInt8.le_iff_toNat_le]
    simp only [h32, hc 10, hc 9, show ((10 : UInt8).toNat : Int) = 10 from rfl, show ((9 : UInt8).toNat : Int) = 9 from rfl, show (33 : UInt8).toNat = 33 from rfl, show (126 : UInt8).toNat = 126 from rfl]
    omega
  have HE := Lib.hid he
  have HN := Lib.hid hn
  have HCO := Lib.hid hco
  clear he hn hco h1 h2 h3 h4
  by_cases p1 : (32 : Int) ≤ n
  · by_cases p2 : n ≤ 126
    · have hcv := fun (w : World) => run_text (P := Try.prog) (w.alloc (.cells #[.int .u8 n] 5)) 39 9 5 Try.underlying39 Try.underlying5 Try.underlying9 ⟨w.heap.size, 0, none⟩ 1 1 [n] (rd_new w 5 (0, 0) [.int .u8 n])
      have htx : text [n] = ⟨#[c]⟩ := by
        have : UInt8.ofNat n.toNat = c := by rw [HN.out]; simp
        simp [text, this]
        rfl
      rw [htx] at hcv
      clear htx
      have henc : enc c = [c] := by rw [HE.out, if_neg (by rw [HCO.out]; simp [p1, p2])]
      rw [henc]
      clear henc
      go_enter Try.func21, Try.ntmps21
      go_wp2_with fail
      go_ret
      exact ⟨rfl, Fr.new _ _ _⟩
    · have HC : Hid (enc c = [92, 120, hexd (c >>> 4), hexd (c &&& 15)]) := Lib.hid (by rw [HE.out, if_pos (by rw [HCO.out]; simp [p1, p2])])
      have X1 := Lib.hid (fun w => hex_any w (c >>> 4) (n / 16) (by have := shr_nat c; rw [← HN.out] at this; omega) (high_lt c))
      have X2 := Lib.hid (fun w => hex_any w (c &&& 15) (n % 16) (by have := and_nat c; rw [← HN.out] at this; omega) (low_lt c))
      have a1 := fun w => run_add_str (P := Try.prog) w [92, 120] [hexd (c >>> 4)] (by simp)
      have a2 := fun w => run_add_str (P := Try.prog) w [92, 120, hexd (c >>> 4)] [hexd (c &&& 15)] (by simp)
      simp only [List.cons_append, List.nil_append] at a1 a2
      clear HE HCO
      rw [HC.out]
      generalize hexd (c >>> 4) = x at X1 a1 a2
      generalize hexd (c &&& 15) = y at X2 a2
      go_enter Try.func21, Try.ntmps21
      go_wp2_with fail
      refine (X1.out _).mono ?_
      rintro e w2 ⟨rfl, rfl⟩
      go_wp2_with fail
      refine (X2.out _).mono ?_
      rintro e w2 ⟨rfl, rfl⟩
      go_wp2_with fail
      go_ret
      exact ⟨rfl, Fr.refl _ _⟩
  · have HC : Hid (enc c = [92, 120, hexd (c >>> 4), hexd (c &&& 15)]) := Lib.hid (by rw [HE.out, if_pos (by rw [HCO.out]; simp [p1])])
    have X1 := Lib.hid (fun w => hex_any w (c >>> 4) (n / 16) (by have := shr_nat c; rw [← HN.out] at this; omega) (high_lt c))
    have X2 := Lib.hid (fun w => hex_any w (c &&& 15) (n % 16) (by have := and_nat c; rw [← HN.out] at this; omega) (low_lt c))
    have a1 := fun w => run_add_str (P := Try.prog) w [92, 120] [hexd (c >>> 4)] (by simp)
    have a2 := fun w => run_add_str (P := Try.prog) w [92, 120, hexd (c >>> 4)] [hexd (c &&& 15)] (by simp)
    simp only [List.cons_append, List.nil_append] at a1 a2
    clear HE HCO
    rw [HC.out]
    generalize hexd (c >>> 4) = x at X1 a1 a2
    generalize hexd (c &&& 15) = y at X2 a2
    go_enter Try.func21, Try.ntmps21
    go_wp2_with fail
    refine (X1.out _).mono ?_
    rintro e w2 ⟨rfl, rfl⟩
    go_wp2_with fail
    refine (X2.out _).mono ?_
    rintro e w2 ⟨rfl, rfl⟩
    go_wp2_with fail
    go_ret
    exact ⟨rfl, Fr.refl _ _⟩
theorem escaped_any (w : World) (c : UInt8) (n : Int) (hn : n = c.toNat) : Calls Try.prog 21 #[.int .u8 n] w fun e w' => e = .returned (strV (enc c)) ∧ Fr w w' (fun _ => False) := by
  subst hn
  by_cases h : c = 34 ∨ c = 92 ∨ c = 10 ∨ c = 9
  · exact escaped_const w c h
  · exact escaped_else w c (fun e => h (.inl e)) (fun e => h (.inr (.inl e))) (fun e => h (.inr (.inr (.inl e)))) (fun e => h (.inr (.inr (.inr e))))

set_option maxHeartbeats 400000 in
theorem rQuote_any (s : ByteArray) (w : World) (hz : s.size ≤ 200000) : Calls Try.prog 9 #[.string s] w fun e w' => e = .returned (strV (quoteL s.data.toList)) ∧ Fr w w' (fun _ => False) := by
  go_enter Try.func9, Try.ntmps9
  go_wp2_with fail
  go_loopw [3, 4] (fun v3 v4 wr => ∃ k : Nat, k ≤ s.size ∧ v4 = .int .i64 k ∧ v3 = strV ((s.data.toList.take k).flatMap enc) ∧ Fr w wr (fun _ => False)) (fun _ v4 _ => s.size - (intOf v4).toNat)
  case atStart => exact ⟨0, Nat.zero_le _, rfl, rfl, Fr.refl _ _⟩
  case round =>
    obtain ⟨k, hk, rfl, rfl, hf⟩ := hrel
    have HF := Lib.hid hf
    have hlen : ((s.data.toList.take k).flatMap enc).length ≤ 800000 := by
      have h1 := (encs_len (s.data.toList.take k)).2
      have h2 : (s.data.toList.take k).length ≤ s.size := by rw [List.length_take, bytes_len]; omega
      omega
    clear hf
    by_cases hlt : k < s.size
    · have HT := Lib.hid (show (s.data.toList.take k).flatMap enc ++ enc s[k] = (s.data.toList.take (k + 1)).flatMap enc by rw [bytes_at hlt]; simp)
      generalize (s.data.toList.take k).flatMap enc = acc at HT hlen
      have ha := fun w => run_add_str (P := Try.prog) w acc (enc s[k]) (by have := (enc_len s[k]).2; omega)
      go_wp2_with fail
      refine (escaped_any wr s[k] _ rfl).mono ?_
      rintro e w3 ⟨rfl, hf3⟩
      have HF3 := Lib.hid hf3
      clear hf3
      go_wp2_with fail
      go_roundw
      case rel => exact ⟨k + 1, by omega, by go_num, by rw [← HT.out], ff HF.out HF3.out⟩
      case measure => simp [intOf]; omega
    · have HT := Lib.hid (show 34 :: (s.data.toList.take k).flatMap enc ++ [34] = quoteL s.data.toList by rw [List.take_of_length_le (by rw [bytes_len]; omega)]; simp [quoteL])
      generalize (s.data.toList.take k).flatMap enc = acc at HT hlen
      have a1 := fun w => run_add_str (P := Try.prog) w [34] acc (by simp; omega)
      have a2 := fun w => run_add_str (P := Try.prog) w (34 :: acc) [34] (by simp; omega)
      simp only [List.cons_append, List.nil_append] at a1 a2
      go_wp2_with fail
      go_ret
      exact ⟨by rw [← HT.out]; rfl, HF.out⟩
end Go.Proofs.Ytbolgodoifbnnaa
