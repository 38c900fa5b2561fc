import Derived.Test.YtodcnbejnchmhaaGreatDoorYb27
namespace Go.Proofs.YtodcnbejnchmhaaGreatDoor
open Go.RowKit Go.Mem Go.Lin

set_option maxHeartbeats 1600000 in
theorem kindOf_s (s : ByteArray) (hs : s.size ≤ 1000000) (w : World) (k : Nat) (hk : kindD s.data.toList = k) : Calls Tryz.prog 158 #[.string s] w fun e w' => e = .returned (intV (k : Int)) ∧ Fr w w' (fun _ => False) := by
  have hb := S8.bytes_len s
  obtain ⟨n, hn⟩ : ∃ n, Go.Kwd.headD s.data.toList = n := ⟨_, rfl⟩
  have hh := head_any s.data.toList (by omega) w n hn
  rw [show strV s.data.toList = Value.string s from (S8.strV_of s).symm] at hh
  have HH := Lib.hid hh
  unfold kindD at hk
  rw [hn] at hk
  have hcases : n = 1 ∨ n = 2 ∨ n = 3 ∨ (n ≠ 1 ∧ n ≠ 2 ∧ n ≠ 3) := by omega
  rcases hcases with rfl | rfl | rfl | ⟨g1, g2, g3⟩
  · obtain rfl : 1 = k := by simpa using hk
    clear hk hn hh hb
    go_enter Tryz.func158, Tryz.ntmps158
    go_wp2_with fail
    refine HH.out.mono ?_
    rintro e w2 ⟨rfl, hf2⟩
    have HF2 := Lib.hid hf2
    clear hf2
    go_wp2_with fail
    go_ret
    exact ⟨rfl, HF2.out⟩
  · obtain rfl : 2 = k := by simpa using hk
    clear hk hn hh hb
    go_enter Tryz.func158, Tryz.ntmps158
    go_wp2_with fail
    refine HH.out.mono ?_
    rintro e w2 ⟨rfl, hf2⟩
    have HF2 := Lib.hid hf2
    clear hf2
    go_wp2_with fail
    go_ret
    exact ⟨rfl, HF2.out⟩
  · obtain rfl : 4 = k := by simpa using hk
    clear hk hn hh hb
    go_enter Tryz.func158, Tryz.ntmps158
    go_wp2_with fail
    refine HH.out.mono ?_
    rintro e w2 ⟨rfl, hf2⟩
    have HF2 := Lib.hid hf2
    clear hf2
    go_wp2_with fail
    go_ret
    exact ⟨rfl, HF2.out⟩
  · have e1 : ((n : Int) == 1) = false := by simp; omega
    have e2 : ((n : Int) == 2) = false := by simp; omega
    have e3 : ((n : Int) == 3) = false := by simp; omega
    rw [if_neg g1, if_neg g2, if_neg g3] at hk
    by_cases h0 : s.size = 0
    · obtain ⟨he, h2⟩ := S8.emp_of h0
      rw [h2] at hk
      obtain rfl : 0 = k := by simpa [contB] using hk
      clear hk hn hh hb h2 g1 g2 g3
      go_enter Tryz.func158, Tryz.ntmps158
      go_wp2_with fail
      refine HH.out.mono ?_
      rintro e w2 ⟨rfl, hf2⟩
      have HF2 := Lib.hid hf2
      clear hf2
      go_wp2_with fail
      go_ret
      exact ⟨rfl, HF2.out⟩
    · have hpos : 0 < s.size := by omega
      have he := (S8.emp_not hpos).1
      obtain ⟨c, r, hl⟩ : ∃ c r, s.data.toList = c :: r := by
        cases hl : s.data.toList with
        | nil => exact absurd hl (S8.emp_not hpos).2
        | cons c r => exact ⟨c, r, rfl⟩
      obtain ⟨_, hc, -⟩ := S8.drop_cons (s := s) (a := 0) (by rw [List.drop_zero]; exact hl)
      obtain ⟨d, hd⟩ : ∃ d, ((s[0].toNat : Int) == 45) = d := ⟨_, rfl⟩
      obtain ⟨z, hz⟩ : ∃ z, Go.Kwd.digitB s[0] = z := ⟨_, rfl⟩
      have hk : k = if (d || z) = true then 3 else 0 := by
        rw [← hk, hl]
        show (if (c == 45 || Go.Kwd.digitB c) = true then 3 else 0) = _
        rw [← hc, S8.eq_byte]
        rw [← hz, ← hd]
        rfl
      have HD := Lib.hid (fun W => isDigit_any s[0] W)
      have HD := Lib.hid (fun W => (show Calls Tryz.prog 183 #[.int .u8 (s[0].toNat : Int)] W fun e w' => e = .returned (.bool z) ∧ W = w' by rw [← hz]; exact HD.out W))
      clear hn hh hb g1 g2 g3 hz hl hc h0
      cases d with
      | true =>
        obtain rfl : k = 3 := by simpa using hk
        clear hk
        go_enter Tryz.func158, Tryz.ntmps158
        go_wp2_with fail
        refine HH.out.mono ?_
        rintro e w2 ⟨rfl, hf2⟩
        have HF2 := Lib.hid hf2
        clear hf2
        go_wp2_with fail
        go_ret
        exact ⟨rfl, HF2.out⟩
      | false =>
        have e45 : ((s[0].toNat : Int) == 45) = false := hd
        cases z with
        | true =>
          obtain rfl : k = 3 := by simpa using hk
          clear hk
          go_enter Tryz.func158, Tryz.ntmps158
          go_wp2_with fail
          refine HH.out.mono ?_
          rintro e w2 ⟨rfl, hf2⟩
          have HF2 := Lib.hid hf2
          clear hf2
          go_wp2_with fail
          refine (HD.out _).mono ?_
          rintro e w3 ⟨rfl, rfl⟩
          go_wp2_with fail
          go_ret
          exact ⟨rfl, HF2.out⟩
        | false =>
          obtain rfl : k = 0 := by simpa using hk
          clear hk
          go_enter Tryz.func158, Tryz.ntmps158
          go_wp2_with fail
          refine HH.out.mono ?_
          rintro e w2 ⟨rfl, hf2⟩
          have HF2 := Lib.hid hf2
          clear hf2
          go_wp2_with fail
          refine (HD.out _).mono ?_
          rintro e w3 ⟨rfl, rfl⟩
          go_wp2_with fail
          go_ret
          exact ⟨rfl, HF2.out⟩
theorem kindOf_any (l : Bs) (hl : l.length ≤ 1000000) (w : World) (k : Nat) (hk : kindD l = k) : Calls Tryz.prog 158 #[strV l] w fun e w' => e = .returned (intV (k : Int)) ∧ Fr w w' (fun _ => False) := kindOf_s ⟨l.toArray⟩ (by rw [str_size]; exact hl) w k hk
/-- what begin answers -/
def BPost (fs : List FPair) (g b : Nat) (r : Except Er Nat) (w : World) (e : Ending) (w' : World) : Prop := match r with
  | .ok k => e = .returned (intV (k : Int)) ∧ LeftAt w' b g (fs.drop (if k = 3 then 0 else 1)) ∧ Fr w w' (· = b)
  | .error x => e = Raised (wrongL x.2 (colOf fs x.1)) ∧ Fr w w' (· = b)
set_option maxRecDepth 100000 in
set_option maxHeartbeats 1600000 in
theorem begin_none (x : FPair) (r : List FPair) (hz : x.1.length ≤ 100000) (w0 w : World) (b g : Nat) (ho : Ok w0 w b g) (h : LeftAt w b g (x :: r)) (hk : kindD x.1 = 0) :
    Calls Tryz.prog 140 #[.pointer (some ⟨b, 0, none⟩)] w (BPost (x :: r) g b (.error (0, 3)) w) := by
  have hbs := h.lt
  obtain ⟨off, c, hb, hc, c0, c1, hL⟩ := h.open
  have d0 := blk_cell hb 0 _ rfl
  have HL := Lib.hid h
  have HX := Lib.hid hL
  have HB := Lib.hid hb
  have HO := Lib.hid ho
  have HE := Lib.hid (Blk.made w 172 #[strV x.1, intV (x.2 : Int)])
  have HK := Lib.hid (fun W => kindOf_any x.1 (by omega) W 0 hk)
  clear hL hb h ho hk
  go_enter Tryz.func140, Tryz.ntmps140
  go_wp2_with fail
  refine (HK.out _).mono ?_
  rintro e w2 ⟨rfl, hf2⟩
  have hF2 := ff (Fr.new w _ _) hf2
  have HF2 := Lib.hid hF2
  have HB2 := Lib.hid (hF2.blk HB.out (fun h => h))
  have d2 := blk_cell HB2.out 0 _ rfl
  have e1 := blk_cell (hf2.blk HE.out (fun h => h)) 1 _ rfl
  clear hF2 hf2 HK
  go_wp2_with fail
  refine (fault_any _ _ _).mono ?_
  rintro e w3 ⟨rfl, hf3⟩
  have HF3 := Lib.hid (ff HF2.out hf3)
  clear hf3
  go_wp2_with fail
  exact ⟨rfl, rfl, fr_b HF3.out⟩
set_option maxRecDepth 100000 in
set_option maxHeartbeats 1600000 in
theorem begin_few1 (x : FPair) (r : List FPair) (hz : x.1.length ≤ 100000) (w0 w : World) (b g : Nat) (ho : Ok w0 w b g) (h : LeftAt w b g (x :: r)) (hk : kindD x.1 = 1) (hn : (r.length : Int) + 1 < 10) :
    Calls Tryz.prog 140 #[.pointer (some ⟨b, 0, none⟩)] w (BPost (x :: r) g b (.error (0, 4)) w) := by
  have hbs := h.lt
  obtain ⟨off, c, hb, hc, c0, c1, hL⟩ := h.open
  have d0 := blk_cell hb 0 _ rfl
  have HL := Lib.hid h
  have HX := Lib.hid hL
  have HB := Lib.hid hb
  have HO := Lib.hid ho
  have HE := Lib.hid (Blk.made w 172 #[strV x.1, intV (x.2 : Int)])
  have HK := Lib.hid (fun W => kindOf_any x.1 (by omega) W 1 hk)
  clear hL hb h ho hk
  go_enter Tryz.func140, Tryz.ntmps140
  go_wp2_with fail
  refine (HK.out _).mono ?_
  rintro e w2 ⟨rfl, hf2⟩
  have hF2 := ff (Fr.new w _ _) hf2
  have HF2 := Lib.hid hF2
  have HB2 := Lib.hid (hF2.blk HB.out (fun h => h))
  have d2 := blk_cell HB2.out 0 _ rfl
  have e1 := blk_cell (hf2.blk HE.out (fun h => h)) 1 _ rfl
  have k0 : w2.cell? ⟨1, 2, none⟩ = some (intV 10) := (HO.out.at_ HF2.out).counts 2 (by omega)
  have k1 : w2.cell? ⟨1, 3, none⟩ = some (intV 10) := (HO.out.at_ HF2.out).counts 3 (by omega)
  clear hF2 hf2 HK
  go_wp2_with fail
  refine (fault_any _ _ _).mono ?_
  rintro e w3 ⟨rfl, hf3⟩
  have HF3 := Lib.hid (ff HF2.out hf3)
  clear hf3
  go_wp2_with fail
  exact ⟨rfl, rfl, fr_b HF3.out⟩
set_option maxRecDepth 100000 in
set_option maxHeartbeats 1600000 in
theorem begin_many1 (x : FPair) (r : List FPair) (hz : x.1.length ≤ 100000) (w0 w : World) (b g : Nat) (ho : Ok w0 w b g) (h : LeftAt w b g (x :: r)) (hk : kindD x.1 = 1) (hn : 10 < (r.length : Int) + 1) :
    Calls Tryz.prog 140 #[.pointer (some ⟨b, 0, none⟩)] w (BPost (x :: r) g b (.error (0, 4)) w) := by
  have hbs := h.lt
  obtain ⟨off, c, hb, hc, c0, c1, hL⟩ := h.open
  have d0 := blk_cell hb 0 _ rfl
  have HL := Lib.hid h
  have HX := Lib.hid hL
  have HB := Lib.hid hb
  have HO := Lib.hid ho
  have HE := Lib.hid (Blk.made w 172 #[strV x.1, intV (x.2 : Int)])
  have HK := Lib.hid (fun W => kindOf_any x.1 (by omega) W 1 hk)
  clear hL hb h ho hk
  go_enter Tryz.func140, Tryz.ntmps140
  go_wp2_with fail
  refine (HK.out _).mono ?_
  rintro e w2 ⟨rfl, hf2⟩
  have hF2 := ff (Fr.new w _ _) hf2
  have HF2 := Lib.hid hF2
  have HB2 := Lib.hid (hF2.blk HB.out (fun h => h))
  have d2 := blk_cell HB2.out 0 _ rfl
  have e1 := blk_cell (hf2.blk HE.out (fun h => h)) 1 _ rfl
  have k0 : w2.cell? ⟨1, 2, none⟩ = some (intV 10) := (HO.out.at_ HF2.out).counts 2 (by omega)
  have k1 : w2.cell? ⟨1, 3, none⟩ = some (intV 10) := (HO.out.at_ HF2.out).counts 3 (by omega)
  have hn2 : 10 ≤ (r.length : Int) + 1 := by omega
  clear hF2 hf2 HK
  go_wp2_with fail
  refine (fault_any _ _ _).mono ?_
  rintro e w3 ⟨rfl, hf3⟩
  have HF3 := Lib.hid (ff HF2.out hf3)
  clear hf3
  go_wp2_with fail
  exact ⟨rfl, rfl, fr_b HF3.out⟩
set_option maxRecDepth 100000 in
set_option maxHeartbeats 1600000 in
theorem begin_ok1 (x : FPair) (r : List FPair) (hz : x.1.length ≤ 100000) (w0 w : World) (b g : Nat) (ho : Ok w0 w b g) (h : LeftAt w b g (x :: r)) (hk : kindD x.1 = 1) (hn1 : 10 ≤ (r.length : Int) + 1) (hn2 : (r.length : Int) + 1 ≤ 10) :
    Calls Tryz.prog 140 #[.pointer (some ⟨b, 0, none⟩)] w (BPost (x :: r) g b (.ok 1) w) := by
  have hbs := h.lt
  obtain ⟨off, c, hb, hc, c0, c1, hL⟩ := h.open
  have d0 := blk_cell hb 0 _ rfl
  have HL := Lib.hid h
  have HX := Lib.hid hL
  have HB := Lib.hid hb
  have HO := Lib.hid ho
  have HE := Lib.hid (Blk.made w 172 #[strV x.1, intV (x.2 : Int)])
  have HK := Lib.hid (fun W => kindOf_any x.1 (by omega) W 1 hk)
  clear hL hb h ho hk
  go_enter Tryz.func140, Tryz.ntmps140
  go_wp2_with fail
  refine (HK.out _).mono ?_
  rintro e w2 ⟨rfl, hf2⟩
  have hF2 := ff (Fr.new w _ _) hf2
  have HF2 := Lib.hid hF2
  have HB2 := Lib.hid (hF2.blk HB.out (fun h => h))
  have d2 := blk_cell HB2.out 0 _ rfl
  have e1 := blk_cell (hf2.blk HE.out (fun h => h)) 1 _ rfl
  have k0 : w2.cell? ⟨1, 2, none⟩ = some (intV 10) := (HO.out.at_ HF2.out).counts 2 (by omega)
  have k1 : w2.cell? ⟨1, 3, none⟩ = some (intV 10) := (HO.out.at_ HF2.out).counts 3 (by omega)
  have hbg := HO.out.hg
  have f2 := free_at HB2.out 0
  have l1 : (1 : Int) ≤ (r.length + 1 : Int) := by omega
  have l2 : (r.length + 1 : Int) ≤ (c : Int) := by omega
  clear hF2 hf2 HK
  go_wp2_with fail
  go_ret
  have hf3 := fr_put0 HF2.out b 0 (.slice (some ⟨g, off + 2, none⟩) r.length (c - 1))
  have hcut : Mem.cutA (some ⟨g, off, none⟩) c 1 2 = some ⟨g, off + 2, none⟩ := by
    unfold Mem.cutA
    rw [if_neg (by omega)]
    rfl
  rw [hcut] at HX
  exact ⟨rfl, HX.out _ _ hf3 hbg (HB2.out.put' (cs' := #[.slice (some ⟨g, off + 2, none⟩) r.length (c - 1)]) 0 _ (by simp)), hf3⟩
set_option maxRecDepth 100000 in
set_option maxHeartbeats 1600000 in
theorem begin_few2 (x : FPair) (r : List FPair) (hz : x.1.length ≤ 100000) (w0 w : World) (b g : Nat) (ho : Ok w0 w b g) (h : LeftAt w b g (x :: r)) (hk : kindD x.1 = 2) (hn : (r.length : Int) + 1 < 5) :
    Calls Tryz.prog 140 #[.pointer (some ⟨b, 0, none⟩)] w (BPost (x :: r) g b (.error (0, 4)) w) := by
  have hbs := h.lt
  obtain ⟨off, c, hb, hc, c0, c1, hL⟩ := h.open
  have d0 := blk_cell hb 0 _ rfl
  have HL := Lib.hid h
  have HX := Lib.hid hL
  have HB := Lib.hid hb
  have HO := Lib.hid ho
  have HE := Lib.hid (Blk.made w 172 #[strV x.1, intV (x.2 : Int)])
  have HK := Lib.hid (fun W => kindOf_any x.1 (by omega) W 2 hk)
  clear hL hb h ho hk
  go_enter Tryz.func140, Tryz.ntmps140
  go_wp2_with fail
  refine (HK.out _).mono ?_
  rintro e w2 ⟨rfl, hf2⟩
  have hF2 := ff (Fr.new w _ _) hf2
  have HF2 := Lib.hid hF2
  have HB2 := Lib.hid (hF2.blk HB.out (fun h => h))
  have d2 := blk_cell HB2.out 0 _ rfl
  have e1 := blk_cell (hf2.blk HE.out (fun h => h)) 1 _ rfl
  have k0 : w2.cell? ⟨1, 4, none⟩ = some (intV 5) := (HO.out.at_ HF2.out).counts 4 (by omega)
  have k1 : w2.cell? ⟨1, 5, none⟩ = some (intV 9) := (HO.out.at_ HF2.out).counts 5 (by omega)
  clear hF2 hf2 HK
  go_wp2_with fail
  refine (fault_any _ _ _).mono ?_
  rintro e w3 ⟨rfl, hf3⟩
  have HF3 := Lib.hid (ff HF2.out hf3)
  clear hf3
  go_wp2_with fail
  exact ⟨rfl, rfl, fr_b HF3.out⟩
set_option maxRecDepth 100000 in
set_option maxHeartbeats 1600000 in
theorem begin_many2 (x : FPair) (r : List FPair) (hz : x.1.length ≤ 100000) (w0 w : World) (b g : Nat) (ho : Ok w0 w b g) (h : LeftAt w b g (x :: r)) (hk : kindD x.1 = 2) (hn : 9 < (r.length : Int) + 1) :
    Calls Tryz.prog 140 #[.pointer (some ⟨b, 0, none⟩)] w (BPost (x :: r) g b (.error (0, 4)) w) := by
  have hbs := h.lt
  obtain ⟨off, c, hb, hc, c0, c1, hL⟩ := h.open
  have d0 := blk_cell hb 0 _ rfl
  have HL := Lib.hid h
  have HX := Lib.hid hL
  have HB := Lib.hid hb
  have HO := Lib.hid ho
  have HE := Lib.hid (Blk.made w 172 #[strV x.1, intV (x.2 : Int)])
  have HK := Lib.hid (fun W => kindOf_any x.1 (by omega) W 2 hk)
  clear hL hb h ho hk
  go_enter Tryz.func140, Tryz.ntmps140
  go_wp2_with fail
  refine (HK.out _).mono ?_
  rintro e w2 ⟨rfl, hf2⟩
  have hF2 := ff (Fr.new w _ _) hf2
  have HF2 := Lib.hid hF2
  have HB2 := Lib.hid (hF2.blk HB.out (fun h => h))
  have d2 := blk_cell HB2.out 0 _ rfl
  have e1 := blk_cell (hf2.blk HE.out (fun h => h)) 1 _ rfl
  have k0 : w2.cell? ⟨1, 4, none⟩ = some (intV 5) := (HO.out.at_ HF2.out).counts 4 (by omega)
  have k1 : w2.cell? ⟨1, 5, none⟩ = some (intV 9) := (HO.out.at_ HF2.out).counts 5 (by omega)
  have hn2 : 5 ≤ (r.length : Int) + 1 := by omega
  clear hF2 hf2 HK
  go_wp2_with fail
  refine (fault_any _ _ _).mono ?_
  rintro e w3 ⟨rfl, hf3⟩
  have HF3 := Lib.hid (ff HF2.out hf3)
  clear hf3
  go_wp2_with fail
  exact ⟨rfl, rfl, fr_b HF3.out⟩
set_option maxRecDepth 100000 in
set_option maxHeartbeats 1600000 in
theorem begin_ok2 (x : FPair) (r : List FPair) (hz : x.1.length ≤ 100000) (w0 w : World) (b g : Nat) (ho : Ok w0 w b g) (h : LeftAt w b g (x :: r)) (hk : kindD x.1 = 2) (hn1 : 5 ≤ (r.length : Int) + 1) (hn2 : (r.length : Int) + 1 ≤ 9) :
    Calls Tryz.prog 140 #[.pointer (some ⟨b, 0, none⟩)] w (BPost (x :: r) g b (.ok 2) w) := by
  have hbs := h.lt
  obtain ⟨off, c, hb, hc, c0, c1, hL⟩ := h.open
  have d0 := blk_cell hb 0 _ rfl
  have HL := Lib.hid h
  have HX := Lib.hid hL
  have HB := Lib.hid hb
  have HO := Lib.hid ho
  have HE := Lib.hid (Blk.made w 172 #[strV x.1, intV (x.2 : Int)])
  have HK := Lib.hid (fun W => kindOf_any x.1 (by omega) W 2 hk)
  clear hL hb h ho hk
  go_enter Tryz.func140, Tryz.ntmps140
  go_wp2_with fail
  refine (HK.out _).mono ?_
  rintro e w2 ⟨rfl, hf2⟩
  have hF2 := ff (Fr.new w _ _) hf2
  have HF2 := Lib.hid hF2
  have HB2 := Lib.hid (hF2.blk HB.out (fun h => h))
  have d2 := blk_cell HB2.out 0 _ rfl
  have e1 := blk_cell (hf2.blk HE.out (fun h => h)) 1 _ rfl
  have k0 : w2.cell? ⟨1, 4, none⟩ = some (intV 5) := (HO.out.at_ HF2.out).counts 4 (by omega)
  have k1 : w2.cell? ⟨1, 5, none⟩ = some (intV 9) := (HO.out.at_ HF2.out).counts 5 (by omega)
  have hbg := HO.out.hg
  have f2 := free_at HB2.out 0
  have l1 : (1 : Int) ≤ (r.length + 1 : Int) := by omega
  have l2 : (r.length + 1 : Int) ≤ (c : Int) := by omega
  clear hF2 hf2 HK
  go_wp2_with fail
  go_ret
  have hf3 := fr_put0 HF2.out b 0 (.slice (some ⟨g, off + 2, none⟩) r.length (c - 1))
  have hcut : Mem.cutA (some ⟨g, off, none⟩) c 1 2 = some ⟨g, off + 2, none⟩ := by
    unfold Mem.cutA
    rw [if_neg (by omega)]
    rfl
  rw [hcut] at HX
  exact ⟨rfl, HX.out _ _ hf3 hbg (HB2.out.put' (cs' := #[.slice (some ⟨g, off + 2, none⟩) r.length (c - 1)]) 0 _ (by simp)), hf3⟩
set_option maxRecDepth 100000 in
set_option maxHeartbeats 1600000 in
theorem begin_few3 (x : FPair) (r : List FPair) (hz : x.1.length ≤ 100000) (w0 w : World) (b g : Nat) (ho : Ok w0 w b g) (h : LeftAt w b g (x :: r)) (hk : kindD x.1 = 3) (hn : (r.length : Int) + 1 < 3) :
    Calls Tryz.prog 140 #[.pointer (some ⟨b, 0, none⟩)] w (BPost (x :: r) g b (.error (0, 4)) w) := by
  have hbs := h.lt
  obtain ⟨off, c, hb, hc, c0, c1, hL⟩ := h.open
  have d0 := blk_cell hb 0 _ rfl
  have HL := Lib.hid h
  have HX := Lib.hid hL
  have HB := Lib.hid hb
  have HO := Lib.hid ho
  have HE := Lib.hid (Blk.made w 172 #[strV x.1, intV (x.2 : Int)])
  have HK := Lib.hid (fun W => kindOf_any x.1 (by omega) W 3 hk)
  clear hL hb h ho hk
  go_enter Tryz.func140, Tryz.ntmps140
  go_wp2_with fail
  refine (HK.out _).mono ?_
  rintro e w2 ⟨rfl, hf2⟩
  have hF2 := ff (Fr.new w _ _) hf2
  have HF2 := Lib.hid hF2
  have HB2 := Lib.hid (hF2.blk HB.out (fun h => h))
  have d2 := blk_cell HB2.out 0 _ rfl
  have e1 := blk_cell (hf2.blk HE.out (fun h => h)) 1 _ rfl
  have k0 : w2.cell? ⟨1, 6, none⟩ = some (intV 3) := (HO.out.at_ HF2.out).counts 6 (by omega)
  have k1 : w2.cell? ⟨1, 7, none⟩ = some (intV 7) := (HO.out.at_ HF2.out).counts 7 (by omega)
  clear hF2 hf2 HK
  go_wp2_with fail
  refine (fault_any _ _ _).mono ?_
  rintro e w3 ⟨rfl, hf3⟩
  have HF3 := Lib.hid (ff HF2.out hf3)
  clear hf3
  go_wp2_with fail
  exact ⟨rfl, rfl, fr_b HF3.out⟩
set_option maxRecDepth 100000 in
set_option maxHeartbeats 1600000 in
theorem begin_many3 (x : FPair) (r : List FPair) (hz : x.1.length ≤ 100000) (w0 w : World) (b g : Nat) (ho : Ok w0 w b g) (h : LeftAt w b g (x :: r)) (hk : kindD x.1 = 3) (hn : 7 < (r.length : Int) + 1) :
    Calls Tryz.prog 140 #[.pointer (some ⟨b, 0, none⟩)] w (BPost (x :: r) g b (.error (0, 4)) w) := by
  have hbs := h.lt
  obtain ⟨off, c, hb, hc, c0, c1, hL⟩ := h.open
  have d0 := blk_cell hb 0 _ rfl
  have HL := Lib.hid h
  have HX := Lib.hid hL
  have HB := Lib.hid hb
  have HO := Lib.hid ho
  have HE := Lib.hid (Blk.made w 172 #[strV x.1, intV (x.2 : Int)])
  have HK := Lib.hid (fun W => kindOf_any x.1 (by omega) W 3 hk)
  clear hL hb h ho hk
  go_enter Tryz.func140, Tryz.ntmps140
  go_wp2_with fail
  refine (HK.out _).mono ?_
  rintro e w2 ⟨rfl, hf2⟩
  have hF2 := ff (Fr.new w _ _) hf2
  have HF2 := Lib.hid hF2
  have HB2 := Lib.hid (hF2.blk HB.out (fun h => h))
  have d2 := blk_cell HB2.out 0 _ rfl
  have e1 := blk_cell (hf2.blk HE.out (fun h => h)) 1 _ rfl
  have k0 : w2.cell? ⟨1, 6, none⟩ = some (intV 3) := (HO.out.at_ HF2.out).counts 6 (by omega)
  have k1 : w2.cell? ⟨1, 7, none⟩ = some (intV 7) := (HO.out.at_ HF2.out).counts 7 (by omega)
  have hn2 : 3 ≤ (r.length : Int) + 1 := by omega
  clear hF2 hf2 HK
  go_wp2_with fail
  refine (fault_any _ _ _).mono ?_
  rintro e w3 ⟨rfl, hf3⟩
  have HF3 := Lib.hid (ff HF2.out hf3)
  clear hf3
  go_wp2_with fail
  exact ⟨rfl, rfl, fr_b HF3.out⟩
set_option maxRecDepth 100000 in
set_option maxHeartbeats 1600000 in
theorem begin_ok3 (x : FPair) (r : List FPair) (hz : x.1.length ≤ 100000) (w0 w : World) (b g : Nat) (ho : Ok w0 w b g) (h : LeftAt w b g (x :: r)) (hk : kindD x.1 = 3) (hn1 : 3 ≤ (r.length : Int) + 1) (hn2 : (r.length : Int) + 1 ≤ 7) :
    Calls Tryz.prog 140 #[.pointer (some ⟨b, 0, none⟩)] w (BPost (x :: r) g b (.ok 3) w) := by
  have hbs := h.lt
  obtain ⟨off, c, hb, hc, c0, c1, hL⟩ := h.open
  have d0 := blk_cell hb 0 _ rfl
  have HL := Lib.hid h
  have HX := Lib.hid hL
  have HB := Lib.hid hb
  have HO := Lib.hid ho
  have HE := Lib.hid (Blk.made w 172 #[strV x.1, intV (x.2 : Int)])
  have HK := Lib.hid (fun W => kindOf_any x.1 (by omega) W 3 hk)
  clear hL hb h ho hk
  go_enter Tryz.func140, Tryz.ntmps140
  go_wp2_with fail
  refine (HK.out _).mono ?_
  rintro e w2 ⟨rfl, hf2⟩
  have hF2 := ff (Fr.new w _ _) hf2
  have HF2 := Lib.hid hF2
  have HB2 := Lib.hid (hF2.blk HB.out (fun h => h))
  have d2 := blk_cell HB2.out 0 _ rfl
  have e1 := blk_cell (hf2.blk HE.out (fun h => h)) 1 _ rfl
  have k0 : w2.cell? ⟨1, 6, none⟩ = some (intV 3) := (HO.out.at_ HF2.out).counts 6 (by omega)
  have k1 : w2.cell? ⟨1, 7, none⟩ = some (intV 7) := (HO.out.at_ HF2.out).counts 7 (by omega)
  have hbg := HO.out.hg
  have f2 := free_at HB2.out 0
  have l1 : (1 : Int) ≤ (r.length + 1 : Int) := by omega
  have l2 : (r.length + 1 : Int) ≤ (c : Int) := by omega
  clear hF2 hf2 HK
  go_wp2_with fail
  go_ret
  exact ⟨rfl, HL.out.fr HF2.out (fun h => h) (fun h => h), fr_b HF2.out⟩
set_option maxRecDepth 100000 in
set_option maxHeartbeats 1600000 in
theorem begin_few4 (x : FPair) (r : List FPair) (hz : x.1.length ≤ 100000) (w0 w : World) (b g : Nat) (ho : Ok w0 w b g) (h : LeftAt w b g (x :: r)) (hk : kindD x.1 = 4) (hn : (r.length : Int) + 1 < 3) :
    Calls Tryz.prog 140 #[.pointer (some ⟨b, 0, none⟩)] w (BPost (x :: r) g b (.error (0, 4)) w) := by
  have hbs := h.lt
  obtain ⟨off, c, hb, hc, c0, c1, hL⟩ := h.open
  have d0 := blk_cell hb 0 _ rfl
  have HL := Lib.hid h
  have HX := Lib.hid hL
  have HB := Lib.hid hb
  have HO := Lib.hid ho
  have HE := Lib.hid (Blk.made w 172 #[strV x.1, intV (x.2 : Int)])
  have HK := Lib.hid (fun W => kindOf_any x.1 (by omega) W 4 hk)
  clear hL hb h ho hk
  go_enter Tryz.func140, Tryz.ntmps140
  go_wp2_with fail
  refine (HK.out _).mono ?_
  rintro e w2 ⟨rfl, hf2⟩
  have hF2 := ff (Fr.new w _ _) hf2
  have HF2 := Lib.hid hF2
  have HB2 := Lib.hid (hF2.blk HB.out (fun h => h))
  have d2 := blk_cell HB2.out 0 _ rfl
  have e1 := blk_cell (hf2.blk HE.out (fun h => h)) 1 _ rfl
  have k0 : w2.cell? ⟨1, 8, none⟩ = some (intV 3) := (HO.out.at_ HF2.out).counts 8 (by omega)
  have k1 : w2.cell? ⟨1, 9, none⟩ = some (intV 3) := (HO.out.at_ HF2.out).counts 9 (by omega)
  clear hF2 hf2 HK
  go_wp2_with fail
  refine (fault_any _ _ _).mono ?_
  rintro e w3 ⟨rfl, hf3⟩
  have HF3 := Lib.hid (ff HF2.out hf3)
  clear hf3
  go_wp2_with fail
  exact ⟨rfl, rfl, fr_b HF3.out⟩
set_option maxRecDepth 100000 in
set_option maxHeartbeats 1600000 in
theorem begin_many4 (x : FPair) (r : List FPair) (hz : x.1.length ≤ 100000) (w0 w : World) (b g : Nat) (ho : Ok w0 w b g) (h : LeftAt w b g (x :: r)) (hk : kindD x.1 = 4) (hn : 3 < (r.length : Int) + 1) :
    Calls Tryz.prog 140 #[.pointer (some ⟨b, 0, none⟩)] w (BPost (x :: r) g b (.error (0, 4)) w) := by
  have hbs := h.lt
  obtain ⟨off, c, hb, hc, c0, c1, hL⟩ := h.open
  have d0 := blk_cell hb 0 _ rfl
  have HL := Lib.hid h
  have HX := Lib.hid hL
  have HB := Lib.hid hb
  have HO := Lib.hid ho
  have HE := Lib.hid (Blk.made w 172 #[strV x.1, intV (x.2 : Int)])
  have HK := Lib.hid (fun W => kindOf_any x.1 (by omega) W 4 hk)
  clear hL hb h ho hk
  go_enter Tryz.func140, Tryz.ntmps140
  go_wp2_with fail
  refine (HK.out _).mono ?_
  rintro e w2 ⟨rfl, hf2⟩
  have hF2 := ff (Fr.new w _ _) hf2
  have HF2 := Lib.hid hF2
  have HB2 := Lib.hid (hF2.blk HB.out (fun h => h))
  have d2 := blk_cell HB2.out 0 _ rfl
  have e1 := blk_cell (hf2.blk HE.out (fun h => h)) 1 _ rfl
  have k0 : w2.cell? ⟨1, 8, none⟩ = some (intV 3) := (HO.out.at_ HF2.out).counts 8 (by omega)
  have k1 : w2.cell? ⟨1, 9, none⟩ = some (intV 3) := (HO.out.at_ HF2.out).counts 9 (by omega)
  have hn2 : 3 ≤ (r.length : Int) + 1 := by omega
  clear hF2 hf2 HK
  go_wp2_with fail
  refine (fault_any _ _ _).mono ?_
  rintro e w3 ⟨rfl, hf3⟩
  have HF3 := Lib.hid (ff HF2.out hf3)
  clear hf3
  go_wp2_with fail
  exact ⟨rfl, rfl, fr_b HF3.out⟩
set_option maxRecDepth 100000 in
set_option maxHeartbeats 1600000 in
theorem begin_ok4 (x : FPair) (r : List FPair) (hz : x.1.length ≤ 100000) (w0 w : World) (b g : Nat) (ho : Ok w0 w b g) (h : LeftAt w b g (x :: r)) (hk : kindD x.1 = 4) (hn1 : 3 ≤ (r.length : Int) + 1) (hn2 : (r.length : Int) + 1 ≤ 3) :
    Calls Tryz.prog 140 #[.pointer (some ⟨b, 0, none⟩)] w (BPost (x :: r) g b (.ok 4) w) := by
  have hbs := h.lt
  obtain ⟨off, c, hb, hc, c0, c1, hL⟩ := h.open
  have d0 := blk_cell hb 0 _ rfl
  have HL := Lib.hid h
  have HX := Lib.hid hL
  have HB := Lib.hid hb
  have HO := Lib.hid ho
  have HE := Lib.hid (Blk.made w 172 #[strV x.1, intV (x.2 : Int)])
  have HK := Lib.hid (fun W => kindOf_any x.1 (by omega) W 4 hk)
  clear hL hb h ho hk
  go_enter Tryz.func140, Tryz.ntmps140
  go_wp2_with fail
  refine (HK.out _).mono ?_
  rintro e w2 ⟨rfl, hf2⟩
  have hF2 := ff (Fr.new w _ _) hf2
  have HF2 := Lib.hid hF2
  have HB2 := Lib.hid (hF2.blk HB.out (fun h => h))
  have d2 := blk_cell HB2.out 0 _ rfl
  have e1 := blk_cell (hf2.blk HE.out (fun h => h)) 1 _ rfl
  have k0 : w2.cell? ⟨1, 8, none⟩ = some (intV 3) := (HO.out.at_ HF2.out).counts 8 (by omega)
  have k1 : w2.cell? ⟨1, 9, none⟩ = some (intV 3) := (HO.out.at_ HF2.out).counts 9 (by omega)
  have hbg := HO.out.hg
  have f2 := free_at HB2.out 0
  have l1 : (1 : Int) ≤ (r.length + 1 : Int) := by omega
  have l2 : (r.length + 1 : Int) ≤ (c : Int) := by omega
  clear hF2 hf2 HK
  go_wp2_with fail
  go_ret
  have hf3 := fr_put0 HF2.out b 0 (.slice (some ⟨g, off + 2, none⟩) r.length (c - 1))
  have hcut : Mem.cutA (some ⟨g, off, none⟩) c 1 2 = some ⟨g, off + 2, none⟩ := by
    unfold Mem.cutA
    rw [if_neg (by omega)]
    rfl
  rw [hcut] at HX
  exact ⟨rfl, HX.out _ _ hf3 hbg (HB2.out.put' (cs' := #[.slice (some ⟨g, off + 2, none⟩) r.length (c - 1)]) 0 _ (by simp)), hf3⟩
theorem begin_any (fs : List FPair) (hz : ∀ x ∈ fs, x.1.length ≤ 100000) (hne : fs ≠ []) (w0 w : World) (b g : Nat) (ho : Ok w0 w b g) (h : LeftAt w b g fs) :
    Calls Tryz.prog 140 #[.pointer (some ⟨b, 0, none⟩)] w (BPost fs g b (beginP fs) w) := by
  cases fs with
  | nil => exact absurd rfl hne
  | cons x r =>
    have hx := hz x (by simp)
    unfold beginP
    show Calls Tryz.prog 140 _ w (BPost (x :: r) g b (if kindD x.1 = 0 then _ else if (r.length + 1) < leastD (kindD x.1) ∨ mostD (kindD x.1) < (r.length + 1) then _ else .ok (kindD x.1)) w)
    rcases kind_cases x.1 with hk | hk | hk | hk | hk
    · rw [hk, if_pos rfl]
      exact begin_none x r hx w0 w b g ho h hk
    · rw [hk, if_neg (by decide), show leastD 1 = 10 from rfl, show mostD 1 = 10 from rfl]
      by_cases hn : r.length + 1 < 10 ∨ 10 < r.length + 1
      · rw [if_pos hn]
        rcases hn with hn | hn
        · exact begin_few1 x r hx w0 w b g ho h hk (by omega)
        · exact begin_many1 x r hx w0 w b g ho h hk (by omega)
      · rw [if_neg hn]
        exact begin_ok1 x r hx w0 w b g ho h hk (by omega) (by omega)
    · rw [hk, if_neg (by decide), show leastD 2 = 5 from rfl, show mostD 2 = 9 from rfl]
      by_cases hn : r.length + 1 < 5 ∨ 9 < r.length + 1
      · rw [if_pos hn]
        rcases hn with hn | hn
        · exact begin_few2 x r hx w0 w b g ho h hk (by omega)
        · exact begin_many2 x r hx w0 w b g ho h hk (by omega)
      · rw [if_neg hn]
        exact begin_ok2 x r hx w0 w b g ho h hk (by omega) (by omega)
    · rw [hk, if_neg (by decide), show leastD 3 = 3 from rfl, show mostD 3 = 7 from rfl]
      by_cases hn : r.length + 1 < 3 ∨ 7 < r.length + 1
      · rw [if_pos hn]
        rcases hn with hn | hn
        · exact begin_few3 x r hx w0 w b g ho h hk (by omega)
        · exact begin_many3 x r hx w0 w b g ho h hk (by omega)
      · rw [if_neg hn]
        exact begin_ok3 x r hx w0 w b g ho h hk (by omega) (by omega)
    · rw [hk, if_neg (by decide), show leastD 4 = 3 from rfl, show mostD 4 = 3 from rfl]
      by_cases hn : r.length + 1 < 3 ∨ 3 < r.length + 1
      · rw [if_pos hn]
        rcases hn with hn | hn
        · exact begin_few4 x r hx w0 w b g ho h hk (by omega)
        · exact begin_many4 x r hx w0 w b g ho h hk (by omega)
      · rw [if_neg hn]
        exact begin_ok4 x r hx w0 w b g ho h hk (by omega) (by omega)
end Go.Proofs.YtodcnbejnchmhaaGreatDoor
namespace Go.Proofs.YtodcnbejnchmhaaGreatDoor
open Go.RowKit Go.Mem Go.Lin

theorem begin_facts {fs : List FPair} {k : Nat} (h : beginP fs = .ok k) : (k = 1 ∧ fs.length = 10) ∨ (k = 2 ∧ 5 ≤ fs.length ∧ fs.length ≤ 9) ∨ (k = 3 ∧ 3 ≤ fs.length ∧ fs.length ≤ 7) ∨ (k = 4 ∧ fs.length = 3) := by
  unfold beginP at h
  rcases kind_cases (gt (fs.map (·.1)) 0) with hk | hk | hk | hk | hk
  · rw [hk, if_pos rfl] at h
    cases h
  all_goals
    rw [hk, if_neg (by decide)] at h
    split at h
    · cases h
    · rename_i hn
      simp only [leastD, mostD, Nat.reduceEqDiff, if_false, if_true] at hn
      injection h with h
      omega
theorem res_line {w : World} {q : Nat} {v : LineL} (hb : Blk w q 71 (lineC v)) (tmps : Array Value) (hp : tmps.getD 2 undef = .pointer (some ⟨q, 0, none⟩)) : (results Tryz.f108 tmps).run Tryz.prog w = .ok (.agg (lineC v)) w :=
  results_cell_row (P := Tryz.prog) (fn := Tryz.f108) (p := 2) (ty := 71) rfl tmps _ q 71 (lineC v) (0, 0) _ hp hb Tryz.underlying71 rfl (infoL v)
/-- what line answers -/
def LPost (fs : List FPair) (b : Nat) (r : Except Er LineL) (w : World) (e : Ending) (w' : World) : Prop := match r with
  | .ok l => e = .returned (.agg (lineC l)) ∧ Fr w w' (· = b)
  | .error x => e = Raised (wrongL x.2 (colOf fs x.1)) ∧ Fr w w' (· = b)
set_option maxRecDepth 100000 in
set_option maxHeartbeats 1600000 in
theorem line_err (fs : List FPair) (hz : ∀ x ∈ fs, x.1.length ≤ 100000) (hl : 1 ≤ fs.length) (w0 w : World) (b g : Nat) (ho : Ok w0 w b g) (h : LeftAt w b g fs) (x : Er) (hk : beginP fs = .error x) :
    Calls Tryz.prog 108 #[.pointer (some ⟨b, 0, none⟩)] w (LPost fs b (.error x) w) := by
  have hbs := h.lt
  have hgs : g < w.heap.size := by
    have h2 := h
    obtain ⟨x, r, rfl⟩ : ∃ x r, fs = x :: r := by
      cases fs with
      | nil => simp at hl
      | cons x r => exact ⟨x, r, rfl⟩
    obtain ⟨_, _, _, _, cg, _, _⟩ := h2.open
    exact World.block_lt_of_cell? w _ cg
  have hf1 := Fr.new w (.cells #[intV 0, .string ⟨#[]⟩, intV 0, intV 0, intV 0, intV 0, intV 0, intV 0, intV 0, intV 0, intV 0, .string ⟨#[]⟩, .string ⟨#[]⟩, .string ⟨#[]⟩, intV 0, intV 0, intV 0, .string ⟨#[]⟩, .string ⟨#[]⟩, .bool false, intV 0, intV 0, intV 0, intV 0, intV 0, intV 0, intV 0, intV 0, intV 0] 71) (fun _ => False)
  have HZ := Lib.hid (show Blk _ w.heap.size 71 (lineC lineZ) from Blk.made w 71 #[intV 0, .string ⟨#[]⟩, intV 0, intV 0, intV 0, intV 0, intV 0, intV 0, intV 0, intV 0, intV 0, .string ⟨#[]⟩, .string ⟨#[]⟩, .string ⟨#[]⟩, intV 0, intV 0, intV 0, .string ⟨#[]⟩, .string ⟨#[]⟩, .bool false, intV 0, intV 0, intV 0, intV 0, intV 0, intV 0, intV 0, intV 0, intV 0])
  have HL := Lib.hid (h.fr hf1 (fun h => h) (fun h => h))
  have HF := Lib.hid (fr_b (b := b) hf1)
  have HO := Lib.hid (ho.on HF.out)
  have HG := Lib.hid (gt_len hz)
  have HN := Lib.hid hz
  have HB := Lib.hid (begin_any fs hz (fun e => by rw [e] at hl; simp at hl) w0 _ b g HO.out HL.out)
  rw [hk] at HB
  clear hf1 h ho hz hk
  go_enter Tryz.func108, Tryz.ntmps108
  go_wp2_with fail
  refine HB.out.mono ?_
  rintro e wn ⟨rfl, hfn⟩
  have HFn := Lib.hid hfn
  clear hfn
  go_wp2_with fail
  exact ⟨rfl, rfl, fr_bb HF.out HFn.out⟩
set_option maxRecDepth 100000 in
set_option maxHeartbeats 6400000 in
theorem line_ok1 (fs : List FPair) (hz : ∀ x ∈ fs, x.1.length ≤ 100000) (hl : fs.length = 10) (w0 w : World) (b g : Nat) (ho : Ok w0 w b g) (h : LeftAt w b g fs) (hk : beginP fs = .ok 1) :
    Calls Tryz.prog 108 #[.pointer (some ⟨b, 0, none⟩)] w (LPost fs b (bodyP 1 (fs.map (·.1))) w) := by
  have hbs := h.lt
  have hgs : g < w.heap.size := by
    have h2 := h
    obtain ⟨x, r, rfl⟩ : ∃ x r, fs = x :: r := by
      cases fs with
      | nil => simp at hl
      | cons x r => exact ⟨x, r, rfl⟩
    obtain ⟨_, _, _, _, cg, _, _⟩ := h2.open
    exact World.block_lt_of_cell? w _ cg
  have hf1 := Fr.new w (.cells #[intV 0, .string ⟨#[]⟩, intV 0, intV 0, intV 0, intV 0, intV 0, intV 0, intV 0, intV 0, intV 0, .string ⟨#[]⟩, .string ⟨#[]⟩, .string ⟨#[]⟩, intV 0, intV 0, intV 0, .string ⟨#[]⟩, .string ⟨#[]⟩, .bool false, intV 0, intV 0, intV 0, intV 0, intV 0, intV 0, intV 0, intV 0, intV 0] 71) (fun _ => False)
  have HZ := Lib.hid (show Blk _ w.heap.size 71 (lineC lineZ) from Blk.made w 71 #[intV 0, .string ⟨#[]⟩, intV 0, intV 0, intV 0, intV 0, intV 0, intV 0, intV 0, intV 0, intV 0, .string ⟨#[]⟩, .string ⟨#[]⟩, .string ⟨#[]⟩, intV 0, intV 0, intV 0, .string ⟨#[]⟩, .string ⟨#[]⟩, .bool false, intV 0, intV 0, intV 0, intV 0, intV 0, intV 0, intV 0, intV 0, intV 0])
  have HL := Lib.hid (h.fr hf1 (fun h => h) (fun h => h))
  have HF := Lib.hid (fr_b (b := b) hf1)
  have HO := Lib.hid (ho.on HF.out)
  have HG := Lib.hid (gt_len hz)
  have HN := Lib.hid hz
  have HB := Lib.hid (begin_any fs hz (fun e => by rw [e] at hl; simp at hl) w0 _ b g HO.out HL.out)
  rw [hk] at HB
  obtain ⟨R, hR⟩ : ∃ R, bodyP 1 (fs.map (·.1)) = R := ⟨_, rfl⟩
  rw [hR]
  unfold bodyP at hR
  simp only [Nat.reduceEqDiff, if_false, if_true] at hR
  have HR := Lib.hid hR
  clear hf1 h ho hz hk hR
  go_enter Tryz.func108, Tryz.ntmps108
  go_wp2_with fail
  refine HB.out.mono ?_
  rintro e w2 ⟨rfl, hl2, hf2⟩
  have hs2 := hf2.size
  simp at hs2
  have HL2 := Lib.hid hl2
  have HF2 := Lib.hid (fr_bb HF.out hf2)
  have HO2 := Lib.hid (HO.out.on hf2)
  have HZ2 := Lib.hid (hf2.blk HZ.out (by omega))
  clear hl2 hf2 HL HF HO HZ HB
  go_wp2_with (
      refine wpList_store_blk 71 _ _ w2.heap.size 0 71 (lineC lineZ) (lineC { lineZ with kind := 1 }) (lineC { lineZ with kind := 1 }) (by rfl) rfl rfl rfl rfl (Blk.made w2 71 (lineC lineZ)) (infoL _) (lineC_one _) (show 0 + 29 ≤ 29 by decide) (put_line _ _) ?_
      intro w3 hf3 hb3
      have hf23 := (Fr.new w2 (.cells (lineC lineZ) 71) (fun _ => False)).fresh hf3 (fun i e => by omega)
      have hs3 : w2.heap.size + 1 ≤ w3.heap.size := by have := hf3.size; simp at this; exact this
      have HX3 := Lib.hid hb3
      have x0 := blk_cell hb3 0 (intV 1) rfl
      have HZ3 := Lib.hid (hf23.blk HZ2.out (fun h => h))
      have HL3 := Lib.hid (HL2.out.fr hf23 (fun h => h) (fun h => h))
      have HF3 := Lib.hid (fr_bb HF2.out (fr_b hf23))
      have HO3 := Lib.hid (HO2.out.on (fr_b hf23))
      clear hf3 hb3 hf23 HZ2 HL2 HF2 HO2)
  have HU := Lib.hid (rrule_any fs HN.out hl w0 w3 b g HO3.out HL3.out)
  obtain ⟨S, hS⟩ : ∃ S, ruleP (fs.map (·.1)) = S := ⟨_, rfl⟩
  have hR := HR.out
  rw [hS] at hR HU
  clear hS HR
  cases S with
  | error x =>
    have hR : Except.error x = R := hR
    subst hR
    refine HU.out.mono ?_
    rintro e wn ⟨rfl, hfn⟩
    have HFn := Lib.hid hfn
    clear hfn
    go_wp2_with fail
    exact ⟨rfl, rfl, fr_bb HF3.out HFn.out⟩
  | ok v =>
    have hR : Except.ok ({ lineZ with kind := 1, rule := v }) = R := hR
    subst hR
    refine HU.out.mono ?_
    rintro e w4c ⟨rfl, hl4, hf4⟩
    have hsc4 := hf4.size
    have HX4 := Lib.hid (hf4.blk HX3.out (by omega))
    have HZ4 := Lib.hid (hf4.blk HZ3.out (by omega))
    have HF4 := Lib.hid (fr_bb HF3.out hf4)
    clear hl4 hf4 HX3 HZ3 HF3 HL3 HU
    go_wp2_with (first
      | (
        refine wpList_store_blk 65 _ _ w2.heap.size 1 71 (lineC { lineZ with kind := 1 }) (ruleC v) (lineC { lineZ with kind := 1, rule := v }) (by rfl) rfl rfl rfl rfl HX4.out (infoR _) (ruleC_one _) (show 1 + 11 ≤ 29 by decide) (put_rule _ _) ?_
        intro w5 hf5 hb5
        have hs5 := hf5.size
        have HX5 := Lib.hid hb5
        have HZ5 := Lib.hid (hf5.blk HZ4.out (by omega))
        have HF5 := Lib.hid (fr_more HF4.out hf5 (fun i e => by omega))
        clear hf5 hb5 HX4 HZ4 HF4)
      | (refine wpList_load_blk 71 _ w2.heap.size 0 71 (lineC { lineZ with kind := 1, rule := v }) (lineC { lineZ with kind := 1, rule := v }) _ (by rfl) rfl rfl HX5.out Tryz.underlying71 rfl (infoL _) (zero_part _) ?_)
      | (
        refine wpList_store_blk 71 _ _ w.heap.size 0 71 (lineC lineZ) (lineC { lineZ with kind := 1, rule := v }) (lineC { lineZ with kind := 1, rule := v }) (by rfl) rfl rfl rfl rfl HZ5.out (infoL _) (lineC_one _) (show 0 + 29 ≤ 29 by decide) (put_line _ _) ?_
        intro w9 hf9 hb9
        have HE := Lib.hid hb9
        have HFe := Lib.hid (fr_more HF5.out hf9 (fun i e => by omega))
        clear hf9 hb9))
    (try simp only [Exit.inBlock, Exit.then])
    exact bodyPost_ret (res_line HE.out _ rfl) rfl ⟨rfl, HFe.out⟩
set_option maxRecDepth 100000 in
set_option maxHeartbeats 6400000 in
theorem line_ok3 (fs : List FPair) (hz : ∀ x ∈ fs, x.1.length ≤ 100000) (hl : 3 ≤ fs.length ∧ fs.length ≤ 7) (w0 w : World) (b g : Nat) (ho : Ok w0 w b g) (h : LeftAt w b g fs) (hk : beginP fs = .ok 3) :
    Calls Tryz.prog 108 #[.pointer (some ⟨b, 0, none⟩)] w (LPost fs b (bodyP 3 (fs.map (·.1))) w) := by
  have hbs := h.lt
  have hgs : g < w.heap.size := by
    have h2 := h
    obtain ⟨x, r, rfl⟩ : ∃ x r, fs = x :: r := by
      cases fs with
      | nil => simp at hl
      | cons x r => exact ⟨x, r, rfl⟩
    obtain ⟨_, _, _, _, cg, _, _⟩ := h2.open
    exact World.block_lt_of_cell? w _ cg
  have hf1 := Fr.new w (.cells #[intV 0, .string ⟨#[]⟩, intV 0, intV 0, intV 0, intV 0, intV 0, intV 0, intV 0, intV 0, intV 0, .string ⟨#[]⟩, .string ⟨#[]⟩, .string ⟨#[]⟩, intV 0, intV 0, intV 0, .string ⟨#[]⟩, .string ⟨#[]⟩, .bool false, intV 0, intV 0, intV 0, intV 0, intV 0, intV 0, intV 0, intV 0, intV 0] 71) (fun _ => False)
  have HZ := Lib.hid (show Blk _ w.heap.size 71 (lineC lineZ) from Blk.made w 71 #[intV 0, .string ⟨#[]⟩, intV 0, intV 0, intV 0, intV 0, intV 0, intV 0, intV 0, intV 0, intV 0, .string ⟨#[]⟩, .string ⟨#[]⟩, .string ⟨#[]⟩, intV 0, intV 0, intV 0, .string ⟨#[]⟩, .string ⟨#[]⟩, .bool false, intV 0, intV 0, intV 0, intV 0, intV 0, intV 0, intV 0, intV 0, intV 0])
  have HL := Lib.hid (h.fr hf1 (fun h => h) (fun h => h))
  have HF := Lib.hid (fr_b (b := b) hf1)
  have HO := Lib.hid (ho.on HF.out)
  have HG := Lib.hid (gt_len hz)
  have HN := Lib.hid hz
  have HB := Lib.hid (begin_any fs hz (fun e => by rw [e] at hl; simp at hl) w0 _ b g HO.out HL.out)
  rw [hk] at HB
  obtain ⟨R, hR⟩ : ∃ R, bodyP 3 (fs.map (·.1)) = R := ⟨_, rfl⟩
  rw [hR]
  unfold bodyP at hR
  simp only [Nat.reduceEqDiff, if_false, if_true] at hR
  have HR := Lib.hid hR
  clear hf1 h ho hz hk hR
  go_enter Tryz.func108, Tryz.ntmps108
  go_wp2_with fail
  refine HB.out.mono ?_
  rintro e w2 ⟨rfl, hl2, hf2⟩
  have hs2 := hf2.size
  simp at hs2
  have HL2 := Lib.hid hl2
  have HF2 := Lib.hid (fr_bb HF.out hf2)
  have HO2 := Lib.hid (HO.out.on hf2)
  have HZ2 := Lib.hid (hf2.blk HZ.out (by omega))
  clear hl2 hf2 HL HF HO HZ HB
  go_wp2_with (
      refine wpList_store_blk 71 _ _ w2.heap.size 0 71 (lineC lineZ) (lineC { lineZ with kind := 3 }) (lineC { lineZ with kind := 3 }) (by rfl) rfl rfl rfl rfl (Blk.made w2 71 (lineC lineZ)) (infoL _) (lineC_one _) (show 0 + 29 ≤ 29 by decide) (put_line _ _) ?_
      intro w3 hf3 hb3
      have hf23 := (Fr.new w2 (.cells (lineC lineZ) 71) (fun _ => False)).fresh hf3 (fun i e => by omega)
      have hs3 : w2.heap.size + 1 ≤ w3.heap.size := by have := hf3.size; simp at this; exact this
      have HX3 := Lib.hid hb3
      have x0 := blk_cell hb3 0 (intV 3) rfl
      have HZ3 := Lib.hid (hf23.blk HZ2.out (fun h => h))
      have HL3 := Lib.hid (HL2.out.fr hf23 (fun h => h) (fun h => h))
      have HF3 := Lib.hid (fr_bb HF2.out (fr_b hf23))
      have HO3 := Lib.hid (HO2.out.on (fr_b hf23))
      clear hf3 hb3 hf23 HZ2 HL2 HF2 HO2)
  have HU := Lib.hid (rera_any fs HN.out 0 (by omega) (by omega) w0 w3 b g HO3.out HL3.out)
  obtain ⟨S, hS⟩ : ∃ S, eraP (fs.map (·.1)) 0 = S := ⟨_, rfl⟩
  have hR := HR.out
  rw [hS] at hR HU
  clear hS HR
  cases S with
  | error x =>
    have hR : Except.error x = R := hR
    subst hR
    refine HU.out.mono ?_
    rintro e wn ⟨rfl, hfn⟩
    have HFn := Lib.hid hfn
    clear hfn
    go_wp2_with fail
    exact ⟨rfl, rfl, fr_bb HF3.out HFn.out⟩
  | ok v =>
    have hR : Except.ok ({ lineZ with kind := 3, era := v }) = R := hR
    subst hR
    refine HU.out.mono ?_
    rintro e w4c ⟨rfl, hl4, hf4⟩
    have hsc4 := hf4.size
    have HX4 := Lib.hid (hf4.blk HX3.out (by omega))
    have HZ4 := Lib.hid (hf4.blk HZ3.out (by omega))
    have HF4 := Lib.hid (fr_bb HF3.out hf4)
    clear hl4 hf4 HX3 HZ3 HF3 HL3 HU
    go_wp2_with (first
      | (
        refine wpList_store_blk 69 _ _ w2.heap.size 14 71 (lineC { lineZ with kind := 3 }) (eraC v) (lineC { lineZ with kind := 3, era := v }) (by rfl) rfl rfl rfl rfl HX4.out (infoE _) (eraC_one _) (show 14 + 13 ≤ 29 by decide) (put_era _ _) ?_
        intro w5 hf5 hb5
        have hs5 := hf5.size
        have HX5 := Lib.hid hb5
        have HZ5 := Lib.hid (hf5.blk HZ4.out (by omega))
        have HF5 := Lib.hid (fr_more HF4.out hf5 (fun i e => by omega))
        clear hf5 hb5 HX4 HZ4 HF4)
      | (refine wpList_load_blk 71 _ w2.heap.size 0 71 (lineC { lineZ with kind := 3, era := v }) (lineC { lineZ with kind := 3, era := v }) _ (by rfl) rfl rfl HX5.out Tryz.underlying71 rfl (infoL _) (zero_part _) ?_)
      | (
        refine wpList_store_blk 71 _ _ w.heap.size 0 71 (lineC lineZ) (lineC { lineZ with kind := 3, era := v }) (lineC { lineZ with kind := 3, era := v }) (by rfl) rfl rfl rfl rfl HZ5.out (infoL _) (lineC_one _) (show 0 + 29 ≤ 29 by decide) (put_line _ _) ?_
        intro w9 hf9 hb9
        have HE := Lib.hid hb9
        have HFe := Lib.hid (fr_more HF5.out hf9 (fun i e => by omega))
        clear hf9 hb9))
    (try simp only [Exit.inBlock, Exit.then])
    exact bodyPost_ret (res_line HE.out _ rfl) rfl ⟨rfl, HFe.out⟩
set_option maxRecDepth 100000 in
set_option maxHeartbeats 6400000 in
theorem line_ok2 (fs : List FPair) (hz : ∀ x ∈ fs, x.1.length ≤ 100000) (hl : 5 ≤ fs.length ∧ fs.length ≤ 9) (w0 w : World) (b g : Nat) (ho : Ok w0 w b g) (h : LeftAt w b g fs) (hk : beginP fs = .ok 2) :
    Calls Tryz.prog 108 #[.pointer (some ⟨b, 0, none⟩)] w (LPost fs b (bodyP 2 (fs.map (·.1))) w) := by
  have hbs := h.lt
  have hgs : g < w.heap.size := by
    have h2 := h
    obtain ⟨x, r, rfl⟩ : ∃ x r, fs = x :: r := by
      cases fs with
      | nil => simp at hl
      | cons x r => exact ⟨x, r, rfl⟩
    obtain ⟨_, _, _, _, cg, _, _⟩ := h2.open
    exact World.block_lt_of_cell? w _ cg
  have hf1 := Fr.new w (.cells #[intV 0, .string ⟨#[]⟩, intV 0, intV 0, intV 0, intV 0, intV 0, intV 0, intV 0, intV 0, intV 0, .string ⟨#[]⟩, .string ⟨#[]⟩, .string ⟨#[]⟩, intV 0, intV 0, intV 0, .string ⟨#[]⟩, .string ⟨#[]⟩, .bool false, intV 0, intV 0, intV 0, intV 0, intV 0, intV 0, intV 0, intV 0, intV 0] 71) (fun _ => False)
  have HZ := Lib.hid (show Blk _ w.heap.size 71 (lineC lineZ) from Blk.made w 71 #[intV 0, .string ⟨#[]⟩, intV 0, intV 0, intV 0, intV 0, intV 0, intV 0, intV 0, intV 0, intV 0, .string ⟨#[]⟩, .string ⟨#[]⟩, .string ⟨#[]⟩, intV 0, intV 0, intV 0, .string ⟨#[]⟩, .string ⟨#[]⟩, .bool false, intV 0, intV 0, intV 0, intV 0, intV 0, intV 0, intV 0, intV 0, intV 0])
  have HL := Lib.hid (h.fr hf1 (fun h => h) (fun h => h))
  have HF := Lib.hid (fr_b (b := b) hf1)
  have HO := Lib.hid (ho.on HF.out)
  have HG := Lib.hid (gt_len hz)
  have HN := Lib.hid hz
  have HB := Lib.hid (begin_any fs hz (fun e => by rw [e] at hl; simp at hl) w0 _ b g HO.out HL.out)
  rw [hk] at HB
  obtain ⟨R, hR⟩ : ∃ R, bodyP 2 (fs.map (·.1)) = R := ⟨_, rfl⟩
  rw [hR]
  unfold bodyP at hR
  simp only [Nat.reduceEqDiff, if_false, if_true] at hR
  have HR := Lib.hid hR
  clear hf1 h ho hz hk hR
  go_enter Tryz.func108, Tryz.ntmps108
  go_wp2_with fail
  refine HB.out.mono ?_
  rintro e w2 ⟨rfl, hl2, hf2⟩
  have hs2 := hf2.size
  simp at hs2
  have HL2 := Lib.hid hl2
  have HF2 := Lib.hid (fr_bb HF.out hf2)
  have HO2 := Lib.hid (HO.out.on hf2)
  have HZ2 := Lib.hid (hf2.blk HZ.out (by omega))
  clear hl2 hf2 HL HF HO HZ HB
  go_wp2_with (
      refine wpList_store_blk 71 _ _ w2.heap.size 0 71 (lineC lineZ) (lineC { lineZ with kind := 2 }) (lineC { lineZ with kind := 2 }) (by rfl) rfl rfl rfl rfl (Blk.made w2 71 (lineC lineZ)) (infoL _) (lineC_one _) (show 0 + 29 ≤ 29 by decide) (put_line _ _) ?_
      intro w3 hf3 hb3
      have hf23 := (Fr.new w2 (.cells (lineC lineZ) 71) (fun _ => False)).fresh hf3 (fun i e => by omega)
      have hs3 : w2.heap.size + 1 ≤ w3.heap.size := by have := hf3.size; simp at this; exact this
      have HX3 := Lib.hid hb3
      have x0 := blk_cell hb3 0 (intV 2) rfl
      have HZ3 := Lib.hid (hf23.blk HZ2.out (fun h => h))
      have HL3 := Lib.hid (HL2.out.fr hf23 (fun h => h) (fun h => h))
      have HF3 := Lib.hid (fr_bb HF2.out (fr_b hf23))
      have HO3 := Lib.hid (HO2.out.on (fr_b hf23))
      clear hf3 hb3 hf23 HZ2 HL2 HF2 HO2)
  cases hp : Go.Kwd.zoneD (gt (fs.map (·.1)) 1)
  · have hR := HR.out
    rw [hp] at hR
    simp only [chk_false, bind_err] at hR
    subst hR
    refine (takeS_err 143 (fun a W => Tryz.call143 a W) #[] #[strV (gt (fs.map (·.1)) 1)] _ b g fs 1 (by omega) HL3.out rfl (gt (fs.map (·.1)) 1) 5 (by decide) (by intro W f; with_reducible exact zoneName_any _ (HG.out 1) W (HO3.out.at_ f) 5 (by simp [hp]))).mono ?_
    rintro e wn ⟨rfl, hfn⟩
    have HFn := Lib.hid hfn
    clear hfn
    go_wp2_with fail
    exact ⟨rfl, rfl, fr_bb HF3.out (fr_b HFn.out)⟩
  have hR := HR.out
  rw [hp] at hR
  simp only [chk_true, bind_ok] at hR
  have HR := Lib.hid hR
  clear hR
  refine (takeS_at 143 (fun a W => Tryz.call143 a W) #[] #[strV (gt (fs.map (·.1)) 1)] _ b g fs 1 (by omega) HL3.out rfl HO3.out.hg (gt (fs.map (·.1)) 1) (by intro W f; with_reducible exact zoneName_any _ (HG.out 1) W (HO3.out.at_ f) 0 (by simp [hp]))).mono ?_
  rintro e w4c ⟨rfl, hl4, hf4⟩
  have hsc4 := hf4.size
  have HL4 := Lib.hid hl4
  have HX4 := Lib.hid (hf4.blk HX3.out (by omega))
  have HZ4 := Lib.hid (hf4.blk HZ3.out (by omega))
  have HF4 := Lib.hid (fr_bb HF3.out hf4)
  have HO4 := Lib.hid (HO3.out.on hf4)
  clear hl4 hf4 HX3 HZ3 HF3 HL3 HO3 hp
  go_wp2_with (first
    | (
      refine wpList_store_cell 9 _ _ w2.heap.size 12 71 (lineC { lineZ with kind := 2 }) (lineC { lineZ with kind := 2, name := (gt (fs.map (·.1)) 1) }) (strV (gt (fs.map (·.1)) 1)) (by rfl) rfl rfl rfl rfl HX4.out info_str (by rfl) (show 12 < 29 by decide) (put_l2 _ _) ?_
      intro w5 hf5 hb5
      have hs5 := hf5.size
      have HX5 := Lib.hid hb5
      have HZ5 := Lib.hid (hf5.blk HZ4.out (by omega))
      have HF5 := Lib.hid (fr_more HF4.out hf5 (fun i e => by omega))
      have HL5 := Lib.hid (HL4.out.fr hf5 (by omega) (by omega))
      have HO5 := Lib.hid (show Ok w0 w5 b g from ⟨HO4.out.lok, HO4.out.fr.fresh hf5 (fun i e => by have := HO4.out.hb; omega), HO4.out.hb, HO4.out.hg⟩)
      clear hf5 hb5 HX4 HZ4 HF4 HL4 HO4))
  have HU := Lib.hid (rera_any fs HN.out 2 (by omega) (by omega) w0 w5 b g HO5.out HL5.out)
  obtain ⟨S, hS⟩ : ∃ S, eraP (fs.map (·.1)) 2 = S := ⟨_, rfl⟩
  have hR := HR.out
  rw [hS] at hR HU
  clear hS HR
  cases S with
  | error x =>
    have hR : Except.error x = R := hR
    subst hR
    refine HU.out.mono ?_
    rintro e wn ⟨rfl, hfn⟩
    have HFn := Lib.hid hfn
    clear hfn
    go_wp2_with fail
    exact ⟨rfl, rfl, fr_bb HF5.out HFn.out⟩
  | ok v =>
    have hR : Except.ok ({ lineZ with kind := 2, name := (gt (fs.map (·.1)) 1), era := v }) = R := hR
    subst hR
    refine HU.out.mono ?_
    rintro e w6c ⟨rfl, hl6, hf6⟩
    have hsc6 := hf6.size
    have HX6 := Lib.hid (hf6.blk HX5.out (by omega))
    have HZ6 := Lib.hid (hf6.blk HZ5.out (by omega))
    have HF6 := Lib.hid (fr_bb HF5.out hf6)
    clear hl6 hf6 HX5 HZ5 HF5 HL5 HU
    go_wp2_with (first
      | (
        refine wpList_store_blk 69 _ _ w2.heap.size 14 71 (lineC { lineZ with kind := 2, name := (gt (fs.map (·.1)) 1) }) (eraC v) (lineC { lineZ with kind := 2, name := (gt (fs.map (·.1)) 1), era := v }) (by rfl) rfl rfl rfl rfl HX6.out (infoE _) (eraC_one _) (show 14 + 13 ≤ 29 by decide) (put_era _ _) ?_
        intro w7 hf7 hb7
        have hs7 := hf7.size
        have HX7 := Lib.hid hb7
        have HZ7 := Lib.hid (hf7.blk HZ6.out (by omega))
        have HF7 := Lib.hid (fr_more HF6.out hf7 (fun i e => by omega))
        clear hf7 hb7 HX6 HZ6 HF6)
      | (refine wpList_load_blk 71 _ w2.heap.size 0 71 (lineC { lineZ with kind := 2, name := (gt (fs.map (·.1)) 1), era := v }) (lineC { lineZ with kind := 2, name := (gt (fs.map (·.1)) 1), era := v }) _ (by rfl) rfl rfl HX7.out Tryz.underlying71 rfl (infoL _) (zero_part _) ?_)
      | (
        refine wpList_store_blk 71 _ _ w.heap.size 0 71 (lineC lineZ) (lineC { lineZ with kind := 2, name := (gt (fs.map (·.1)) 1), era := v }) (lineC { lineZ with kind := 2, name := (gt (fs.map (·.1)) 1), era := v }) (by rfl) rfl rfl rfl rfl HZ7.out (infoL _) (lineC_one _) (show 0 + 29 ≤ 29 by decide) (put_line _ _) ?_
        intro w9 hf9 hb9
        have HE := Lib.hid hb9
        have HFe := Lib.hid (fr_more HF7.out hf9 (fun i e => by omega))
        clear hf9 hb9))
    (try simp only [Exit.inBlock, Exit.then])
    exact bodyPost_ret (res_line HE.out _ rfl) rfl ⟨rfl, HFe.out⟩
set_option maxRecDepth 100000 in
set_option maxHeartbeats 6400000 in
theorem line_ok4 (fs : List FPair) (hz : ∀ x ∈ fs, x.1.length ≤ 100000) (hl : fs.length = 3) (w0 w : World) (b g : Nat) (ho : Ok w0 w b g) (h : LeftAt w b g fs) (hk : beginP fs = .ok 4) :
    Calls Tryz.prog 108 #[.pointer (some ⟨b, 0, none⟩)] w (LPost fs b (bodyP 4 (fs.map (·.1))) w) := by
  have hbs := h.lt
  have hgs : g < w.heap.size := by
    have h2 := h
    obtain ⟨x, r, rfl⟩ : ∃ x r, fs = x :: r := by
      cases fs with
      | nil => simp at hl
      | cons x r => exact ⟨x, r, rfl⟩
    obtain ⟨_, _, _, _, cg, _, _⟩ := h2.open
    exact World.block_lt_of_cell? w _ cg
  have hf1 := Fr.new w (.cells #[intV 0, .string ⟨#[]⟩, intV 0, intV 0, intV 0, intV 0, intV 0, intV 0, intV 0, intV 0, intV 0, .string ⟨#[]⟩, .string ⟨#[]⟩, .string ⟨#[]⟩, intV 0, intV 0, intV 0, .string ⟨#[]⟩, .string ⟨#[]⟩, .bool false, intV 0, intV 0, intV 0, intV 0, intV 0, intV 0, intV 0, intV 0, intV 0] 71) (fun _ => False)
  have HZ := Lib.hid (show Blk _ w.heap.size 71 (lineC lineZ) from Blk.made w 71 #[intV 0, .string ⟨#[]⟩, intV 0, intV 0, intV 0, intV 0, intV 0, intV 0, intV 0, intV 0, intV 0, .string ⟨#[]⟩, .string ⟨#[]⟩, .string ⟨#[]⟩, intV 0, intV 0, intV 0, .string ⟨#[]⟩, .string ⟨#[]⟩, .bool false, intV 0, intV 0, intV 0, intV 0, intV 0, intV 0, intV 0, intV 0, intV 0])
  have HL := Lib.hid (h.fr hf1 (fun h => h) (fun h => h))
  have HF := Lib.hid (fr_b (b := b) hf1)
  have HO := Lib.hid (ho.on HF.out)
  have HG := Lib.hid (gt_len hz)
  have HN := Lib.hid hz
  have HB := Lib.hid (begin_any fs hz (fun e => by rw [e] at hl; simp at hl) w0 _ b g HO.out HL.out)
  rw [hk] at HB
  obtain ⟨R, hR⟩ : ∃ R, bodyP 4 (fs.map (·.1)) = R := ⟨_, rfl⟩
  rw [hR]
  unfold bodyP at hR
  simp only [Nat.reduceEqDiff, if_false] at hR
  have HR := Lib.hid hR
  clear hf1 h ho hz hk hR
  go_enter Tryz.func108, Tryz.ntmps108
  go_wp2_with fail
  refine HB.out.mono ?_
  rintro e w2 ⟨rfl, hl2, hf2⟩
  have hs2 := hf2.size
  simp at hs2
  have HL2 := Lib.hid hl2
  have HF2 := Lib.hid (fr_bb HF.out hf2)
  have HO2 := Lib.hid (HO.out.on hf2)
  have HZ2 := Lib.hid (hf2.blk HZ.out (by omega))
  clear hl2 hf2 HL HF HO HZ HB
  go_wp2_with (
      refine wpList_store_blk 71 _ _ w2.heap.size 0 71 (lineC lineZ) (lineC { lineZ with kind := 4 }) (lineC { lineZ with kind := 4 }) (by rfl) rfl rfl rfl rfl (Blk.made w2 71 (lineC lineZ)) (infoL _) (lineC_one _) (show 0 + 29 ≤ 29 by decide) (put_line _ _) ?_
      intro w3 hf3 hb3
      have hf23 := (Fr.new w2 (.cells (lineC lineZ) 71) (fun _ => False)).fresh hf3 (fun i e => by omega)
      have hs3 : w2.heap.size + 1 ≤ w3.heap.size := by have := hf3.size; simp at this; exact this
      have HX3 := Lib.hid hb3
      have x0 := blk_cell hb3 0 (intV 4) rfl
      have HZ3 := Lib.hid (hf23.blk HZ2.out (fun h => h))
      have HL3 := Lib.hid (HL2.out.fr hf23 (fun h => h) (fun h => h))
      have HF3 := Lib.hid (fr_bb HF2.out (fr_b hf23))
      have HO3 := Lib.hid (HO2.out.on (fr_b hf23))
      clear hf3 hb3 hf23 HZ2 HL2 HF2 HO2)
  cases hp : Go.Kwd.zoneD (gt (fs.map (·.1)) 1)
  · have hR := HR.out
    rw [hp] at hR
    simp only [chk_false, bind_err] at hR
    subst hR
    refine (takeS_err 143 (fun a W => Tryz.call143 a W) #[] #[strV (gt (fs.map (·.1)) 1)] _ b g fs 1 (by omega) HL3.out rfl (gt (fs.map (·.1)) 1) 5 (by decide) (by intro W f; with_reducible exact zoneName_any _ (HG.out 1) W (HO3.out.at_ f) 5 (by simp [hp]))).mono ?_
    rintro e wn ⟨rfl, hfn⟩
    have HFn := Lib.hid hfn
    clear hfn
    go_wp2_with fail
    exact ⟨rfl, rfl, fr_bb HF3.out (fr_b HFn.out)⟩
  have hR := HR.out
  rw [hp] at hR
  simp only [chk_true, bind_ok] at hR
  have HR := Lib.hid hR
  clear hR
  refine (takeS_at 143 (fun a W => Tryz.call143 a W) #[] #[strV (gt (fs.map (·.1)) 1)] _ b g fs 1 (by omega) HL3.out rfl HO3.out.hg (gt (fs.map (·.1)) 1) (by intro W f; with_reducible exact zoneName_any _ (HG.out 1) W (HO3.out.at_ f) 0 (by simp [hp]))).mono ?_
  rintro e w4c ⟨rfl, hl4, hf4⟩
  have hsc4 := hf4.size
  have HL4 := Lib.hid hl4
  have HX4 := Lib.hid (hf4.blk HX3.out (by omega))
  have HZ4 := Lib.hid (hf4.blk HZ3.out (by omega))
  have HF4 := Lib.hid (fr_bb HF3.out hf4)
  have HO4 := Lib.hid (HO3.out.on hf4)
  clear hl4 hf4 HX3 HZ3 HF3 HL3 HO3 hp
  go_wp2_with (first
    | (
      refine wpList_store_cell 9 _ _ w2.heap.size 13 71 (lineC { lineZ with kind := 4 }) (lineC { lineZ with kind := 4, target := (gt (fs.map (·.1)) 1) }) (strV (gt (fs.map (·.1)) 1)) (by rfl) rfl rfl rfl rfl HX4.out info_str (by rfl) (show 13 < 29 by decide) (put_l3 _ _) ?_
      intro w5 hf5 hb5
      have hs5 := hf5.size
      have HX5 := Lib.hid hb5
      have HZ5 := Lib.hid (hf5.blk HZ4.out (by omega))
      have HF5 := Lib.hid (fr_more HF4.out hf5 (fun i e => by omega))
      have HL5 := Lib.hid (HL4.out.fr hf5 (by omega) (by omega))
      have HO5 := Lib.hid (show Ok w0 w5 b g from ⟨HO4.out.lok, HO4.out.fr.fresh hf5 (fun i e => by have := HO4.out.hb; omega), HO4.out.hb, HO4.out.hg⟩)
      clear hf5 hb5 HX4 HZ4 HF4 HL4 HO4))
  cases hp : Go.Kwd.zoneD (gt (fs.map (·.1)) 2)
  · have hR := HR.out
    rw [hp] at hR
    simp only [chk_false, bind_err] at hR
    subst hR
    refine (takeS_err 143 (fun a W => Tryz.call143 a W) #[] #[strV (gt (fs.map (·.1)) 2)] _ b g fs 2 (by omega) HL5.out rfl (gt (fs.map (·.1)) 2) 5 (by decide) (by intro W f; with_reducible exact zoneName_any _ (HG.out 2) W (HO5.out.at_ f) 5 (by simp [hp]))).mono ?_
    rintro e wn ⟨rfl, hfn⟩
    have HFn := Lib.hid hfn
    clear hfn
    go_wp2_with fail
    exact ⟨rfl, rfl, fr_bb HF5.out (fr_b HFn.out)⟩
  have hR := HR.out
  rw [hp] at hR
  simp only [chk_true, bind_ok] at hR
  have HR := Lib.hid hR
  clear hR
  refine (takeS_at 143 (fun a W => Tryz.call143 a W) #[] #[strV (gt (fs.map (·.1)) 2)] _ b g fs 2 (by omega) HL5.out rfl HO5.out.hg (gt (fs.map (·.1)) 2) (by intro W f; with_reducible exact zoneName_any _ (HG.out 2) W (HO5.out.at_ f) 0 (by simp [hp]))).mono ?_
  rintro e w6c ⟨rfl, hl6, hf6⟩
  have hsc6 := hf6.size
  have HL6 := Lib.hid hl6
  have HX6 := Lib.hid (hf6.blk HX5.out (by omega))
  have HZ6 := Lib.hid (hf6.blk HZ5.out (by omega))
  have HF6 := Lib.hid (fr_bb HF5.out hf6)
  have HO6 := Lib.hid (HO5.out.on hf6)
  clear hl6 hf6 HX5 HZ5 HF5 HL5 HO5 hp
  have hR := HR.out
  subst hR
  go_wp2_with (first
    | (
      refine wpList_store_cell 9 _ _ w2.heap.size 12 71 (lineC { lineZ with kind := 4, target := (gt (fs.map (·.1)) 1) }) (lineC { lineZ with kind := 4, target := (gt (fs.map (·.1)) 1), name := (gt (fs.map (·.1)) 2) }) (strV (gt (fs.map (·.1)) 2)) (by rfl) rfl rfl rfl rfl HX6.out info_str (by rfl) (show 12 < 29 by decide) (put_l2 _ _) ?_
      intro w7 hf7 hb7
      have hs7 := hf7.size
      have HX7 := Lib.hid hb7
      have HZ7 := Lib.hid (hf7.blk HZ6.out (by omega))
      have HF7 := Lib.hid (fr_more HF6.out hf7 (fun i e => by omega))
      clear hf7 hb7 HX6 HZ6 HF6)
    | (refine wpList_load_blk 71 _ w2.heap.size 0 71 (lineC { lineZ with kind := 4, target := (gt (fs.map (·.1)) 1), name := (gt (fs.map (·.1)) 2) }) (lineC { lineZ with kind := 4, target := (gt (fs.map (·.1)) 1), name := (gt (fs.map (·.1)) 2) }) _ (by rfl) rfl rfl HX7.out Tryz.underlying71 rfl (infoL _) (zero_part _) ?_)
    | (
      refine wpList_store_blk 71 _ _ w.heap.size 0 71 (lineC lineZ) (lineC { lineZ with kind := 4, target := (gt (fs.map (·.1)) 1), name := (gt (fs.map (·.1)) 2) }) (lineC { lineZ with kind := 4, target := (gt (fs.map (·.1)) 1), name := (gt (fs.map (·.1)) 2) }) (by rfl) rfl rfl rfl rfl HZ7.out (infoL _) (lineC_one _) (show 0 + 29 ≤ 29 by decide) (put_line _ _) ?_
      intro w9 hf9 hb9
      have HE := Lib.hid hb9
      have HFe := Lib.hid (fr_more HF7.out hf9 (fun i e => by omega))
      clear hf9 hb9))
  (try simp only [Exit.inBlock, Exit.then])
  exact bodyPost_ret (res_line HE.out _ rfl) rfl ⟨rfl, HFe.out⟩
theorem rline_any (fs : List FPair) (hz : ∀ x ∈ fs, x.1.length ≤ 100000) (hne : fs ≠ []) (w0 w : World) (b g : Nat) (ho : Ok w0 w b g) (h : LeftAt w b g fs) :
    Calls Tryz.prog 108 #[.pointer (some ⟨b, 0, none⟩)] w (LPost fs b (readP fs) w) := by
  have hl : 1 ≤ fs.length := by
    cases fs with
    | nil => exact absurd rfl hne
    | cons x r => simp
  unfold readP
  cases hk : beginP fs with
  | error x => exact line_err fs hz hl w0 w b g ho h x hk
  | ok k =>
    rcases begin_facts hk with ⟨rfl, h1⟩ | ⟨rfl, h1⟩ | ⟨rfl, h1⟩ | ⟨rfl, h1⟩
    · exact line_ok1 fs hz h1 w0 w b g ho h hk
    · exact line_ok2 fs hz h1 w0 w b g ho h hk
    · exact line_ok3 fs hz h1 w0 w b g ho h hk
    · exact line_ok4 fs hz h1 w0 w b g ho h hk
end Go.Proofs.YtodcnbejnchmhaaGreatDoor
