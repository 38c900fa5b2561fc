import Derived.Test.YtgcheollgnhdlaaGreatDoorEra
namespace Go.Proofs.YtgcheollgnhdlaaGreatDoor
open Go.RowKit Go.Mem Go.Lin

set_option maxHeartbeats 1600000 in
theorem kindOf_s (s : ByteArray) (hs : s.size ≤ 1000000) (w : World) (k : Nat) (hk : kindD s.data.toList = k) : Calls Tryz.prog 60 #[.string s] w fun e w' => e = .returned (intV (k : Int)) ∧ Fr w w' (fun _ => False) := by
  have hb := S8.bytes_len s
  obtain ⟨n, hn⟩ : ∃ n, Go.Kwd.headD s.data.toList = n := ⟨_, rfl⟩
  have hh := head_any s.data.toList (by omega) w n hn
  rw [show strV s.data.toList = Value.string s from (S8.strV_of s).symm] at hh
  have HH := Lib.hid hh
  unfold kindD at hk
  rw [hn] at hk
  have hcases : n = 1 ∨ n = 2 ∨ n = 3 ∨ (n ≠ 1 ∧ n ≠ 2 ∧ n ≠ 3) := by omega
  rcases hcases with rfl | rfl | rfl | ⟨g1, g2, g3⟩
  · obtain rfl : 1 = k := by simpa using hk
    clear hk hn hh hb
    go_enter Tryz.func60, Tryz.ntmps60
    go_wp2_with fail
    refine HH.out.mono ?_
    rintro e w2 ⟨rfl, hf2⟩
    have HF2 := Lib.hid hf2
    clear hf2
    go_wp2_with fail
    go_ret
    exact ⟨rfl, HF2.out⟩
  · obtain rfl : 2 = k := by simpa using hk
    clear hk hn hh hb
    go_enter Tryz.func60, Tryz.ntmps60
    go_wp2_with fail
    refine HH.out.mono ?_
    rintro e w2 ⟨rfl, hf2⟩
    have HF2 := Lib.hid hf2
    clear hf2
    go_wp2_with fail
    go_ret
    exact ⟨rfl, HF2.out⟩
  · obtain rfl : 4 = k := by simpa using hk
    clear hk hn hh hb
    go_enter Tryz.func60, Tryz.ntmps60
    go_wp2_with fail
    refine HH.out.mono ?_
    rintro e w2 ⟨rfl, hf2⟩
    have HF2 := Lib.hid hf2
    clear hf2
    go_wp2_with fail
    go_ret
    exact ⟨rfl, HF2.out⟩
  · have e1 : ((n : Int) == 1) = false := by simp; omega
    have e2 : ((n : Int) == 2) = false := by simp; omega
    have e3 : ((n : Int) == 3) = false := by simp; omega
    rw [if_neg g1, if_neg g2, if_neg g3] at hk
    by_cases h0 : s.size = 0
    · obtain ⟨he, h2⟩ := S8.emp_of h0
      rw [h2] at hk
      obtain rfl : 0 = k := by simpa [contB] using hk
      clear hk hn hh hb h2 g1 g2 g3
      go_enter Tryz.func60, Tryz.ntmps60
      go_wp2_with fail
      refine HH.out.mono ?_
      rintro e w2 ⟨rfl, hf2⟩
      have HF2 := Lib.hid hf2
      clear hf2
      go_wp2_with fail
      go_ret
      exact ⟨rfl, HF2.out⟩
    · have hpos : 0 < s.size := by omega
      have he := (S8.emp_not hpos).1
      obtain ⟨c, r, hl⟩ : ∃ c r, s.data.toList = c :: r := by
        cases hl : s.data.toList with
        | nil => exact absurd hl (S8.emp_not hpos).2
        | cons c r => exact ⟨c, r, rfl⟩
      obtain ⟨_, hc, -⟩ := S8.drop_cons (s := s) (a := 0) (by rw [List.drop_zero]; exact hl)
      obtain ⟨d, hd⟩ : ∃ d, ((s[0].toNat : Int) == 45) = d := ⟨_, rfl⟩
      obtain ⟨z, hz⟩ : ∃ z, Go.Kwd.digitB s[0] = z := ⟨_, rfl⟩
      have hk : k = if (d || z) = true then 3 else 0 := by
        rw [← hk, hl]
        show (if (c == 45 || Go.Kwd.digitB c) = true then 3 else 0) = _
        rw [← hc, S8.eq_byte]
        rw [← hz, ← hd]
        rfl
      have HD := Lib.hid (fun W => isDigit_any s[0] W)
      have HD := Lib.hid (fun W => (show Calls Tryz.prog 89 #[.int .u8 (s[0].toNat : Int)] W fun e w' => e = .returned (.bool z) ∧ W = w' by rw [← hz]; exact HD.out W))
      clear hn hh hb g1 g2 g3 hz hl hc h0
      cases d with
      | true =>
        obtain rfl : k = 3 := by simpa using hk
        clear hk
        go_enter Tryz.func60, Tryz.ntmps60
        go_wp2_with fail
        refine HH.out.mono ?_
        rintro e w2 ⟨rfl, hf2⟩
        have HF2 := Lib.hid hf2
        clear hf2
        go_wp2_with fail
        go_ret
        exact ⟨rfl, HF2.out⟩
      | false =>
        have e45 : ((s[0].toNat : Int) == 45) = false := hd
        cases z with
        | true =>
          obtain rfl : k = 3 := by simpa using hk
          clear hk
          go_enter Tryz.func60, Tryz.ntmps60
          go_wp2_with fail
          refine HH.out.mono ?_
          rintro e w2 ⟨rfl, hf2⟩
          have HF2 := Lib.hid hf2
          clear hf2
          go_wp2_with fail
          refine (HD.out _).mono ?_
          rintro e w3 ⟨rfl, rfl⟩
          go_wp2_with fail
          go_ret
          exact ⟨rfl, HF2.out⟩
        | false =>
          obtain rfl : k = 0 := by simpa using hk
          clear hk
          go_enter Tryz.func60, Tryz.ntmps60
          go_wp2_with fail
          refine HH.out.mono ?_
          rintro e w2 ⟨rfl, hf2⟩
          have HF2 := Lib.hid hf2
          clear hf2
          go_wp2_with fail
          refine (HD.out _).mono ?_
          rintro e w3 ⟨rfl, rfl⟩
          go_wp2_with fail
          go_ret
          exact ⟨rfl, HF2.out⟩
theorem kindOf_any (l : Bs) (hl : l.length ≤ 1000000) (w : World) (k : Nat) (hk : kindD l = k) : Calls Tryz.prog 60 #[strV l] w fun e w' => e = .returned (intV (k : Int)) ∧ Fr w w' (fun _ => False) := kindOf_s ⟨l.toArray⟩ (by rw [str_size]; exact hl) w k hk
/-- what begin answers -/
def BPost (fs : List FPair) (g b : Nat) (r : Except Er Nat) (w : World) (e : Ending) (w' : World) : Prop := match r with
  | .ok k => e = .returned (intV (k : Int)) ∧ LeftAt w' b g (fs.drop (if k = 3 then 0 else 1)) ∧ Fr w w' (· = b)
  | .error x => e = Raised (wrongL x.2 (colOf fs x.1)) ∧ Fr w w' (· = b)
set_option maxRecDepth 100000 in
set_option maxHeartbeats 1600000 in
theorem begin_none (x : FPair) (r : List FPair) (hz : x.1.length ≤ 100000) (w0 w : World) (b g : Nat) (ho : Ok w0 w b g) (h : LeftAt w b g (x :: r)) (hk : kindD x.1 = 0) :
    Calls Tryz.prog 44 #[.pointer (some ⟨b, 0, none⟩)] w (BPost (x :: r) g b (.error (0, 3)) w) := by
  have hbs := h.lt
  obtain ⟨off, c, hb, hc, c0, c1, hL⟩ := h.open
  have d0 := blk_cell hb 0 _ rfl
  have HL := Lib.hid h
  have HX := Lib.hid hL
  have HB := Lib.hid hb
  have HO := Lib.hid ho
  have HE := Lib.hid (Blk.made w 46 #[strV x.1, intV (x.2 : Int)])
  have HK := Lib.hid (fun W => kindOf_any x.1 (by omega) W 0 hk)
  clear hL hb h ho hk
  go_enter Tryz.func44, Tryz.ntmps44
  go_wp2_with fail
  refine (HK.out _).mono ?_
  rintro e w2 ⟨rfl, hf2⟩
  have hF2 := ff (Fr.new w _ _) hf2
  have HF2 := Lib.hid hF2
  have HB2 := Lib.hid (hF2.blk HB.out (fun h => h))
  have d2 := blk_cell HB2.out 0 _ rfl
  have e1 := blk_cell (hf2.blk HE.out (fun h => h)) 1 _ rfl
  clear hF2 hf2 HK
  go_wp2_with fail
  refine (fault_any _ _ _).mono ?_
  rintro e w3 ⟨rfl, hf3⟩
  have HF3 := Lib.hid (ff HF2.out hf3)
  clear hf3
  go_wp2_with fail
  exact ⟨rfl, rfl, fr_b HF3.out⟩
set_option maxRecDepth 100000 in
set_option maxHeartbeats 1600000 in
theorem begin_few1 (x : FPair) (r : List FPair) (hz : x.1.length ≤ 100000) (w0 w : World) (b g : Nat) (ho : Ok w0 w b g) (h : LeftAt w b g (x :: r)) (hk : kindD x.1 = 1) (hn : (r.length : Int) + 1 < 10) :
    Calls Tryz.prog 44 #[.pointer (some ⟨b, 0, none⟩)] w (BPost (x :: r) g b (.error (0, 4)) w) := by
  have hbs := h.lt
  obtain ⟨off, c, hb, hc, c0, c1, hL⟩ := h.open
  have d0 := blk_cell hb 0 _ rfl
  have HL := Lib.hid h
  have HX := Lib.hid hL
  have HB := Lib.hid hb
  have HO := Lib.hid ho
  have HE := Lib.hid (Blk.made w 46 #[strV x.1, intV (x.2 : Int)])
  have HK := Lib.hid (fun W => kindOf_any x.1 (by omega) W 1 hk)
  clear hL hb h ho hk
  go_enter Tryz.func44, Tryz.ntmps44
  go_wp2_with fail
  refine (HK.out _).mono ?_
  rintro e w2 ⟨rfl, hf2⟩
  have hF2 := ff (Fr.new w _ _) hf2
  have HF2 := Lib.hid hF2
  have HB2 := Lib.hid (hF2.blk HB.out (fun h => h))
  have d2 := blk_cell HB2.out 0 _ rfl
  have e1 := blk_cell (hf2.blk HE.out (fun h => h)) 1 _ rfl
  have k0 : w2.cell? ⟨2, 2, none⟩ = some (intV 10) := (HO.out.at_ HF2.out).counts 2 (by omega)
  have k1 : w2.cell? ⟨2, 3, none⟩ = some (intV 10) := (HO.out.at_ HF2.out).counts 3 (by omega)
  clear hF2 hf2 HK
  go_wp2_with fail
  refine (fault_any _ _ _).mono ?_
  rintro e w3 ⟨rfl, hf3⟩
  have HF3 := Lib.hid (ff HF2.out hf3)
  clear hf3
  go_wp2_with fail
  exact ⟨rfl, rfl, fr_b HF3.out⟩
set_option maxRecDepth 100000 in
set_option maxHeartbeats 1600000 in
theorem begin_many1 (x : FPair) (r : List FPair) (hz : x.1.length ≤ 100000) (w0 w : World) (b g : Nat) (ho : Ok w0 w b g) (h : LeftAt w b g (x :: r)) (hk : kindD x.1 = 1) (hn : 10 < (r.length : Int) + 1) :
    Calls Tryz.prog 44 #[.pointer (some ⟨b, 0, none⟩)] w (BPost (x :: r) g b (.error (0, 4)) w) := by
  have hbs := h.lt
  obtain ⟨off, c, hb, hc, c0, c1, hL⟩ := h.open
  have d0 := blk_cell hb 0 _ rfl
  have HL := Lib.hid h
  have HX := Lib.hid hL
  have HB := Lib.hid hb
  have HO := Lib.hid ho
  have HE := Lib.hid (Blk.made w 46 #[strV x.1, intV (x.2 : Int)])
  have HK := Lib.hid (fun W => kindOf_any x.1 (by omega) W 1 hk)
  clear hL hb h ho hk
  go_enter Tryz.func44, Tryz.ntmps44
  go_wp2_with fail
  refine (HK.out _).mono ?_
  rintro e w2 ⟨rfl, hf2⟩
  have hF2 := ff (Fr.new w _ _) hf2
  have HF2 := Lib.hid hF2
  have HB2 := Lib.hid (hF2.blk HB.out (fun h => h))
  have d2 := blk_cell HB2.out 0 _ rfl
  have e1 := blk_cell (hf2.blk HE.out (fun h => h)) 1 _ rfl
  have k0 : w2.cell? ⟨2, 2, none⟩ = some (intV 10) := (HO.out.at_ HF2.out).counts 2 (by omega)
  have k1 : w2.cell? ⟨2, 3, none⟩ = some (intV 10) := (HO.out.at_ HF2.out).counts 3 (by omega)
  have hn2 : 10 ≤ (r.length : Int) + 1 := by omega
  clear hF2 hf2 HK
  go_wp2_with fail
  refine (fault_any _ _ _).mono ?_
  rintro e w3 ⟨rfl, hf3⟩
  have HF3 := Lib.hid (ff HF2.out hf3)
  clear hf3
  go_wp2_with fail
  exact ⟨rfl, rfl, fr_b HF3.out⟩
set_option maxRecDepth 100000 in
set_option maxHeartbeats 1600000 in
theorem begin_ok1 (x : FPair) (r : List FPair) (hz : x.1.length ≤ 100000) (w0 w : World) (b g : Nat) (ho : Ok w0 w b g) (h : LeftAt w b g (x :: r)) (hk : kindD x.1 = 1) (hn1 : 10 ≤ (r.length : Int) + 1) (hn2 : (r.length : Int) + 1 ≤ 10) :
    Calls Tryz.prog 44 #[.pointer (some ⟨b, 0, none⟩)] w (BPost (x :: r) g b (.ok 1) w) := by
  have hbs := h.lt
  obtain ⟨off, c, hb, hc, c0, c1, hL⟩ := h.open
  have d0 := blk_cell hb 0 _ rfl
  have HL := Lib.hid h
  have HX := Lib.hid hL
  have HB := Lib.hid hb
  have HO := Lib.hid ho
  have HE := Lib.hid (Blk.made w 46 #[strV x.1, intV (x.2 : Int)])
  have HK := Lib.hid (fun W => kindOf_any x.1 (by omega) W 1 hk)
  clear hL hb h ho hk
  go_enter Tryz.func44, Tryz.ntmps44
  go_wp2_with fail
  refine (HK.out _).mono ?_
  rintro e w2 ⟨rfl, hf2⟩
  have hF2 := ff (Fr.new w _ _) hf2
  have HF2 := Lib.hid hF2
  have HB2 := Lib.hid (hF2.blk HB.out (fun h => h))
  have d2 := blk_cell HB2.out 0 _ rfl
  have e1 := blk_cell (hf2.blk HE.out (fun h => h)) 1 _ rfl
  have k0 : w2.cell? ⟨2, 2, none⟩ = some (intV 10) := (HO.out.at_ HF2.out).counts 2 (by omega)
  have k1 : w2.cell? ⟨2, 3, none⟩ = some (intV 10) := (HO.out.at_ HF2.out).counts 3 (by omega)
  have hbg := HO.out.hg
  have f2 := free_at HB2.out 0
  have l1 : (1 : Int) ≤ (r.length + 1 : Int) := by omega
  have l2 : (r.length + 1 : Int) ≤ (c : Int) := by omega
  clear hF2 hf2 HK
  go_wp2_with fail
  go_ret
  have hf3 := fr_put0 HF2.out b 0 (.slice (some ⟨g, off + 2, none⟩) r.length (c - 1))
  have hcut : Mem.cutA (some ⟨g, off, none⟩) c 1 2 = some ⟨g, off + 2, none⟩ := by
    unfold Mem.cutA
    rw [if_neg (by omega)]
    rfl
  rw [hcut] at HX
  exact ⟨rfl, HX.out _ _ hf3 hbg (HB2.out.put' (cs' := #[.slice (some ⟨g, off + 2, none⟩) r.length (c - 1)]) 0 _ (by simp)), hf3⟩
set_option maxRecDepth 100000 in
set_option maxHeartbeats 1600000 in
theorem begin_few2 (x : FPair) (r : List FPair) (hz : x.1.length ≤ 100000) (w0 w : World) (b g : Nat) (ho : Ok w0 w b g) (h : LeftAt w b g (x :: r)) (hk : kindD x.1 = 2) (hn : (r.length : Int) + 1 < 5) :
    Calls Tryz.prog 44 #[.pointer (some ⟨b, 0, none⟩)] w (BPost (x :: r) g b (.error (0, 4)) w) := by
  have hbs := h.lt
  obtain ⟨off, c, hb, hc, c0, c1, hL⟩ := h.open
  have d0 := blk_cell hb 0 _ rfl
  have HL := Lib.hid h
  have HX := Lib.hid hL
  have HB := Lib.hid hb
  have HO := Lib.hid ho
  have HE := Lib.hid (Blk.made w 46 #[strV x.1, intV (x.2 : Int)])
  have HK := Lib.hid (fun W => kindOf_any x.1 (by omega) W 2 hk)
  clear hL hb h ho hk
  go_enter Tryz.func44, Tryz.ntmps44
  go_wp2_with fail
  refine (HK.out _).mono ?_
  rintro e w2 ⟨rfl, hf2⟩
  have hF2 := ff (Fr.new w _ _) hf2
  have HF2 := Lib.hid hF2
  have HB2 := Lib.hid (hF2.blk HB.out (fun h => h))
  have d2 := blk_cell HB2.out 0 _ rfl
  have e1 := blk_cell (hf2.blk HE.out (fun h => h)) 1 _ rfl
  have k0 : w2.cell? ⟨2, 4, none⟩ = some (intV 5) := (HO.out.at_ HF2.out).counts 4 (by omega)
  have k1 : w2.cell? ⟨2, 5, none⟩ = some (intV 9) := (HO.out.at_ HF2.out).counts 5 (by omega)
  clear hF2 hf2 HK
  go_wp2_with fail
  refine (fault_any _ _ _).mono ?_
  rintro e w3 ⟨rfl, hf3⟩
  have HF3 := Lib.hid (ff HF2.out hf3)
  clear hf3
  go_wp2_with fail
  exact ⟨rfl, rfl, fr_b HF3.out⟩
set_option maxRecDepth 100000 in
set_option maxHeartbeats 1600000 in
theorem begin_many2 (x : FPair) (r : List FPair) (hz : x.1.length ≤ 100000) (w0 w : World) (b g : Nat) (ho : Ok w0 w b g) (h : LeftAt w b g (x :: r)) (hk : kindD x.1 = 2) (hn : 9 < (r.length : Int) + 1) :
    Calls Tryz.prog 44 #[.pointer (some ⟨b, 0, none⟩)] w (BPost (x :: r) g b (.error (0, 4)) w) := by
  have hbs := h.lt
  obtain ⟨off, c, hb, hc, c0, c1, hL⟩ := h.open
  have d0 := blk_cell hb 0 _ rfl
  have HL := Lib.hid h
  have HX := Lib.hid hL
  have HB := Lib.hid hb
  have HO := Lib.hid ho
  have HE := Lib.hid (Blk.made w 46 #[strV x.1, intV (x.2 : Int)])
  have HK := Lib.hid (fun W => kindOf_any x.1 (by omega) W 2 hk)
  clear hL hb h ho hk
  go_enter Tryz.func44, Tryz.ntmps44
  go_wp2_with fail
  refine (HK.out _).mono ?_
  rintro e w2 ⟨rfl, hf2⟩
  have hF2 := ff (Fr.new w _ _) hf2
  have HF2 := Lib.hid hF2
  have HB2 := Lib.hid (hF2.blk HB.out (fun h => h))
  have d2 := blk_cell HB2.out 0 _ rfl
  have e1 := blk_cell (hf2.blk HE.out (fun h => h)) 1 _ rfl
  have k0 : w2.cell? ⟨2, 4, none⟩ = some (intV 5) := (HO.out.at_ HF2.out).counts 4 (by omega)
  have k1 : w2.cell? ⟨2, 5, none⟩ = some (intV 9) := (HO.out.at_ HF2.out).counts 5 (by omega)
  have hn2 : 5 ≤ (r.length : Int) + 1 := by omega
  clear hF2 hf2 HK
  go_wp2_with fail
  refine (fault_any _ _ _).mono ?_
  rintro e w3 ⟨rfl, hf3⟩
  have HF3 := Lib.hid (ff HF2.out hf3)
  clear hf3
  go_wp2_with fail
  exact ⟨rfl, rfl, fr_b HF3.out⟩
set_option maxRecDepth 100000 in
set_option maxHeartbeats 1600000 in
theorem begin_ok2 (x : FPair) (r : List FPair) (hz : x.1.length ≤ 100000) (w0 w : World) (b g : Nat) (ho : Ok w0 w b g) (h : LeftAt w b g (x :: r)) (hk : kindD x.1 = 2) (hn1 : 5 ≤ (r.length : Int) + 1) (hn2 : (r.length : Int) + 1 ≤ 9) :
    Calls Tryz.prog 44 #[.pointer (some ⟨b, 0, none⟩)] w (BPost (x :: r) g b (.ok 2) w) := by
  have hbs := h.lt
  obtain ⟨off, c, hb, hc, c0, c1, hL⟩ := h.open
  have d0 := blk_cell hb 0 _ rfl
  have HL := Lib.hid h
  have HX := Lib.hid hL
  have HB := Lib.hid hb
  have HO := Lib.hid ho
  have HE := Lib.hid (Blk.made w 46 #[strV x.1, intV (x.2 : Int)])
  have HK := Lib.hid (fun W => kindOf_any x.1 (by omega) W 2 hk)
  clear hL hb h ho hk
  go_enter Tryz.func44, Tryz.ntmps44
  go_wp2_with fail
  refine (HK.out _).mono ?_
  rintro e w2 ⟨rfl, hf2⟩
  have hF2 := ff (Fr.new w _ _) hf2
  have HF2 := Lib.hid hF2
  have HB2 := Lib.hid (hF2.blk HB.out (fun h => h))
  have d2 := blk_cell HB2.out 0 _ rfl
  have e1 := blk_cell (hf2.blk HE.out (fun h => h)) 1 _ rfl
  have k0 : w2.cell? ⟨2, 4, none⟩ = some (intV 5) := (HO.out.at_ HF2.out).counts 4 (by omega)
  have k1 : w2.cell? ⟨2, 5, none⟩ = some (intV 9) := (HO.out.at_ HF2.out).counts 5 (by omega)
  have hbg := HO.out.hg
  have f2 := free_at HB2.out 0
  have l1 : (1 : Int) ≤ (r.length + 1 : Int) := by omega
  have l2 : (r.length + 1 : Int) ≤ (c : Int) := by omega
  clear hF2 hf2 HK
  go_wp2_with fail
  go_ret
  have hf3 := fr_put0 HF2.out b 0 (.slice (some ⟨g, off + 2, none⟩) r.length (c - 1))
  have hcut : Mem.cutA (some ⟨g, off, none⟩) c 1 2 = some ⟨g, off + 2, none⟩ := by
    unfold Mem.cutA
    rw [if_neg (by omega)]
    rfl
  rw [hcut] at HX
  exact ⟨rfl, HX.out _ _ hf3 hbg (HB2.out.put' (cs' := #[.slice (some ⟨g, off + 2, none⟩) r.length (c - 1)]) 0 _ (by simp)), hf3⟩
set_option maxRecDepth 100000 in
set_option maxHeartbeats 1600000 in
theorem begin_few3 (x : FPair) (r : List FPair) (hz : x.1.length ≤ 100000) (w0 w : World) (b g : Nat) (ho : Ok w0 w b g) (h : LeftAt w b g (x :: r)) (hk : kindD x.1 = 3) (hn : (r.length : Int) + 1 < 3) :
    Calls Tryz.prog 44 #[.pointer (some ⟨b, 0, none⟩)] w (BPost (x :: r) g b (.error (0, 4)) w) := by
  have hbs := h.lt
  obtain ⟨off, c, hb, hc, c0, c1, hL⟩ := h.open
  have d0 := blk_cell hb 0 _ rfl
  have HL := Lib.hid h
  have HX := Lib.hid hL
  have HB := Lib.hid hb
  have HO := Lib.hid ho
  have HE := Lib.hid (Blk.made w 46 #[strV x.1, intV (x.2 : Int)])
  have HK := Lib.hid (fun W => kindOf_any x.1 (by omega) W 3 hk)
  clear hL hb h ho hk
  go_enter Tryz.func44, Tryz.ntmps44
  go_wp2_with fail
  refine (HK.out _).mono ?_
  rintro e w2 ⟨rfl, hf2⟩
  have hF2 := ff (Fr.new w _ _) hf2
  have HF2 := Lib.hid hF2
  have HB2 := Lib.hid (hF2.blk HB.out (fun h => h))
  have d2 := blk_cell HB2.out 0 _ rfl
  have e1 := blk_cell (hf2.blk HE.out (fun h => h)) 1 _ rfl
  have k0 : w2.cell? ⟨2, 6, none⟩ = some (intV 3) := (HO.out.at_ HF2.out).counts 6 (by omega)
  have k1 : w2.cell? ⟨2, 7, none⟩ = some (intV 7) := (HO.out.at_ HF2.out).counts 7 (by omega)
  clear hF2 hf2 HK
  go_wp2_with fail
  refine (fault_any _ _ _).mono ?_
  rintro e w3 ⟨rfl, hf3⟩
  have HF3 := Lib.hid (ff HF2.out hf3)
  clear hf3
  go_wp2_with fail
  exact ⟨rfl, rfl, fr_b HF3.out⟩
set_option maxRecDepth 100000 in
set_option maxHeartbeats 1600000 in
theorem begin_many3 (x : FPair) (r : List FPair) (hz : x.1.length ≤ 100000) (w0 w : World) (b g : Nat) (ho : Ok w0 w b g) (h : LeftAt w b g (x :: r)) (hk : kindD x.1 = 3) (hn : 7 < (r.length : Int) + 1) :
    Calls Tryz.prog 44 #[.pointer (some ⟨b, 0, none⟩)] w (BPost (x :: r) g b (.error (0, 4)) w) := by
  have hbs := h.lt
  obtain ⟨off, c, hb, hc, c0, c1, hL⟩ := h.open
  have d0 := blk_cell hb 0 _ rfl
  have HL := Lib.hid h
  have HX := Lib.hid hL
  have HB := Lib.hid hb
  have HO := Lib.hid ho
  have HE := Lib.hid (Blk.made w 46 #[strV x.1, intV (x.2 : Int)])
  have HK := Lib.hid (fun W => kindOf_any x.1 (by omega) W 3 hk)
  clear hL hb h ho hk
  go_enter Tryz.func44, Tryz.ntmps44
  go_wp2_with fail
  refine (HK.out _).mono ?_
  rintro e w2 ⟨rfl, hf2⟩
  have hF2 := ff (Fr.new w _ _) hf2
  have HF2 := Lib.hid hF2
  have HB2 := Lib.hid (hF2.blk HB.out (fun h => h))
  have d2 := blk_cell HB2.out 0 _ rfl
  have e1 := blk_cell (hf2.blk HE.out (fun h => h)) 1 _ rfl
  have k0 : w2.cell? ⟨2, 6, none⟩ = some (intV 3) := (HO.out.at_ HF2.out).counts 6 (by omega)
  have k1 : w2.cell? ⟨2, 7, none⟩ = some (intV 7) := (HO.out.at_ HF2.out).counts 7 (by omega)
  have hn2 : 3 ≤ (r.length : Int) + 1 := by omega
  clear hF2 hf2 HK
  go_wp2_with fail
  refine (fault_any _ _ _).mono ?_
  rintro e w3 ⟨rfl, hf3⟩
  have HF3 := Lib.hid (ff HF2.out hf3)
  clear hf3
  go_wp2_with fail
  exact ⟨rfl, rfl, fr_b HF3.out⟩
set_option maxRecDepth 100000 in
set_option maxHeartbeats 1600000 in
theorem begin_ok3 (x : FPair) (r : List FPair) (hz : x.1.length ≤ 100000) (w0 w : World) (b g : Nat) (ho : Ok w0 w b g) (h : LeftAt w b g (x :: r)) (hk : kindD x.1 = 3) (hn1 : 3 ≤ (r.length : Int) + 1) (hn2 : (r.length : Int) + 1 ≤ 7) :
    Calls Tryz.prog 44 #[.pointer (some ⟨b, 0, none⟩)] w (BPost (x :: r) g b (.ok 3) w) := by
  have hbs := h.lt
  obtain ⟨off, c, hb, hc, c0, c1, hL⟩ := h.open
  have d0 := blk_cell hb 0 _ rfl
  have HL := Lib.hid h
  have HX := Lib.hid hL
  have HB := Lib.hid hb
  have HO := Lib.hid ho
  have HE := Lib.hid (Blk.made w 46 #[strV x.1, intV (x.2 : Int)])
  have HK := Lib.hid (fun W => kindOf_any x.1 (by omega) W 3 hk)
  clear hL hb h ho hk
  go_enter Tryz.func44, Tryz.ntmps44
  go_wp2_with fail
  refine (HK.out _).mono ?_
  rintro e w2 ⟨rfl, hf2⟩
  have hF2 := ff (Fr.new w _ _) hf2
  have HF2 := Lib.hid hF2
  have HB2 := Lib.hid (hF2.blk HB.out (fun h => h))
  have d2 := blk_cell HB2.out 0 _ rfl
  have e1 := blk_cell (hf2.blk HE.out (fun h => h)) 1 _ rfl
  have k0 : w2.cell? ⟨2, 6, none⟩ = some (intV 3) := (HO.out.at_ HF2.out).counts 6 (by omega)
  have k1 : w2.cell? ⟨2, 7, none⟩ = some (intV 7) := (HO.out.at_ HF2.out).counts 7 (by omega)
  have hbg := HO.out.hg
  have f2 := free_at HB2.out 0
  have l1 : (1 : Int) ≤ (r.length + 1 : Int) := by omega
  have l2 : (r.length + 1 : Int) ≤ (c : Int) := by omega
  clear hF2 hf2 HK
  go_wp2_with fail
  go_ret
  exact ⟨rfl, HL.out.fr HF2.out (fun h => h) (fun h => h), fr_b HF2.out⟩
set_option maxRecDepth 100000 in
set_option maxHeartbeats 1600000 in
theorem begin_few4 (x : FPair) (r : List FPair) (hz : x.1.length ≤ 100000) (w0 w : World) (b g : Nat) (ho : Ok w0 w b g) (h : LeftAt w b g (x :: r)) (hk : kindD x.1 = 4) (hn : (r.length : Int) + 1 < 3) :
    Calls Tryz.prog 44 #[.pointer (some ⟨b, 0, none⟩)] w (BPost (x :: r) g b (.error (0, 4)) w) := by
  have hbs := h.lt
  obtain ⟨off, c, hb, hc, c0, c1, hL⟩ := h.open
  have d0 := blk_cell hb 0 _ rfl
  have HL := Lib.hid h
  have HX := Lib.hid hL
  have HB := Lib.hid hb
  have HO := Lib.hid ho
  have HE := Lib.hid (Blk.made w 46 #[strV x.1, intV (x.2 : Int)])
  have HK := Lib.hid (fun W => kindOf_any x.1 (by omega) W 4 hk)
  clear hL hb h ho hk
  go_enter Tryz.func44, Tryz.ntmps44
  go_wp2_with fail
  refine (HK.out _).mono ?_
  rintro e w2 ⟨rfl, hf2⟩
  have hF2 := ff (Fr.new w _ _) hf2
  have HF2 := Lib.hid hF2
  have HB2 := Lib.hid (hF2.blk HB.out (fun h => h))
  have d2 := blk_cell HB2.out 0 _ rfl
  have e1 := blk_cell (hf2.blk HE.out (fun h => h)) 1 _ rfl
  have k0 : w2.cell? ⟨2, 8, none⟩ = some (intV 3) := (HO.out.at_ HF2.out).counts 8 (by omega)
  have k1 : w2.cell? ⟨2, 9, none⟩ = some (intV 3) := (HO.out.at_ HF2.out).counts 9 (by omega)
  clear hF2 hf2 HK
  go_wp2_with fail
  refine (fault_any _ _ _).mono ?_
  rintro e w3 ⟨rfl, hf3⟩
  have HF3 := Lib.hid (ff HF2.out hf3)
  clear hf3
  go_wp2_with fail
  exact ⟨rfl, rfl, fr_b HF3.out⟩
set_option maxRecDepth 100000 in
set_option maxHeartbeats 1600000 in
theorem begin_many4 (x : FPair) (r : List FPair) (hz : x.1.length ≤ 100000) (w0 w : World) (b g : Nat) (ho : Ok w0 w b g) (h : LeftAt w b g (x :: r)) (hk : kindD x.1 = 4) (hn : 3 < (r.length : Int) + 1) :
    Calls Tryz.prog 44 #[.pointer (some ⟨b, 0, none⟩)] w (BPost (x :: r) g b (.error (0, 4)) w) := by
  have hbs := h.lt
  obtain ⟨off, c, hb, hc, c0, c1, hL⟩ := h.open
  have d0 := blk_cell hb 0 _ rfl
  have HL := Lib.hid h
  have HX := Lib.hid hL
  have HB := Lib.hid hb
  have HO := Lib.hid ho
  have HE := Lib.hid (Blk.made w 46 #[strV x.1, intV (x.2 : Int)])
  have HK := Lib.hid (fun W => kindOf_any x.1 (by omega) W 4 hk)
  clear hL hb h ho hk
  go_enter Tryz.func44, Tryz.ntmps44
  go_wp2_with fail
  refine (HK.out _).mono ?_
  rintro e w2 ⟨rfl, hf2⟩
  have hF2 := ff (Fr.new w _ _) hf2
  have HF2 := Lib.hid hF2
  have HB2 := Lib.hid (hF2.blk HB.out (fun h => h))
  have d2 := blk_cell HB2.out 0 _ rfl
  have e1 := blk_cell (hf2.blk HE.out (fun h => h)) 1 _ rfl
  have k0 : w2.cell? ⟨2, 8, none⟩ = some (intV 3) := (HO.out.at_ HF2.out).counts 8 (by omega)
  have k1 : w2.cell? ⟨2, 9, none⟩ = some (intV 3) := (HO.out.at_ HF2.out).counts 9 (by omega)
  have hn2 : 3 ≤ (r.length : Int) + 1 := by omega
  clear hF2 hf2 HK
  go_wp2_with fail
  refine (fault_any _ _ _).mono ?_
  rintro e w3 ⟨rfl, hf3⟩
  have HF3 := Lib.hid (ff HF2.out hf3)
  clear hf3
  go_wp2_with fail
  exact ⟨rfl, rfl, fr_b HF3.out⟩
set_option maxRecDepth 100000 in
set_option maxHeartbeats 1600000 in
theorem begin_ok4 (x : FPair) (r : List FPair) (hz : x.1.length ≤ 100000) (w0 w : World) (b g : Nat) (ho : Ok w0 w b g) (h : LeftAt w b g (x :: r)) (hk : kindD x.1 = 4) (hn1 : 3 ≤ (r.length : Int) + 1) (hn2 : (r.length : Int) + 1 ≤ 3) :
    Calls Tryz.prog 44 #[.pointer (some ⟨b, 0, none⟩)] w (BPost (x :: r) g b (.ok 4) w) := by
  have hbs := h.lt
  obtain ⟨off, c, hb, hc, c0, c1, hL⟩ := h.open
  have d0 := blk_cell hb 0 _ rfl
  have HL := Lib.hid h
  have HX := Lib.hid hL
  have HB := Lib.hid hb
  have HO := Lib.hid ho
  have HE := Lib.hid (Blk.made w 46 #[strV x.1, intV (x.2 : Int)])
  have HK := Lib.hid (fun W => kindOf_any x.1 (by omega) W 4 hk)
  clear hL hb h ho hk
  go_enter Tryz.func44, Tryz.ntmps44
  go_wp2_with fail
  refine (HK.out _).mono ?_
  rintro e w2 ⟨rfl, hf2⟩
  have hF2 := ff (Fr.new w _ _) hf2
  have HF2 := Lib.hid hF2
  have HB2 := Lib.hid (hF2.blk HB.out (fun h => h))
  have d2 := blk_cell HB2.out 0 _ rfl
  have e1 := blk_cell (hf2.blk HE.out (fun h => h)) 1 _ rfl
  have k0 : w2.cell? ⟨2, 8, none⟩ = some (intV 3) := (HO.out.at_ HF2.out).counts 8 (by omega)
  have k1 : w2.cell? ⟨2, 9, none⟩ = some (intV 3) := (HO.out.at_ HF2.out).counts 9 (by omega)
  have hbg := HO.out.hg
  have f2 := free_at HB2.out 0
  have l1 : (1 : Int) ≤ (r.length + 1 : Int) := by omega
  have l2 : (r.length + 1 : Int) ≤ (c : Int) := by omega
  clear hF2 hf2 HK
  go_wp2_with fail
  go_ret
  have hf3 := fr_put0 HF2.out b 0 (.slice (some ⟨g, off + 2, none⟩) r.length (c - 1))
  have hcut : Mem.cutA (some ⟨g, off, none⟩) c 1 2 = some ⟨g, off + 2, none⟩ := by
    unfold Mem.cutA
    rw [if_neg (by omega)]
    rfl
  rw [hcut] at HX
  exact ⟨rfl, HX.out _ _ hf3 hbg (HB2.out.put' (cs' := #[.slice (some ⟨g, off + 2, none⟩) r.length (c - 1)]) 0 _ (by simp)), hf3⟩
theorem begin_any (fs : List FPair) (hz : ∀ x ∈ fs, x.1.length ≤ 100000) (hne : fs ≠ []) (w0 w : World) (b g : Nat) (ho : Ok w0 w b g) (h : LeftAt w b g fs) :
    Calls Tryz.prog 44 #[.pointer (some ⟨b, 0, none⟩)] w (BPost fs g b (beginP fs) w) := by
  cases fs with
  | nil => exact absurd rfl hne
  | cons x r =>
    have hx := hz x (by simp)
    unfold beginP
    show Calls Tryz.prog 44 _ w (BPost (x :: r) g b (if kindD x.1 = 0 then _ else if (r.length + 1) < leastD (kindD x.1) ∨ mostD (kindD x.1) < (r.length + 1) then _ else .ok (kindD x.1)) w)
    rcases kind_cases x.1 with hk | hk | hk | hk | hk
    · rw [hk, if_pos rfl]
      exact begin_none x r hx w0 w b g ho h hk
    · rw [hk, if_neg (by decide), show leastD 1 = 10 from rfl, show mostD 1 = 10 from rfl]
      by_cases hn : r.length + 1 < 10 ∨ 10 < r.length + 1
      · rw [if_pos hn]
        rcases hn with hn | hn
        · exact begin_few1 x r hx w0 w b g ho h hk (by omega)
        · exact begin_many1 x r hx w0 w b g ho h hk (by omega)
      · rw [if_neg hn]
        exact begin_ok1 x r hx w0 w b g ho h hk (by omega) (by omega)
    · rw [hk, if_neg (by decide), show leastD 2 = 5 from rfl, show mostD 2 = 9 from rfl]
      by_cases hn : r.length + 1 < 5 ∨ 9 < r.length + 1
      · rw [if_pos hn]
        rcases hn with hn | hn
        · exact begin_few2 x r hx w0 w b g ho h hk (by omega)
        · exact begin_many2 x r hx w0 w b g ho h hk (by omega)
      · rw [if_neg hn]
        exact begin_ok2 x r hx w0 w b g ho h hk (by omega) (by omega)
    · rw [hk, if_neg (by decide), show leastD 3 = 3 from rfl, show mostD 3 = 7 from rfl]
      by_cases hn : r.length + 1 < 3 ∨ 7 < r.length + 1
      · rw [if_pos hn]
        rcases hn with hn | hn
        · exact begin_few3 x r hx w0 w b g ho h hk (by omega)
        · exact begin_many3 x r hx w0 w b g ho h hk (by omega)
      · rw [if_neg hn]
        exact begin_ok3 x r hx w0 w b g ho h hk (by omega) (by omega)
    · rw [hk, if_neg (by decide), show leastD 4 = 3 from rfl, show mostD 4 = 3 from rfl]
      by_cases hn : r.length + 1 < 3 ∨ 3 < r.length + 1
      · rw [if_pos hn]
        rcases hn with hn | hn
        · exact begin_few4 x r hx w0 w b g ho h hk (by omega)
        · exact begin_many4 x r hx w0 w b g ho h hk (by omega)
      · rw [if_neg hn]
        exact begin_ok4 x r hx w0 w b g ho h hk (by omega) (by omega)
end Go.Proofs.YtgcheollgnhdlaaGreatDoor
