import Derived.Test.YtbolgodoifbnnaaDoorEsc
namespace Go.Proofs.YtbolgodoifbnnaaDoor
open Go.RowKit Go.Mem Go.Esc

theorem or_parts (c d : UInt8) (hc : c < 16) (hd : d < 16) : bits BinOp.or IntKind.u8 ((c.toNat : Int) * 16) (d.toNat : Int) = ((c <<< 4 ||| d).toNat : Int) := by
  have : ∀ a b : Fin 16, bits BinOp.or IntKind.u8 ((a.val : Int) * 16) (b.val : Int) = (((UInt8.ofNat a.val) <<< 4 ||| (UInt8.ofNat b.val)).toNat : Int) := by decide +kernel
  have := this ⟨c.toNat, by simpa [UInt8.lt_iff_toNat_lt] using hc⟩ ⟨d.toNat, by simpa [UInt8.lt_iff_toNat_lt] using hd⟩
  simpa using this
theorem ofNat_lt {k : Nat} (h : k < 16) : UInt8.ofNat k < 16 ∧ (UInt8.ofNat k).toNat = k := by
  have e : (UInt8.ofNat k).toNat = k := by rw [UInt8.toNat_ofNat']; omega
  exact ⟨by rw [UInt8.lt_iff_toNat_lt, e]; exact h, e⟩
theorem begins_no : ∀ c : UInt8, c < 16 → (∀ j : Nat, j < 16 → codedB (c <<< 4 ||| UInt8.ofNat j) = false) → beginsB c = false := by
  have : ∀ a : Fin 16, (∀ j : Fin 16, codedB (UInt8.ofNat a.val <<< 4 ||| UInt8.ofNat j.val) = false) → beginsB (UInt8.ofNat a.val) = false := by decide +kernel
  intro c hc h
  have := this ⟨c.toNat, by simpa [UInt8.lt_iff_toNat_lt] using hc⟩ (fun j => by simpa using h j.val j.isLt)
  simpa using this
theorem begins_yes : ∀ c : UInt8, c < 16 → ∀ j : Nat, j < 16 → codedB (c <<< 4 ||| UInt8.ofNat j) = true → beginsB c = true := by
  have : ∀ a : Fin 16, ∀ j : Fin 16, codedB (UInt8.ofNat a.val <<< 4 ||| UInt8.ofNat j.val) = true → beginsB (UInt8.ofNat a.val) = true := by decide +kernel
  intro c hc j hj h
  have := this ⟨c.toNat, by simpa [UInt8.lt_iff_toNat_lt] using hc⟩ ⟨j, hj⟩ (by simpa using h)
  simpa using this
theorem beginsCode_any (w : World) (c : UInt8) (n : Int) (hn : n = c.toNat) (h16 : c < 16) : Calls Tryd.prog 72 #[.int .u8 n] w fun e w' => e = .returned (.bool (beginsB c)) ∧ w = w' := by
  have b1 : 0 ≤ n := by omega
  have b2 : n < 16 := by have := UInt8.lt_iff_toNat_lt.1 h16; simp at this; omega
  have HN := Lib.hid hn
  have H16 := Lib.hid h16
  clear hn h16
  go_enter Tryd.func72, Tryd.ntmps72
  go_wp2_with fail
  go_loop [4] (fun v4 => ∃ k : Nat, k ≤ 16 ∧ v4 = .int .u8 k ∧ ∀ j : Nat, j < k → codedB (c <<< 4 ||| UInt8.ofNat j) = false) (fun v4 => 16 - (intOf v4).toNat)
  case atStart => exact ⟨0, by omega, rfl, fun j hj => by omega⟩
  case round =>
    obtain ⟨k, hk, rfl, hno⟩ := hrel
    have HNO := Lib.hid hno
    clear hno
    by_cases hlt : k < 16
    · have HC := Lib.hid (isCoded_any w (c <<< 4 ||| UInt8.ofNat k) (bits BinOp.or IntKind.u8 (n * 16) k) (by
        have := or_parts c (UInt8.ofNat k) H16.out (ofNat_lt hlt).1
        rw [(ofNat_lt hlt).2] at this
        rw [HN.out]
        exact this))
      obtain ⟨x, hx⟩ : ∃ x, codedB (c <<< 4 ||| UInt8.ofNat k) = x := ⟨_, rfl⟩
      rw [hx] at HC
      have HX := Lib.hid hx
      clear hx
      cases x
      · go_wp2_with fail
        refine HC.out.mono ?_
        rintro e w1 ⟨rfl, rfl⟩
        go_wp2_with fail
        go_round
        case rel => exact ⟨k + 1, by omega, by go_num, fun j hj => by
          rcases Nat.lt_succ_iff_lt_or_eq.1 hj with h | h
          · exact HNO.out j h
          · rw [h]; exact HX.out⟩
        case measure => simp [intOf]; omega
      · go_wp2_with fail
        refine HC.out.mono ?_
        rintro e w1 ⟨rfl, rfl⟩
        go_wp2_with fail
        go_ret
        exact ⟨by rw [begins_yes c H16.out k hlt HX.out]; rfl, rfl⟩
    · have hk' : k = 16 := by omega
      subst hk'
      have HB := Lib.hid (begins_no c H16.out HNO.out)
      go_wp2_with fail
      go_ret
      exact ⟨by rw [HB.out]; rfl, rfl⟩

theorem digit_lt {l : Bs} {d : UInt8} {r : Bs} (h : digitD l = .got d r) : d < 16 := (digit_got h).2
theorem code_any (w : World) (b : Nat) (s : ByteArray) (l : Bs) (h : RdAt w b s l) (hz : s.size ≤ 1000000) :
    Calls Tryd.prog 57 #[.pointer (some ⟨b, 0, none⟩)] w (Ran (codeD l) (fun d => .int .u8 (d.toNat : Int)) b s w) := by
  have HE := Lib.hid (digit_any w b s l h hz)
  clear h
  obtain ⟨g, hg⟩ : ∃ g, codeD l = g := ⟨_, rfl⟩
  rw [hg]
  rw [codeD] at hg
  have HZ := Lib.hid hz
  rcases h1 : digitD l with k | ⟨d, r⟩ <;> rw [h1] at HE hg <;> simp only at hg
  · subst hg
    clear h1
    go_enter Tryd.func57, Tryd.ntmps57
    go_wp2_with fail
    refine HE.out.mono ?_
    rintro e w1 ⟨rfl, hf⟩
    have HF := Lib.hid hf
    clear hf
    go_wp2_with fail
    exact ⟨rfl, rfl, HF.out⟩
  · have H16 := Lib.hid (digit_lt h1)
    clear h1
    obtain ⟨n, hn⟩ : ∃ n : Int, n = (d.toNat : Int) := ⟨_, rfl⟩
    have b1 : 0 ≤ n := by omega
    have b2 : n < 16 := by have := UInt8.lt_iff_toNat_lt.1 H16.out; simp at this; omega
    have HN := Lib.hid hn
    have HE : Hid (Calls Tryd.prog 71 #[.pointer (some ⟨b, 0, none⟩)] w fun e w' => e = .returned (.int .u8 n) ∧ RdAt w' b s r ∧ Fr w w' (· = b)) := by
      rw [hn]
      exact HE
    clear hn
    have HBC := Lib.hid (fun w => beginsCode_any w d n HN.out H16.out)
    by_cases hb : beginsB d = true
    · rw [if_pos hb] at hg
      rw [hb] at HBC
      clear hb
      have tail : ∀ w1, RdAt w1 b s r → (Calls Tryd.prog 71 #[.pointer (some ⟨b, 0, none⟩)] w1 (Ran (digitD r) (fun d => .int .u8 (d.toNat : Int)) b s w1)) := fun w1 hr => digit_any w1 b s r hr HZ.out
      have TL := Lib.hid tail
      clear tail
      rcases h2 : digitD r with k | ⟨d2, r2⟩ <;> rw [h2] at hg TL <;> simp only at hg
      · subst hg
        clear h2
        go_enter Tryd.func57, Tryd.ntmps57
        go_wp2_with fail
        refine HE.out.mono ?_
        rintro e w1 ⟨rfl, hr, hf⟩
        have T1 := Lib.hid (TL.out w1 hr)
        have HF := Lib.hid hf
        clear hr hf
        go_wp2_with fail
        refine (HBC.out _).mono ?_
        rintro e w2 ⟨rfl, rfl⟩
        go_wp2_with fail
        refine T1.out.mono ?_
        rintro e w2 ⟨rfl, hf2⟩
        have HF2 := Lib.hid hf2
        clear hf2
        go_wp2_with fail
        exact ⟨rfl, rfl, HF.out.trans HF2.out (fun _ _ h => h) (fun _ _ h => h)⟩
      · have H2 := Lib.hid (digit_lt h2)
        clear h2
        obtain ⟨m, hm⟩ : ∃ m : Int, m = (d2.toNat : Int) := ⟨_, rfl⟩
        have c1 : 0 ≤ m := by omega
        have c2 : m < 16 := by have := UInt8.lt_iff_toNat_lt.1 H2.out; simp at this; omega
        have hor : bits BinOp.or IntKind.u8 (n * 16) m = ((d <<< 4 ||| d2).toNat : Int) := by rw [HN.out, hm]; exact or_parts d d2 H16.out H2.out
        have TL : Hid (∀ w1, RdAt w1 b s r → Calls Tryd.prog 71 #[.pointer (some ⟨b, 0, none⟩)] w1 fun e w' => e = .returned (.int .u8 m) ∧ RdAt w' b s r2 ∧ Fr w1 w' (· = b)) := by
          rw [hm]
          exact TL
        have HOR := Lib.hid hor
        have HIC := Lib.hid (fun w => isCoded_any w (d <<< 4 ||| d2) (bits BinOp.or IntKind.u8 (n * 16) m) HOR.out)
        clear hm hor
        generalize d <<< 4 ||| d2 = q at hg HOR HIC
        obtain ⟨x, hx⟩ : ∃ x, codedB q = x := ⟨_, rfl⟩
        rw [hx] at hg HIC
        clear hx
        cases x
        · rw [if_neg (by decide)] at hg
          subst hg
          go_enter Tryd.func57, Tryd.ntmps57
          go_wp2_with fail
          refine HE.out.mono ?_
          rintro e w1 ⟨rfl, hr, hf⟩
          have T1 := Lib.hid (TL.out w1 hr)
          have HF := Lib.hid hf
          clear hr hf
          go_wp2_with fail
          refine (HBC.out _).mono ?_
          rintro e w2 ⟨rfl, rfl⟩
          go_wp2_with fail
          refine T1.out.mono ?_
          rintro e w2 ⟨rfl, hr2, hf2⟩
          have HF2 := Lib.hid hf2
          clear hf2 hr2
          go_wp2_with fail
          refine (HIC.out _).mono ?_
          rintro e w3 ⟨rfl, rfl⟩
          go_wp2_with fail
          exact ⟨rfl, rfl, HF.out.trans HF2.out (fun _ _ h => h) (fun _ _ h => h)⟩
        · rw [if_pos rfl] at hg
          subst hg
          go_enter Tryd.func57, Tryd.ntmps57
          go_wp2_with fail
          refine HE.out.mono ?_
          rintro e w1 ⟨rfl, hr, hf⟩
          have T1 := Lib.hid (TL.out w1 hr)
          have HF := Lib.hid hf
          clear hr hf
          go_wp2_with fail
          refine (HBC.out _).mono ?_
          rintro e w2 ⟨rfl, rfl⟩
          go_wp2_with fail
          refine T1.out.mono ?_
          rintro e w2 ⟨rfl, hr2, hf2⟩
          have HF2 := Lib.hid hf2
          have HR2 := Lib.hid hr2
          clear hf2 hr2
          go_wp2_with fail
          refine (HIC.out _).mono ?_
          rintro e w3 ⟨rfl, rfl⟩
          go_wp2_with fail
          go_ret
          exact ⟨by show _ = Ending.returned (.int .u8 _); rw [← HOR.out]; rfl, HR2.out, HF.out.trans HF2.out (fun _ _ h => h) (fun _ _ h => h)⟩
    · rw [if_neg hb] at hg
      have hb : beginsB d = false := by simpa using hb
      rw [hb] at HBC
      clear hb
      subst hg
      go_enter Tryd.func57, Tryd.ntmps57
      go_wp2_with fail
      refine HE.out.mono ?_
      rintro e w1 ⟨rfl, hr, hf⟩
      have HF := Lib.hid hf
      clear hr hf
      go_wp2_with fail
      refine (HBC.out _).mono ?_
      rintro e w2 ⟨rfl, rfl⟩
      go_wp2_with fail
      exact ⟨rfl, rfl, HF.out⟩
end Go.Proofs.YtbolgodoifbnnaaDoor
