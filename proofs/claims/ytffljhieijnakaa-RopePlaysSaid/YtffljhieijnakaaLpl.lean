import Derived.Test.YtffljhieijnakaaPly
namespace Go.Proofs.Ytffljhieijnakaa
open Go.RowKit Go.Mem Go.Rope

set_option maxHeartbeats 4000000 in
set_option maxRecDepth 100000 in
theorem plays_walk (l : Bs) (A : Option Addr) (n cap : Nat) (es : List Ed) (w : World) (hr : EdsAt w A n es) (hl : l.length ≤ maxLen) (hn : n ≤ maxLen) (hs : ∀ e ∈ es, e.s.length ≤ maxLen) :
    Calls Try.prog 3 #[strV l, .slice A n cap] w fun e w' => e = .returned (.bool true) ∧ Fr w w' (fun _ => False) := by
  have hlen := hr.1
  have hz := str_size l
  by_cases hE : LightE l es
  · have HLT := Lib.hid (light_any l A n cap es w hr hl hn hs true (by simp [hE]))
    obtain ⟨hl1, hn40, hes⟩ := hE
    have HR := Lib.hid hr
    have HS := Lib.hid hes
    clear hr hes hs
    by_cases hbig : l.length ≤ 20000
    · have HM := Lib.hid (Make_any w l l 0 (by unfold makeD; rw [if_pos hbig]))
      have t0 : ¬ ((l.length : Int) > 20000) := by omega
      have t0' : ¬ (20000 < (l.length : Int)) := by omega
      go_enter Try.func3, Try.ntmps3
      go_wp2_with fail
      refine HLT.out.mono ?_
      rintro e w2 ⟨rfl, rfl⟩
      go_wp2_with fail
      refine HM.out.mono ?_
      rintro e w2 ⟨v2, x2, h2, rfl, ro2, hf2⟩
      have HF2 := Lib.hid hf2
      have HRO := Lib.hid ro2
      clear hf2 ro2
      go_wp2_with fail
      go_loopw [0, 5, 7] (fun v0 v5 v7 wr => PInv2 w n v0 v5 v7 wr) (fun _ _ v7 _ => n - (intOf v7).toNat)
      case atStart => exact ⟨0, x2, h2, l, Nat.zero_le _, rfl, rfl, HRO.out, hbig, HF2.out⟩
      case round =>
        obtain ⟨k, x, h, t, hk, rfl, rfl, ro, htl, hf⟩ := hrel
        clear HF2 HRO hbig hl1 hl t0 t0' HM HLT
        by_cases hlt : k < n
        · obtain ⟨b, off, ed, rfl, he, c0, c1, c2⟩ := (HR.out.keep hf).at_ hlt
          have hel := HS.out ed (List.mem_of_getElem? he)
          obtain ⟨⟨t5, k5⟩, hsp⟩ : ∃ q, spliceD t ed.f ed.t ed.s = q := ⟨_, rfl⟩
          have hkd := splice_kind hsp htl
          have HC := Lib.hid (fun W (hW : Fr wr W (fun _ => False)) => Splice_any (ro.keep hW) htl ed.f ed.t ed.s hel t5 k5 hsp)
          have HC2 := Lib.hid (fun W => rSplice_any t ed.f ed.t ed.s W htl hel t5 k5 hsp)
          have hS0 : Hid (Fr wr wr (fun _ => False) ∧ wr.cell? ⟨b, off + k * 3, none⟩ = some (.int .i64 ed.f) ∧ wr.cell? ⟨b, off + k * 3 + 1, none⟩ = some (.int .i64 ed.t) ∧ wr.cell? ⟨b, off + k * 3 + 2, none⟩ = some (strV ed.s)) := Lib.hid ⟨Fr.refl _ _, c0, c1, c2⟩
          have HRO := Lib.hid ro
          have j0 : (0 : Int) ≤ (k : Int) := by omega
          have j1 : (k : Int) < (n : Int) := by omega
          have b40 : (k : Int) ≤ 40 := by omega
          have HF := Lib.hid hf
          clear ro he hsp hf c0 c1 c2
          go_wp2_with fail
          go_region_held3 (fun w' => Fr wr w' (fun _ => False) ∧ w'.cell? ⟨b, off + k * 3, none⟩ = some (.int .i64 ed.f) ∧ w'.cell? ⟨b, off + k * 3 + 1, none⟩ = some (.int .i64 ed.t) ∧ w'.cell? ⟨b, off + k * 3 + 2, none⟩ = some (strV ed.s))
            (first | with_reducible exact kp3 hS0.out (Fr.drew _ _) | with_reducible exact kp3 hS hf5 | with_reducible assumption)
            ((go_at_call 13; rename_i hS _ _; refine (HC.out _ hS.1).mono ?_; rintro e w5 ⟨v5, x5, h5, rfl, ro5, hf5⟩))
          rename_i hS
          have HS5 := Lib.hid hS
          have HR5 := Lib.hid ro5
          clear hS ro5
          go_wp2_with fail
          go_region_held3 (fun w' => Fr wr w' (fun _ => False) ∧ w'.cell? ⟨b, off + k * 3, none⟩ = some (.int .i64 ed.f) ∧ w'.cell? ⟨b, off + k * 3 + 1, none⟩ = some (.int .i64 ed.t) ∧ w'.cell? ⟨b, off + k * 3 + 2, none⟩ = some (strV ed.s))
            (first | with_reducible exact kp3 HS5.out (Fr.drew _ _) | with_reducible exact kp3 hS hf6 | with_reducible assumption)
            ((go_at_call 14; rename_i hS _ _; refine (HC2.out _).mono ?_; rintro e w6 ⟨rfl, hf6⟩))
          rename_i hS
          have HS6 := Lib.hid hS.1
          have HR6 := Lib.hid (show RopeAt w6 v5 x5 t5 h5 from HR5.out.keep ((Fr.drew _ _).trans hf6 (fun _ _ h => h) (fun _ _ h => h)))
          clear hS
          go_wp2_with fail
          refine (Text_any HR6.out hkd).mono ?_
          rintro e w7 ⟨rfl, hf7⟩
          have HF7 := Lib.hid (ff HS6.out hf7)
          have HR7 := Lib.hid (HR6.out.keep hf7)
          clear hf7
          go_wp2_with fail
          refine (Text_any (HRO.out.keep HF7.out) htl).mono ?_
          rintro e w9 ⟨rfl, hf9⟩
          have HF9 := Lib.hid (ff HF7.out hf9)
          have HR9 := Lib.hid (HR7.out.keep hf9)
          clear hf9
          by_cases hk0 : k5 = 0
          · have e0 : ((k5 : Int) == 0) = true := by simp [hk0]
            have HQ9 := Lib.hid HR9.out
            go_wp2_with fail
            refine (Len_any (HQ9.out)).mono ?_
            rintro e w' ⟨rfl, rfl⟩
            go_wp2_with fail
            refine (Lines_any (HQ9.out) hkd).mono ?_
            rintro e w' ⟨rfl, rfl⟩
            go_wp2_with fail
            refine (rLines_any t5 _ hkd).mono ?_
            rintro e w10 ⟨v10, rfl, hst10, hf10⟩
            obtain ⟨A10, cp10, rfl, -, -, hrd10⟩ := strs_rd hst10
            have hll := lines_len t5
            rw [hll]
            have HF10 := Lib.hid (ff HF9.out hf10)
            have HQ10 := Lib.hid (HQ9.out.keep hf10)
            clear hst10 hrd10 hf10 hll
            go_wp2_with fail
            go_roundw
            case measure => simp [intOf]; omega
            case rel => exact ⟨k + 1, x5, h5, t5, by omega, by go_num, rfl, HQ10.out, hkd, ff HF.out HF10.out⟩
          · have e0 : ((k5 : Int) == 0) = false := by simp [hk0]
            have HQ9 := Lib.hid (HRO.out.keep HF9.out)
            go_wp2_with fail
            refine (Len_any (HQ9.out)).mono ?_
            rintro e w' ⟨rfl, rfl⟩
            go_wp2_with fail
            refine (Lines_any (HQ9.out) htl).mono ?_
            rintro e w' ⟨rfl, rfl⟩
            go_wp2_with fail
            refine (rLines_any t _ htl).mono ?_
            rintro e w10 ⟨v10, rfl, hst10, hf10⟩
            obtain ⟨A10, cp10, rfl, -, -, hrd10⟩ := strs_rd hst10
            have hll := lines_len t
            rw [hll]
            have HF10 := Lib.hid (ff HF9.out hf10)
            have HQ10 := Lib.hid (HQ9.out.keep hf10)
            clear hst10 hrd10 hf10 hll
            go_wp2_with fail
            go_roundw
            case measure => simp [intOf]; omega
            case rel => exact ⟨k + 1, x, h, t, by omega, by go_num, rfl, HQ10.out, htl, ff HF.out HF10.out⟩
        · have HF := Lib.hid hf
          clear ro hf
          go_wp2_with fail
          refine (alive_any _).mono ?_
          rintro e w9 ⟨rfl, hf9⟩
          have HF9 := Lib.hid (ff HF.out hf9)
          clear hf9
          go_wp2_with fail
          go_ret
          exact ⟨rfl, HF9.out⟩
    · have HM := Lib.hid (Make_any w l [] 17 (by unfold makeD; rw [if_neg hbig]))
      have t0 : ((l.length : Int) > 20000) := by omega
      have t0' : (20000 < (l.length : Int)) := by omega
      go_enter Try.func3, Try.ntmps3
      go_wp2_with fail
      refine HLT.out.mono ?_
      rintro e w2 ⟨rfl, rfl⟩
      go_wp2_with fail
      refine HM.out.mono ?_
      rintro e w2 ⟨v2, x2, h2, rfl, ro2, hf2⟩
      have HF2 := Lib.hid hf2
      have HRO := Lib.hid (Len_any ro2)
      clear hf2 ro2
      go_wp2_with fail
      refine HRO.out.mono ?_
      rintro e w3 ⟨rfl, rfl⟩
      go_wp2_with fail
      refine (alive_any _).mono ?_
      rintro e w9 ⟨rfl, hf9⟩
      have HF9 := Lib.hid (ff HF2.out hf9)
      clear hf9
      go_wp2_with fail
      go_ret
      exact ⟨rfl, HF9.out⟩
  · have HLT := Lib.hid (light_any l A n cap es w hr hl hn hs false (by simp [hE]))
    clear hr hE hs
    go_enter Try.func3, Try.ntmps3
    go_wp2_with fail
    refine HLT.out.mono ?_
    rintro e w2 ⟨rfl, rfl⟩
    go_wp2_with fail
    refine (alive_any _).mono ?_
    rintro e w9 ⟨rfl, hf9⟩
    have HF9 := Lib.hid hf9
    clear hf9
    go_wp2_with fail
    go_ret
    exact ⟨rfl, HF9.out⟩
end Go.Proofs.Ytffljhieijnakaa
