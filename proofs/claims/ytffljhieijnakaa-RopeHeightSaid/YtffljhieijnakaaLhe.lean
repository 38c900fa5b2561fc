import Derived.Test.YtffljhieijnakaaPly
namespace Go.Proofs.Ytffljhieijnakaa
open Go.RowKit Go.Mem Go.Rope

def HInv (w : World) (n : Nat) (v5 v7 : Value) (wr : World) : Prop := ∃ (k : Nat) (x : Value) (h : Nat) (t : Bs), k ≤ n ∧ v7 = .int .i64 (k : Int) ∧ RopeAt wr v5 x t h ∧ t.length ≤ 20000 ∧ Fr w wr (fun _ => False)
set_option maxHeartbeats 4000000 in
set_option maxRecDepth 100000 in
theorem height_walk (l : Bs) (A : Option Addr) (n cap : Nat) (es : List Ed) (w : World) (hr : EdsAt w A n es) (hl : l.length ≤ maxLen) (hn : n ≤ maxLen) (hs : ∀ e ∈ es, e.s.length ≤ maxLen) :
    Calls Try.prog 6 #[strV l, .slice A n cap] w fun e w' => e = .returned (.bool true) ∧ Fr w w' (fun _ => False) := by
  have hlen := hr.1
  have hz := str_size l
  by_cases hE : LightE l es
  · have HLT := Lib.hid (light_any l A n cap es w hr hl hn hs true (by simp [hE]))
    obtain ⟨hl1, hn40, hes⟩ := hE
    have HR := Lib.hid hr
    have HS := Lib.hid hes
    clear hr hes hs
    by_cases hbig : l.length ≤ 20000
    · have HM := Lib.hid (Make_any w l l 0 (by unfold makeD; rw [if_pos hbig]))
      go_enter Try.func6, Try.ntmps6
      go_wp2_with fail
      refine HLT.out.mono ?_
      rintro e w2 ⟨rfl, rfl⟩
      go_wp2_with fail
      refine HM.out.mono ?_
      rintro e w2 ⟨v2, x2, h2, rfl, ro2, hf2⟩
      have HF2 := Lib.hid hf2
      have HRO := Lib.hid ro2
      clear hf2 ro2
      go_wp2_with fail
      go_loopw [5, 7] (fun v5 v7 wr => HInv w n v5 v7 wr) (fun _ v7 _ => n - (intOf v7).toNat)
      case atStart => exact ⟨0, x2, h2, l, Nat.zero_le _, rfl, HRO.out, hbig, HF2.out⟩
      case round =>
        obtain ⟨k, x, h, t, hk, rfl, ro, htl, hf⟩ := hrel
        clear HF2 HRO hbig hl1 hl HM HLT
        by_cases hlt : k < n
        · obtain ⟨b, off, ed, rfl, he, c0, c1, c2⟩ := (HR.out.keep hf).at_ hlt
          have hel := HS.out ed (List.mem_of_getElem? he)
          obtain ⟨⟨t5, k5⟩, hsp⟩ : ∃ q, spliceD t ed.f ed.t ed.s = q := ⟨_, rfl⟩
          have hkd := splice_kind hsp htl
          have HC := Lib.hid (fun W (hW : Fr wr W (fun _ => False)) => Splice_any (ro.keep hW) htl ed.f ed.t ed.s hel t5 k5 hsp)
          have hS0 : Hid (Fr wr wr (fun _ => False) ∧ wr.cell? ⟨b, off + k * 3, none⟩ = some (.int .i64 ed.f) ∧ wr.cell? ⟨b, off + k * 3 + 1, none⟩ = some (.int .i64 ed.t) ∧ wr.cell? ⟨b, off + k * 3 + 2, none⟩ = some (strV ed.s)) := Lib.hid ⟨Fr.refl _ _, c0, c1, c2⟩
          have HRO := Lib.hid ro
          have j0 : (0 : Int) ≤ (k : Int) := by omega
          have j1 : (k : Int) < (n : Int) := by omega
          have b40 : (k : Int) ≤ 40 := by omega
          have HF := Lib.hid hf
          clear ro he hsp hf c0 c1 c2
          go_wp2_with fail
          go_region_held3 (fun w' => Fr wr w' (fun _ => False) ∧ w'.cell? ⟨b, off + k * 3, none⟩ = some (.int .i64 ed.f) ∧ w'.cell? ⟨b, off + k * 3 + 1, none⟩ = some (.int .i64 ed.t) ∧ w'.cell? ⟨b, off + k * 3 + 2, none⟩ = some (strV ed.s))
            (first | with_reducible exact kp3 hS0.out (Fr.drew _ _) | with_reducible exact kp3 hS hf5 | with_reducible assumption)
            ((go_at_call 13; rename_i hS _ _; refine (HC.out _ hS.1).mono ?_; rintro e w5 ⟨v5, x5, h5, rfl, ro5, hf5⟩))
          rename_i hS
          have HS5 := Lib.hid hS
          have HR5 := Lib.hid ro5
          clear hS ro5
          by_cases hk0 : k5 = 0
          · have e0 : ((k5 : Int) == 0) = true := by simp [hk0]
            have HQ9 := Lib.hid HR5.out
            have hle := HQ9.out.1.height_le hkd
            have hzero := HQ9.out.1.zero
            have z1 : ¬ ((h5 : Int) < 0) := by omega
            have z2 : ¬ ((h5 : Int) > 30) := by omega
            have z2' : ¬ (30 < h5) := by omega
            by_cases hh : h5 = 0
            · have hn0 : t5.length = 0 := by rw [hzero.1 hh]; rfl
              have z3 : ((h5 : Int) == 0) = true := by simp [hh]
              have z4 : ((t5.length : Int) == 0) = true := by simp [hn0]
              clear hle hzero hh hn0
              go_wp2_with fail
              refine (Height_any HQ9.out).mono ?_
              rintro e w' ⟨rfl, rfl⟩
              go_wp2_with fail
              refine (Height_any HQ9.out).mono ?_
              rintro e w' ⟨rfl, rfl⟩
              go_wp2_with fail
              refine (Height_any HQ9.out).mono ?_
              rintro e w' ⟨rfl, rfl⟩
              go_wp2_with fail
              refine (Len_any HQ9.out).mono ?_
              rintro e w' ⟨rfl, rfl⟩
              go_wp2_with fail
              go_roundw
              case measure => simp [intOf]; omega
              case rel => exact ⟨k + 1, x5, h5, t5, by omega, by go_num, HQ9.out, hkd, ff HF.out HS5.out.1⟩
            · have hn0 : t5.length ≠ 0 := fun e => hh (hzero.2 (List.length_eq_zero_iff.1 e))
              have z3 : ((h5 : Int) == 0) = false := by simp; omega
              have z4 : ((t5.length : Int) == 0) = false := by simp; simpa using hn0
              clear hle hzero hh hn0
              go_wp2_with fail
              refine (Height_any HQ9.out).mono ?_
              rintro e w' ⟨rfl, rfl⟩
              go_wp2_with fail
              refine (Height_any HQ9.out).mono ?_
              rintro e w' ⟨rfl, rfl⟩
              go_wp2_with fail
              refine (Height_any HQ9.out).mono ?_
              rintro e w' ⟨rfl, rfl⟩
              go_wp2_with fail
              refine (Len_any HQ9.out).mono ?_
              rintro e w' ⟨rfl, rfl⟩
              go_wp2_with fail
              go_roundw
              case measure => simp [intOf]; omega
              case rel => exact ⟨k + 1, x5, h5, t5, by omega, by go_num, HQ9.out, hkd, ff HF.out HS5.out.1⟩
          · have e0 : ((k5 : Int) == 0) = false := by simp [hk0]
            have HQ9 := Lib.hid (HRO.out.keep HS5.out.1)
            have hle := HQ9.out.1.height_le htl
            have hzero := HQ9.out.1.zero
            have z1 : ¬ ((h : Int) < 0) := by omega
            have z2 : ¬ ((h : Int) > 30) := by omega
            have z2' : ¬ (30 < h) := by omega
            by_cases hh : h = 0
            · have hn0 : t.length = 0 := by rw [hzero.1 hh]; rfl
              have z3 : ((h : Int) == 0) = true := by simp [hh]
              have z4 : ((t.length : Int) == 0) = true := by simp [hn0]
              clear hle hzero hh hn0
              go_wp2_with fail
              refine (Height_any HQ9.out).mono ?_
              rintro e w' ⟨rfl, rfl⟩
              go_wp2_with fail
              refine (Height_any HQ9.out).mono ?_
              rintro e w' ⟨rfl, rfl⟩
              go_wp2_with fail
              refine (Height_any HQ9.out).mono ?_
              rintro e w' ⟨rfl, rfl⟩
              go_wp2_with fail
              refine (Len_any HQ9.out).mono ?_
              rintro e w' ⟨rfl, rfl⟩
              go_wp2_with fail
              go_roundw
              case measure => simp [intOf]; omega
              case rel => exact ⟨k + 1, x, h, t, by omega, by go_num, HQ9.out, htl, ff HF.out HS5.out.1⟩
            · have hn0 : t.length ≠ 0 := fun e => hh (hzero.2 (List.length_eq_zero_iff.1 e))
              have z3 : ((h : Int) == 0) = false := by simp; omega
              have z4 : ((t.length : Int) == 0) = false := by simp; simpa using hn0
              clear hle hzero hh hn0
              go_wp2_with fail
              refine (Height_any HQ9.out).mono ?_
              rintro e w' ⟨rfl, rfl⟩
              go_wp2_with fail
              refine (Height_any HQ9.out).mono ?_
              rintro e w' ⟨rfl, rfl⟩
              go_wp2_with fail
              refine (Height_any HQ9.out).mono ?_
              rintro e w' ⟨rfl, rfl⟩
              go_wp2_with fail
              refine (Len_any HQ9.out).mono ?_
              rintro e w' ⟨rfl, rfl⟩
              go_wp2_with fail
              go_roundw
              case measure => simp [intOf]; omega
              case rel => exact ⟨k + 1, x, h, t, by omega, by go_num, HQ9.out, htl, ff HF.out HS5.out.1⟩
        · have HF := Lib.hid hf
          clear ro hf
          go_wp2_with fail
          refine (alive_any _).mono ?_
          rintro e w9 ⟨rfl, hf9⟩
          have HF9 := Lib.hid (ff HF.out hf9)
          clear hf9
          go_wp2_with fail
          go_ret
          exact ⟨rfl, HF9.out⟩
    · have HM := Lib.hid (Make_any w l [] 17 (by unfold makeD; rw [if_neg hbig]))
      go_enter Try.func6, Try.ntmps6
      go_wp2_with fail
      refine HLT.out.mono ?_
      rintro e w2 ⟨rfl, rfl⟩
      go_wp2_with fail
      refine HM.out.mono ?_
      rintro e w2 ⟨v2, x2, h2, rfl, ro2, hf2⟩
      have HF2 := Lib.hid hf2
      clear hf2 ro2
      go_wp2_with fail
      refine wp_loop_rounds 1 ?_
      rw [rounds_succ]
      by_cases hn0 : (0 : Int) < (n : Int)
      all_goals
        go_wp2_with fail
        refine (alive_any _).mono ?_
        rintro e w9 ⟨rfl, hf9⟩
        have HF9 := Lib.hid (ff HF2.out hf9)
        clear hf9
        go_wp2_with fail
        go_ret
        exact ⟨rfl, HF9.out⟩
  · have HLT := Lib.hid (light_any l A n cap es w hr hl hn hs false (by simp [hE]))
    clear hr hE hs
    go_enter Try.func6, Try.ntmps6
    go_wp2_with fail
    refine HLT.out.mono ?_
    rintro e w2 ⟨rfl, rfl⟩
    go_wp2_with fail
    refine (alive_any _).mono ?_
    rintro e w9 ⟨rfl, hf9⟩
    have HF9 := Lib.hid hf9
    clear hf9
    go_wp2_with fail
    go_ret
    exact ⟨rfl, HF9.out⟩
end Go.Proofs.Ytffljhieijnakaa
