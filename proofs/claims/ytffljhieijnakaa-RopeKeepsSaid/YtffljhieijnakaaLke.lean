import Derived.Test.YtffljhieijnakaaPly
namespace Go.Proofs.Ytffljhieijnakaa
open Go.RowKit Go.Mem Go.Rope

set_option maxHeartbeats 4000000 in
set_option maxRecDepth 100000 in
theorem keeps_walk (l : Bs) (A : Option Addr) (n cap : Nat) (es : List Ed) (w : World) (hr : EdsAt w A n es) (hl : l.length ≤ maxLen) (hn : n ≤ maxLen) (hs : ∀ e ∈ es, e.s.length ≤ maxLen) :
    Calls Try.prog 8 #[strV l, .slice A n cap] w fun e w' => e = .returned (.bool true) ∧ Fr w w' (fun _ => False) := by
  have hlen := hr.1
  have hz := str_size l
  by_cases hE : LightE l es
  · have HLT := Lib.hid (light_any l A n cap es w hr hl hn hs true (by simp [hE]))
    obtain ⟨hl1, hn40, hes⟩ := hE
    have HR := Lib.hid hr
    have HS := Lib.hid hes
    clear hr hes hs
    by_cases hbig : l.length ≤ 20000
    · have HM := Lib.hid (Make_any w l l 0 (by unfold makeD; rw [if_pos hbig]))
      have t0 : ¬ ((l.length : Int) > 20000) := by omega
      have t0' : ¬ (20000 < (l.length : Int)) := by omega
      go_enter Try.func8, Try.ntmps8
      go_wp2_with fail
      refine HLT.out.mono ?_
      rintro e w2 ⟨rfl, rfl⟩
      go_wp2_with fail
      refine HM.out.mono ?_
      rintro e w2 ⟨v2, x2, h2, rfl, ro2, hf2⟩
      have HF2 := Lib.hid hf2
      have HRO2 := Lib.hid ro2
      clear hf2 ro2
      go_wp2_with fail
      go_loopw [7] (fun v7 wr => ∃ k : Nat, k ≤ n ∧ v7 = .int .i64 (k : Int) ∧ Fr w2 wr (fun _ => False)) (fun v7 _ => n - (intOf v7).toNat)
      case atStart => exact ⟨0, Nat.zero_le _, rfl, Fr.refl _ _⟩
      case round =>
        obtain ⟨k, hk, rfl, hf⟩ := hrel
        clear hl1 hl t0 t0' HM HLT
        by_cases hlt : k < n
        · have ro := HRO2.out.keep hf
          obtain ⟨b, off, ed, rfl, he, c0, c1, c2⟩ := (HR.out.keep (ff HF2.out hf)).at_ hlt
          have hel := HS.out ed (List.mem_of_getElem? he)
          obtain ⟨⟨t5, k5⟩, hsp⟩ : ∃ q, spliceD l ed.f ed.t ed.s = q := ⟨_, rfl⟩
          have HC := Lib.hid (fun W (hW : Fr wr W (fun _ => False)) => Splice_any (ro.keep hW) hbig ed.f ed.t ed.s hel t5 k5 hsp)
          have hS0 : Hid (Fr wr wr (fun _ => False) ∧ wr.cell? ⟨b, off + k * 3, none⟩ = some (.int .i64 ed.f) ∧ wr.cell? ⟨b, off + k * 3 + 1, none⟩ = some (.int .i64 ed.t) ∧ wr.cell? ⟨b, off + k * 3 + 2, none⟩ = some (strV ed.s)) := Lib.hid ⟨Fr.refl _ _, c0, c1, c2⟩
          have j0 : (0 : Int) ≤ (k : Int) := by omega
          have j1 : (k : Int) < (n : Int) := by omega
          have b40 : (k : Int) ≤ 40 := by omega
          have HF := Lib.hid hf
          clear ro he hsp hf c0 c1 c2
          go_wp2_with fail
          go_region_held3 (fun w' => Fr wr w' (fun _ => False) ∧ w'.cell? ⟨b, off + k * 3, none⟩ = some (.int .i64 ed.f) ∧ w'.cell? ⟨b, off + k * 3 + 1, none⟩ = some (.int .i64 ed.t) ∧ w'.cell? ⟨b, off + k * 3 + 2, none⟩ = some (strV ed.s))
            (first | with_reducible exact kp3 hS0.out (Fr.drew _ _) | with_reducible exact kp3 hS hf5 | with_reducible assumption)
            ((go_at_call 13; rename_i hS _ _; refine (HC.out _ hS.1).mono ?_; rintro e w5 ⟨v5, x5, h5, rfl, ro5, hf5⟩))
          rename_i hS
          have HS5 := Lib.hid hS.1
          clear hS ro5
          go_wp2_with fail
          go_roundw
          case measure => simp [intOf]; omega
          case rel => exact ⟨k + 1, by omega, by go_num, ff HF.out HS5.out⟩
        · have HF := Lib.hid (ff HF2.out hf)
          have HRO := Lib.hid (HRO2.out.keep hf)
          have HSP := Lib.hid (Splice_any (RopeAt.nil wr) (by decide) 0 0 [97] (by decide) [97] 0 (by decide +kernel))
          clear hf HF2 HRO2
          go_wp2_with fail
          refine HSP.out.mono ?_
          rintro e w3 ⟨v3, x3, h3, rfl, ro3, hf3⟩
          have HF3 := Lib.hid (ff HF.out hf3)
          have HRO3 := Lib.hid (HRO.out.keep hf3)
          have HN3 := Lib.hid ro3
          clear hf3 ro3
          go_wp2_with fail
          refine (Line_any (RopeAt.nil w3) (by decide) 0 [] 0 (by decide +kernel)).mono ?_
          rintro e w4 ⟨rfl, hf4⟩
          have HF4 := Lib.hid (ff HF3.out hf4)
          have HRO4 := Lib.hid (HRO3.out.keep hf4)
          have HN4 := Lib.hid (HN3.out.keep hf4)
          clear hf4
          go_wp2_with fail
          refine (Text_any HRO4.out hbig).mono ?_
          rintro e w5 ⟨rfl, hf5⟩
          have HF5 := Lib.hid (ff HF4.out hf5)
          have HN5 := Lib.hid (HN4.out.keep hf5)
          clear hf5
          go_wp2_with fail
          refine (Text_any (RopeAt.nil w5) (by decide)).mono ?_
          rintro e w6 ⟨rfl, hf6⟩
          have HF6 := Lib.hid (ff HF5.out hf6)
          have HN6 := Lib.hid (HN5.out.keep hf6)
          clear hf6
          go_wp2_with fail
          refine (Len_any (RopeAt.nil w6)).mono ?_
          rintro e w7 ⟨rfl, rfl⟩
          go_wp2_with fail
          refine (Lines_any (RopeAt.nil w6) (by decide)).mono ?_
          rintro e w7 ⟨rfl, rfl⟩
          rw [feeds_nil]
          go_wp2_with fail
          refine (Height_any (RopeAt.nil w6)).mono ?_
          rintro e w7 ⟨rfl, rfl⟩
          go_wp2_with fail
          refine (Text_any HN6.out (by decide)).mono ?_
          rintro e w7 ⟨rfl, hf7⟩
          have HF7 := Lib.hid (ff HF6.out hf7)
          clear hf7
          go_wp2_with fail
          refine (alive_any _).mono ?_
          rintro e w9 ⟨rfl, hf9⟩
          have HF9 := Lib.hid (ff HF7.out hf9)
          clear hf9
          go_wp2_with fail
          go_ret
          exact ⟨rfl, HF9.out⟩
    · have t0 : ((l.length : Int) > 20000) := by omega
      have t0' : (20000 < (l.length : Int)) := by omega
      go_enter Try.func8, Try.ntmps8
      go_wp2_with fail
      refine HLT.out.mono ?_
      rintro e w2 ⟨rfl, rfl⟩
      go_wp2_with fail
      refine (alive_any _).mono ?_
      rintro e w9 ⟨rfl, hf9⟩
      have HF9 := Lib.hid hf9
      clear hf9
      go_wp2_with fail
      go_ret
      exact ⟨rfl, HF9.out⟩
  · have HLT := Lib.hid (light_any l A n cap es w hr hl hn hs false (by simp [hE]))
    clear hr hE hs
    go_enter Try.func8, Try.ntmps8
    go_wp2_with fail
    refine HLT.out.mono ?_
    rintro e w2 ⟨rfl, rfl⟩
    go_wp2_with fail
    refine (alive_any _).mono ?_
    rintro e w9 ⟨rfl, hf9⟩
    have HF9 := Lib.hid hf9
    clear hf9
    go_wp2_with fail
    go_ret
    exact ⟨rfl, HF9.out⟩
end Go.Proofs.Ytffljhieijnakaa
