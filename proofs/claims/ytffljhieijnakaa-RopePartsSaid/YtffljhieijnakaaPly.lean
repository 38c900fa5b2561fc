import Derived.Test.YtffljhieijnakaaAli
namespace Go.Proofs.Ytffljhieijnakaa
open Go.RowKit Go.Mem Go.Rope

theorem kp3 {w a b : World} {p1 p2 p3 o1 o2 o3 : Nat} {v1 v2 v3 : Value} (h : Fr w a (fun _ => False) ∧ a.cell? ⟨p1, o1, none⟩ = some v1 ∧ a.cell? ⟨p2, o2, none⟩ = some v2 ∧ a.cell? ⟨p3, o3, none⟩ = some v3) (hf : Fr a b (fun _ => False)) :
    Fr w b (fun _ => False) ∧ b.cell? ⟨p1, o1, none⟩ = some v1 ∧ b.cell? ⟨p2, o2, none⟩ = some v2 ∧ b.cell? ⟨p3, o3, none⟩ = some v3 :=
  ⟨ff h.1 hf, hf.cell0 h.2.1, hf.cell0 h.2.2.1, hf.cell0 h.2.2.2⟩
theorem splice_kind {l : Bs} {x y : Int} {s t : Bs} {k : Int} (h : spliceD l x y s = (t, k)) (hl : l.length ≤ 20000) : t.length ≤ 20000 := by
  unfold spliceD at h
  by_cases hr : InR l x y
  · rw [if_pos hr] at h
    split at h
    · rename_i hb
      obtain ⟨rfl, rfl⟩ := Prod.mk.inj h
      obtain ⟨r1, r2, r3⟩ := hr
      rw [repl_len s (by omega) (by omega)]
      exact hb
    · obtain ⟨rfl, rfl⟩ := Prod.mk.inj h
      simp
  · rw [if_neg hr] at h
    obtain ⟨rfl, rfl⟩ := Prod.mk.inj h
    simp
/-- a call gives a rope behind changes, and its text -/
def Played (w : World) (e : Ending) (w' : World) : Prop := ∃ v x h t, e = .returned (.tuple #[v, strV t, .bool true]) ∧ RopeAt w' v x t h ∧ t.length ≤ 20000 ∧ Fr w w' (fun _ => False)
def PInv2 (w : World) (n : Nat) (v0 v7 v9 : Value) (wr : World) : Prop := ∃ (k : Nat) (x : Value) (h : Nat) (t : Bs), k ≤ n ∧ v9 = .int .i64 (k : Int) ∧ v0 = strV t ∧ RopeAt wr v7 x t h ∧ t.length ≤ 20000 ∧ Fr w wr (fun _ => False)

set_option maxHeartbeats 2000000 in
theorem play_any (l : Bs) (A : Option Addr) (n cap : Nat) (es : List Ed) (w : World) (hr : EdsAt w A n es) (hE : LightE l es) (hl : l.length ≤ 20000) :
    Calls Try.prog 18 #[strV l, .slice A n cap] w (Played w) := by
  have hlen := hr.1
  obtain ⟨-, hn40, hes⟩ := hE
  have HM := Lib.hid (Make_any w l l 0 (by unfold makeD; rw [if_pos hl]))
  have HR := Lib.hid hr
  have HS := Lib.hid hes
  clear hr hes
  go_enter Try.func18, Try.ntmps18
  go_wp2_with fail
  refine HM.out.mono ?_
  rintro e w2 ⟨v2, x2, h2, rfl, ro2, hf2⟩
  have HF2 := Lib.hid hf2
  have HRO := Lib.hid ro2
  clear hf2 ro2
  go_wp2_with fail
  go_loopw [0, 7, 9] (fun v0 v7 v9 wr => PInv2 w n v0 v7 v9 wr) (fun _ _ v9 _ => n - (intOf v9).toNat)
  case atStart => exact ⟨0, x2, h2, l, Nat.zero_le _, rfl, rfl, HRO.out, hl, HF2.out⟩
  case round =>
    obtain ⟨k, x, h, t, hk, rfl, rfl, ro, htl, hf⟩ := hrel
    have HF := Lib.hid hf
    by_cases hlt : k < n
    · obtain ⟨b, off, ed, rfl, he, c0, c1, c2⟩ := (HR.out.keep hf).at_ hlt
      have hel := HS.out ed (List.mem_of_getElem? he)
      obtain ⟨⟨t5, k5⟩, hsp⟩ : ∃ q, spliceD t ed.f ed.t ed.s = q := ⟨_, rfl⟩
      have hkd := splice_kind hsp htl
      have HC := Lib.hid (fun W (hW : Fr wr W (fun _ => False)) => Splice_any (ro.keep hW) htl ed.f ed.t ed.s hel t5 k5 hsp)
      have HC2 := Lib.hid (fun W => rSplice_any t ed.f ed.t ed.s W htl hel t5 k5 hsp)
      have hS0 : Hid (Fr wr wr (fun _ => False) ∧ wr.cell? ⟨b, off + k * 3, none⟩ = some (.int .i64 ed.f) ∧ wr.cell? ⟨b, off + k * 3 + 1, none⟩ = some (.int .i64 ed.t) ∧ wr.cell? ⟨b, off + k * 3 + 2, none⟩ = some (strV ed.s)) := Lib.hid ⟨Fr.refl _ _, c0, c1, c2⟩
      have HRO := Lib.hid ro
      have j0 : (0 : Int) ≤ (k : Int) := by omega
      have j1 : (k : Int) < (n : Int) := by omega
      have b40 : (k : Int) ≤ 40 := by omega
      clear ro he hsp hf c0 c1 c2
      go_wp2_with fail
      go_region_held3 (fun w' => Fr wr w' (fun _ => False) ∧ w'.cell? ⟨b, off + k * 3, none⟩ = some (.int .i64 ed.f) ∧ w'.cell? ⟨b, off + k * 3 + 1, none⟩ = some (.int .i64 ed.t) ∧ w'.cell? ⟨b, off + k * 3 + 2, none⟩ = some (strV ed.s))
        (first | with_reducible exact kp3 hS0.out (Fr.drew _ _) | with_reducible exact kp3 hS hf5 | with_reducible assumption)
        ((go_at_call 13; rename_i hS _ _; refine (HC.out _ hS.1).mono ?_; rintro e w5 ⟨v5, x5, h5, rfl, ro5, hf5⟩))
      rename_i hS
      have HS5 := Lib.hid hS
      have HR5 := Lib.hid ro5
      clear hS ro5
      go_wp2_with fail
      go_region_held3 (fun w' => Fr wr w' (fun _ => False) ∧ w'.cell? ⟨b, off + k * 3, none⟩ = some (.int .i64 ed.f) ∧ w'.cell? ⟨b, off + k * 3 + 1, none⟩ = some (.int .i64 ed.t) ∧ w'.cell? ⟨b, off + k * 3 + 2, none⟩ = some (strV ed.s))
        (first | with_reducible exact kp3 HS5.out (Fr.drew _ _) | with_reducible exact kp3 hS hf6 | with_reducible assumption)
        ((go_at_call 14; rename_i hS _ _; refine (HC2.out _).mono ?_; rintro e w6 ⟨rfl, hf6⟩))
      rename_i hS
      have HS6 := Lib.hid hS
      have HR6 := Lib.hid (show RopeAt w6 v5 x5 t5 h5 from HR5.out.keep ((Fr.drew _ _).trans hf6 (fun _ _ h => h) (fun _ _ h => h)))
      clear hS
      by_cases hk0 : k5 = 0
      · have e0 : ((k5 : Int) == 0) = true := by simp [hk0]
        go_wp2_with fail
        go_roundw
        case measure => simp [intOf]; omega
        case rel => exact ⟨k + 1, x5, h5, t5, by omega, by go_num, rfl, HR6.out, hkd, ff HF.out HS6.out.1⟩
      · have e0 : ((k5 : Int) == 0) = false := by simp [hk0]
        go_wp2_with fail
        go_roundw
        case measure => simp [intOf]; omega
        case rel => exact ⟨k + 1, x, h, t, by omega, by go_num, rfl, HRO.out.keep HS6.out.1, htl, ff HF.out HS6.out.1⟩
    · have HRO := Lib.hid ro
      clear ro hf
      go_wp2_with fail
      go_ret3
      exact ⟨_, x, h, t, rfl, HRO.out, htl, HF.out⟩
end Go.Proofs.Ytffljhieijnakaa
