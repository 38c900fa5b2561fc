import Derived.Test.YtognobpgagaamaaDoorLls
import Derived.Test.YtognobpgagaamaaDoorLlg
namespace Go.Proofs.YtognobpgagaamaaDoor
open Go.RowKit Go.Mem Go.Kwd Go.Esc

theorem gr_cut {t : Kwd.Bs} (h : 0 < t.length) (h0 : 97 ≤ (t.headD 0).toNat ∧ (t.headD 0).toNat ≤ 122) : ∃ c r, t = c :: r ∧ 97 ≤ c.toNat ∧ c.toNat ≤ 122 ∧ grT true t = (c - 32) :: r ∧ grT false t = t := by
  cases t with
  | nil => exact absurd h (by simp)
  | cons c r => exact ⟨c, r, rfl, h0.1, h0.2, rfl, rfl⟩
theorem head_take (x : Kwd.Bs) (n : Nat) (h : 1 ≤ n) : (x.take n).headD 0 = x.headD 0 := by
  cases x with
  | nil => simp
  | cons c r =>
    cases n with
    | zero => omega
    | succ n => rfl
theorem longer_walk (m n : Int) (g : Bool) (w : World) (hw : WOk w) : Calls Tryd.prog 6 #[.int .i64 m, .int .i64 n, .bool g] w fun e w' => e = .returned (.bool true) ∧ Fr w w' (fun _ => False) := by
  by_cases h : 1 ≤ m ∧ m ≤ 12 ∧ 1 ≤ n ∧ n ≤ 9
  · obtain ⟨k, hm⟩ : ∃ k : Nat, m = (k : Int) + 1 := ⟨(m - 1).toNat, by omega⟩
    obtain ⟨nn, rfl⟩ : ∃ nn : Nat, n = (nn : Int) := ⟨n.toNat, by omega⟩
    have hk : k < 12 := by omega
    have hn1 : 1 ≤ nn := by omega
    have hn9 : nn ≤ 9 := by omega
    obtain ⟨x, hx, hc⟩ := months_at w k hk
    obtain ⟨hb, h3, h9, hwhole, hthree, hshow, hout⟩ := longer_of k hk nn hn1 hn9 g x hx
    by_cases hr : nn ≤ x.length
    · obtain ⟨c, r, hcut, c1, c2, gt, gf⟩ := gr_cut (t := x.take nn) (by rw [List.length_take]; omega) (by rw [head_take x nn hn1]; exact hb)
      cases g with
      | true =>
        rw [gt] at hout
        rcases hout with h1 | ⟨h1, h2⟩
        · exact longer_ag0 m k nn w hw hm hk hn1 hn9 x hc hr h3 h9 hwhole hthree hshow c r c1 c2 hcut h1
        · exact longer_ag1 m k nn w hw hm hk hn1 hn9 x hc hr h3 h9 hwhole hthree hshow c r c1 c2 hcut h1 h2
      | false =>
        rw [gf] at hout
        rcases hout with h1 | ⟨h1, h2⟩
        · exact longer_as0 m k nn w hw hm hk hn1 hn9 x hc hr h3 h9 hwhole hthree hshow h1
        · exact longer_as1 m k nn w hw hm hk hn1 hn9 x hc hr h3 h9 hwhole hthree hshow h1 h2
    · have hr : x.length < nn := by omega
      obtain ⟨-, -, -, -, -, -, hout⟩ := longer_of k hk x.length (by omega) h9 g x hx
      obtain ⟨c, r, hcut, c1, c2, gt, gf⟩ := gr_cut (t := x.take x.length) (by rw [List.length_take]; omega) (by rw [head_take x x.length (by omega)]; exact hb)
      cases g with
      | true =>
        rw [gt] at hout
        rcases hout with h1 | ⟨h1, h2⟩
        · exact longer_cg0 m k nn w hw hm hk hn1 hn9 x hc hr h3 h9 hwhole hthree hshow c r c1 c2 hcut h1
        · exact longer_cg1 m k nn w hw hm hk hn1 hn9 x hc hr h3 h9 hwhole hthree hshow c r c1 c2 hcut h1 h2
      | false =>
        rw [gf] at hout
        rcases hout with h1 | ⟨h1, h2⟩
        · exact longer_cs0 m k nn w hw hm hk hn1 hn9 x hc hr h3 h9 hwhole hthree hshow h1
        · exact longer_cs1 m k nn w hw hm hk hn1 hn9 x hc hr h3 h9 hwhole hthree hshow h1 h2
  · have HA := Lib.hid (alive_any w hw)
    clear hw
    have h' : m < 1 ∨ (1 ≤ m ∧ 12 < m) ∨ (1 ≤ m ∧ m ≤ 12 ∧ n < 1) ∨ (1 ≤ m ∧ m ≤ 12 ∧ 1 ≤ n ∧ 9 < n) := by omega
    clear h
    rcases h' with h' | ⟨h1, h'⟩ | ⟨h1, h2, h'⟩ | ⟨h1, h2, h3, h'⟩
    all_goals
      go_enter Tryd.func6, Tryd.ntmps6
      go_wp2_with fail
      refine HA.out.mono ?_
      rintro e w2 ⟨rfl, hf⟩
      have HF := Lib.hid hf
      clear hf
      go_wp2_with fail
      go_ret
      exact ⟨rfl, HF.out⟩
end Go.Proofs.YtognobpgagaamaaDoor
