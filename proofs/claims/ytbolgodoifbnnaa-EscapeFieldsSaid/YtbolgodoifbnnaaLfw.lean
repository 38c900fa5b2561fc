import Derived.Test.YtbolgodoifbnnaaRff
import Derived.Test.YtbolgodoifbnnaaTxt
namespace Go.Proofs.Ytbolgodoifbnnaa
open Go.RowKit Go.Mem Go.Esc

/-- what both Fields answer of a text -/
def FldAny (vs : List Bs) (k : Int) (w : World) (e : Ending) (w' : World) : Prop := ∃ A n c, e = .returned (.tuple #[.slice A n c, .int .i64 k]) ∧ n ≤ maxLen ∧ Rd w' 1 A n (vs.map strV) ∧ (∀ a, A = some a → w.heap.size ≤ a.block) ∧ Fr w w' (fun _ => False)
theorem strs_rd {w : World} {B : Nat} {v : Value} {vs : List Bs} (h : Strs w B v vs) : ∃ A n c, v = .slice A n c ∧ n ≤ maxLen ∧ Rd w 1 A n (vs.map strV) ∧ (∀ a, A = some a → B ≤ a.block) := by
  obtain ⟨A, c, rfl, hc, hm, hrd, -, ha⟩ := own_rd h
  exact ⟨A, _, c, rfl, by omega, hrd, fun a e => by obtain ⟨g, rfl, -, hb, -⟩ := ha a e; exact hb⟩
theorem fld_any {g : Got (List Bs)} : ∃ vs k, ∀ w e w', FldL g w e w' → FldAny vs k w e w' := by
  cases g with
  | err k =>
    refine ⟨[], k, ?_⟩
    rintro w e w' ⟨hf, rfl⟩
    exact ⟨none, 0, 0, rfl, Nat.zero_le _, Rd.zero _ _ _, (fun a e => by cases e), hf⟩
  | got vs r =>
    refine ⟨vs, 0, ?_⟩
    rintro w e w' ⟨hf, v, rfl, hs⟩
    obtain ⟨A, n, c, rfl, h1, h2, h3⟩ := strs_rd hs
    exact ⟨A, n, c, rfl, h1, h2, h3, hf⟩
theorem fields_walk (s : ByteArray) (A : Option Addr) (n cap : Nat) (ls : List Bs) (W : World) (hs : s.size ≤ maxLen) (hr : Rd W 1 A n (ls.map strV)) (hn : n ≤ maxLen) (hle : ∀ y ∈ ls, y.length ≤ maxLen) :
    Calls Try.prog 4 #[.string s, .slice A n cap] W fun e w' => e = .returned (.bool true) ∧ Fr W w' (fun _ => False) := by
  have HLI := Lib.hid (light_any A n cap ls W hr hn hle)
  have HR := Lib.hid hr
  unfold maxLen at hs
  clear hr hn hle
  by_cases h1 : 500 < s.size
  · go_enter Try.func4, Try.ntmps4
    go_wp2_with fail
    refine (alive_any W).mono ?_
    rintro e w2 ⟨rfl, hf2⟩
    have HF2 := Lib.hid hf2
    clear hf2
    go_wp2_with fail
    go_ret
    exact ⟨rfl, HF2.out⟩
  · have h1' : s.size ≤ 500 := by omega
    by_cases hL : Light n ls
    · have HLT := Lib.hid (HLI.out true ⟨fun _ => hL, fun _ => rfl⟩)
      have HLL := Lib.hid hL
      have HJ := Lib.hid (fun (w : World) (h : Fr W w (fun _ => False)) => Join_any A n cap ls w (HR.out.fr h (fun _ _ _ _ h => h)) hL)
      have HJ2 := Lib.hid (fun (w : World) (h : Fr W w (fun _ => False)) => rJoin_any A n cap ls w (HR.out.fr h (fun _ _ _ _ h => h)) hL)
      obtain ⟨jl, hjl⟩ : ∃ jl, joinL ls = jl := ⟨_, rfl⟩
      rw [hjl] at HJ HJ2
      have eq1 : (jl == jl) = true := by simp
      obtain ⟨vs, k, hF⟩ := fld_any (g := fieldsD s.data.toList)
      have HFA := Lib.hid (fun W => (Fields_any s W (by omega)).mono (fun e w' h => hF W e w' h))
      have HFB := Lib.hid (fun W => (rFields_any s W (by omega)).mono (fun e w' h => hF W e w' h))
      have eq4 : (k == k) = true := by simp
      clear hF hjl hL h1
      go_enter Try.func4, Try.ntmps4
      go_wp2_with fail
      refine HLT.out.mono ?_
      rintro e w2 ⟨rfl, rfl⟩
      go_wp2_with fail
      refine (HFA.out _).mono ?_
      rintro e w2 ⟨A2, n2, c2, rfl, hm2, hr2, hb2, hf2⟩
      have HF2 := Lib.hid hf2
      have HR2 := Lib.hid hr2
      have HM2 := Lib.hid hm2
      have HB2 := Lib.hid hb2
      clear hf2 hr2 hm2 hb2
      go_wp2_with fail
      refine (HFB.out _).mono ?_
      rintro e w3 ⟨A3, n3, c3, rfl, hm3, hr3, hb3, hf3⟩
      have HF3 := Lib.hid (ff HF2.out hf3)
      have HR2' := Lib.hid (HR2.out.fr hf3 (fun _ _ _ _ h => h))
      have HR3 := Lib.hid hr3
      clear hf3 hr3 hm3 hb3
      go_wp2_with fail
      refine (rTexts_any A2 A3 n2 n3 c2 c3 vs vs w3 HR2'.out HR3.out HM2.out).mono ?_
      rintro e w4 ⟨rfl, q, rfl⟩
      rw [show decide (vs = vs) = true by simp]
      have F4 := ff HF3.out (Fr.drewN w3 q (fun _ => False))
      have HF4 := Lib.hid F4
      have HJ' := Lib.hid (HJ.out _ F4)
      clear F4
      go_wp2_with fail
      refine HJ'.out.mono ?_
      rintro e w5 ⟨rfl, hf5⟩
      have HF5 := Lib.hid (ff HF4.out hf5)
      have HJ2' := Lib.hid (HJ2.out _ (ff HF4.out hf5))
      clear hf5
      go_wp2_with fail
      refine HJ2'.out.mono ?_
      rintro e w6 ⟨rfl, hf6⟩
      have HF6 := Lib.hid (ff HF5.out hf6)
      clear hf6
      go_wp2_with fail
      refine (alive_any _).mono ?_
      rintro e w7 ⟨rfl, hf7⟩
      have HF7 := Lib.hid (ff HF6.out hf7)
      clear hf7
      go_wp2_with fail
      go_ret
      exact ⟨rfl, HF7.out⟩
    · have HLT := Lib.hid (HLI.out false ⟨(fun h => by cases h), fun h => absurd h hL⟩)
      clear hL h1
      go_enter Try.func4, Try.ntmps4
      go_wp2_with fail
      refine HLT.out.mono ?_
      rintro e w2 ⟨rfl, rfl⟩
      go_wp2_with fail
      refine (alive_any _).mono ?_
      rintro e w2 ⟨rfl, hf2⟩
      have HF2 := Lib.hid hf2
      clear hf2
      go_wp2_with fail
      go_ret
      exact ⟨rfl, HF2.out⟩
end Go.Proofs.Ytbolgodoifbnnaa
