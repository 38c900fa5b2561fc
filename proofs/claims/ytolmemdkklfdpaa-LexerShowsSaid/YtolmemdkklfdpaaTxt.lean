import Derived.Test.YtolmemdkklfdpaaIsq
import Derived.SliceStrings
namespace Go.Proofs.Ytolmemdkklfdpaa
open Go.RowKit Go.Mem Go.Lxr

/-- a slice of texts at a place -/
theorem strs_at {w : World} {A : Option Addr} {n : Nat} {ls : List Bs} (h : Rd w 1 A n (ls.map strV)) {k : Nat} (hk : k < n) :
    ∃ b off x, A = some ⟨b, off, none⟩ ∧ ls[k]? = some x ∧ w.cell? ⟨b, off + k, none⟩ = some (strV x) := by
  obtain ⟨b, off, u, e, hu, hc⟩ := h.at_ hk
  rw [List.getElem?_map] at hu
  obtain ⟨x, hx, rfl⟩ := Option.map_eq_some_iff.1 hu
  exact ⟨b, off, x, e, hx, hc⟩
theorem strs_len {w : World} {A : Option Addr} {n : Nat} {ls : List Bs} (h : Rd w 1 A n (ls.map strV)) : ls.length = n := by have := h.1; simpa using this
theorem strs_fr {w w' : World} {A : Option Addr} {n : Nat} {ls : List Bs} (h : Rd w 1 A n (ls.map strV)) (hf : Fr w w' (fun _ => False)) : Rd w' 1 A n (ls.map strV) := Rd.fr h hf (fun _ _ _ _ h => h)
/-- what light asks -/
def Light (n : Nat) (ls : List Bs) : Prop := n ≤ 40 ∧ ∀ x ∈ ls, x.length ≤ 300
instance (n : Nat) (ls : List Bs) : Decidable (Light n ls) := by unfold Light; infer_instance
theorem light_any (A : Option Addr) (n cap : Nat) (ls : List Bs) (w : World) (hr : Rd w 1 A n (ls.map strV)) (hn : n ≤ maxLen) (hs : ∀ x ∈ ls, x.length ≤ maxLen) (x : Bool) (hx : x = true ↔ Light n ls) :
    Calls Try.prog 14 #[.slice A n cap] w fun e w' => e = .returned (.bool x) ∧ w = w' := by
  unfold maxLen at hn hs
  have HX := Lib.hid hx
  have HR := Lib.hid hr
  have HS := Lib.hid hs
  clear hx hr hs
  by_cases h30 : 40 < n
  · have hf : x = false := by
      rw [Bool.eq_false_iff]
      intro e
      have := (HX.out.1 e).1
      omega
    subst hf
    go_enter Try.func14, Try.ntmps14
    go_wp2_with fail
    go_ret
    exact ⟨rfl, rfl⟩
  · have h30' : n ≤ 40 := by omega
    go_enter Try.func14, Try.ntmps14
    go_wp2_with fail
    go_loop [3] (fun v3 => ∃ k : Nat, k ≤ n ∧ v3 = .int .i64 k ∧ ∀ x ∈ ls.take k, x.length ≤ 300) (fun v3 => n - (intOf v3).toNat)
    case atStart => exact ⟨0, Nat.zero_le _, rfl, by simp⟩
    case round =>
      obtain ⟨k, hk, rfl, hpre⟩ := hrel
      have HP := Lib.hid hpre
      clear hpre
      by_cases hlt : k < n
      · obtain ⟨b1, o1, x1, rfl, hx1, hc1⟩ := strs_at HR.out hlt
        have hsz := str_size x1
        have hle := HS.out x1 (List.mem_of_getElem? hx1)
        have HX1 := Lib.hid hx1
        clear hx1
        by_cases hbig : 300 < x1.length
        · have hf : x = false := by
            rw [Bool.eq_false_iff]
            intro e
            have := (HX.out.1 e).2 x1 (List.mem_of_getElem? HX1.out)
            omega
          subst hf
          go_wp2_with fail
          go_ret
          exact ⟨rfl, rfl⟩
        · have hbig' : x1.length ≤ 300 := by omega
          go_wp2_with fail
          go_round
          case rel => exact ⟨k + 1, by omega, by go_num, by
            rw [take_snoc' HX1.out]
            intro y hy
            rcases List.mem_append.1 hy with hy | hy
            · exact HP.out y hy
            · simp at hy; rw [hy]; exact hbig'⟩
          case measure => simp [intOf]; omega
      · have hf : x = true := HX.out.2 ⟨h30', by
          have := HP.out
          rwa [List.take_of_length_le (by rw [strs_len HR.out]; omega)] at this⟩
        subst hf
        go_wp2_with fail
        go_ret
        exact ⟨rfl, rfl⟩
/-- a slice of strings that came in -/
theorem strs_in {H : Type} {enc : TypeId × Value → H} {w : World} {base fuel : Nat} {spare : Nat → Bool} {held : Bool} {a : Option Addr} {len cap : Nat} {x : DataW H × List MemPlace}
    (h : DataW.trod enc Try.prog w base spare held fuel 33 [Value.slice a len cap] = some x) :
    ∃ ls : List Bs, Rd w 1 a len (ls.map strV) ∧ len ≤ maxLen ∧ (∀ y ∈ ls, y.length ≤ maxLen) := by
  rcases Go.ChangeShapes.open_strings Try.underlying33 Try.underlying9 (by kernel_rfl) h with ⟨hcs, hx⟩ | ⟨ad, l, c, ss, hcs, _, hl, hm, hz, hx, hcell, hwz⟩
  · simp at hcs
    obtain ⟨rfl, rfl, rfl⟩ := hcs
    exact ⟨[], Rd.zero _ _ _, Nat.zero_le _, by simp⟩
  · simp at hcs
    obtain ⟨rfl, rfl, rfl⟩ := hcs
    have hlz : len ≤ ss.length := by
      rw [hz]
      split
      · exact hl
      · exact Nat.le_refl _
    have htl : (ss.take len).length = len := by rw [List.length_take]; exact Nat.min_eq_left hlz
    refine ⟨(ss.take len).map fun s => s.data.toList, ⟨by rw [List.length_map, List.length_map, htl]; omega, fun hpos => ?_⟩, by omega, ?_⟩
    · have h0 := hcell 0 (by omega)
      have had : ∃ b off, ad = ⟨b, off, none⟩ := by
        obtain ⟨b, off, spot⟩ := ad
        cases spot with
        | none => exact ⟨b, off, rfl⟩
        | some s =>
          exfalso
          simp [Addr.add, World.cell?] at h0
          split at h0 <;> simp at h0
      obtain ⟨b, off, rfl⟩ := had
      refine ⟨b, off, rfl, fun j u hu => ?_⟩
      rw [List.map_map, List.getElem?_map] at hu
      obtain ⟨z, hz1, hz2⟩ := Option.map_eq_some_iff.1 hu
      obtain ⟨hj, hz3⟩ := List.getElem?_eq_some_iff.1 hz1
      rw [htl] at hj
      have hc := hcell j (by omega)
      have hadd : (⟨b, off, none⟩ : Addr).add j = ⟨b, off + j, none⟩ := by unfold Addr.add; split <;> simp_all
      rw [hadd] at hc
      rw [hc, ← hz2, ← hz3, List.getElem_take, List.getD_eq_getElem?_getD, List.getElem?_eq_getElem (by omega)]
      show _ = some (strV _)
      rw [← strV_of]
      rfl
    · intro y hy
      obtain ⟨s, hs, rfl⟩ := List.mem_map.1 hy
      have := hwz s (List.mem_of_mem_take hs)
      rw [bytes_len]
      exact this
/-- does a text of the slice hold a quote? -/
def quoteAny (ls : List Bs) : Bool := ls.any (fun s => s.contains 34)
abbrev isInV : Value := .func (.func 22) #[strV quoteS] #[]
theorem indexFunc_any (A : Option Addr) (n c : Nat) (ls : List Bs) (w : World) (hr : Rd w 1 A n (ls.map strV)) (hn : n ≤ 1000000) :
    Calls Try.prog 29 #[.slice A n c, isInV] w fun e w' => (∃ o : Int, e = .returned (.int .i64 o) ∧ decide (0 ≤ o) = quoteAny ls) ∧ Fr w w' (fun _ => False) := by
  have HR := Lib.hid hr
  have HL := Lib.hid (strs_len hr)
  clear hr
  go_enter Try.func29, Try.ntmps29
  go_wp2_with fail
  go_loopg [5, 8] n (fun g _ v8 wr => ∃ k : Nat, k + g = n ∧ v8 = .int .i64 (k : Int) ∧ (∀ x ∈ ls.take k, x.contains 34 = false) ∧ Fr w wr (fun _ => False))
  case atStart => exact ⟨0, by omega, rfl, by simp, Fr.refl _ _⟩
  case round =>
    obtain ⟨k, hk, rfl, hpre, hf⟩ := hrel
    have HP := Lib.hid hpre
    have HF := Lib.hid hf
    clear hpre
    by_cases hlt : k < n
    · obtain ⟨b1, o1, x1, rfl, hx1, hc1⟩ := strs_at (strs_fr HR.out hf) hlt
      have HX1 := Lib.hid hx1
      have i0 : (0 : Int) ≤ (k : Int) := by omega
      have i1 : (k : Int) < (n : Int) := by omega
      obtain ⟨q, hq⟩ : ∃ q, x1.contains 34 = q := ⟨_, rfl⟩
      have HI := Lib.hid (isIn_quote x1 wr q hq)
      have HQ := Lib.hid hq
      clear hx1 hq hf
      cases q with
      | true =>
        go_wp2_with fail
        refine HI.out.mono ?_
        rintro e w2 ⟨rfl, hf2⟩
        have HF2 := Lib.hid (ff HF.out hf2)
        clear hf2
        go_wp2_with fail
        go_ret
        refine ⟨⟨_, rfl, ?_⟩, HF2.out⟩
        have : quoteAny ls = true := List.any_eq_true.2 ⟨x1, List.mem_of_getElem? HX1.out, HQ.out⟩
        rw [this]
        exact decide_eq_true (by omega)
      | false =>
        go_wp2_with fail
        refine HI.out.mono ?_
        rintro e w2 ⟨rfl, hf2⟩
        have HF2 := Lib.hid (ff HF.out hf2)
        clear hf2
        go_wp2_with fail
        go_roundg (n - (k + 1))
        case measure => omega
        case rel => exact ⟨k + 1, by omega, by go_num, by
          rw [take_snoc' HX1.out]
          intro y hy
          rcases List.mem_append.1 hy with hy | hy
          · exact HP.out y hy
          · simp at hy; rw [hy]; exact HQ.out, HF2.out⟩
    · clear hf
      go_wp2_with fail
      go_ret
      refine ⟨⟨-1, rfl, ?_⟩, HF.out⟩
      have hp := HP.out
      rw [List.take_of_length_le (by rw [HL.out]; omega)] at hp
      have : quoteAny ls = false := List.any_eq_false.2 (fun x hx => by rw [hp x hx]; exact Bool.false_ne_true)
      rw [this]
      rfl
theorem containsFunc_any (A : Option Addr) (n c : Nat) (ls : List Bs) (w : World) (hr : Rd w 1 A n (ls.map strV)) (hn : n ≤ 1000000) (x : Bool) (hx : quoteAny ls = x) :
    Calls Try.prog 21 #[.slice A n c, isInV] w fun e w' => e = .returned (.bool x) ∧ Fr w w' (fun _ => False) := by
  have HI := Lib.hid (indexFunc_any A n c ls w hr hn)
  have HX := Lib.hid hx
  clear hr hx
  go_enter Try.func21, Try.ntmps21
  go_wp2_with fail
  refine HI.out.mono ?_
  rintro e w2 ⟨⟨o, rfl, ho⟩, hf2⟩
  have HF2 := Lib.hid hf2
  have HO := Lib.hid ho
  clear hf2 ho
  go_wp2_with fail
  go_ret
  exact ⟨by rw [← HX.out, ← HO.out]; rfl, HF2.out⟩
end Go.Proofs.Ytolmemdkklfdpaa
