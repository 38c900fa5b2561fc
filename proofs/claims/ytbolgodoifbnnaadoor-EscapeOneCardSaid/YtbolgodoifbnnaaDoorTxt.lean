import Derived.Test.YtbolgodoifbnnaaDoorAli
import Derived.SliceStrings
namespace Go.Proofs.YtbolgodoifbnnaaDoor
open Go.RowKit Go.Mem Go.Esc

/-- a slice of texts at a place -/
theorem strs_at {w : World} {A : Option Addr} {n : Nat} {ls : List Bs} (h : Rd w 1 A n (ls.map strV)) {k : Nat} (hk : k < n) :
    ∃ b off x, A = some ⟨b, off, none⟩ ∧ ls[k]? = some x ∧ w.cell? ⟨b, off + k, none⟩ = some (strV x) := by
  obtain ⟨b, off, u, e, hu, hc⟩ := h.at_ hk
  rw [List.getElem?_map] at hu
  obtain ⟨x, hx, rfl⟩ := Option.map_eq_some_iff.1 hu
  exact ⟨b, off, x, e, hx, hc⟩
theorem strs_len {w : World} {A : Option Addr} {n : Nat} {ls : List Bs} (h : Rd w 1 A n (ls.map strV)) : ls.length = n := by have := h.1; simpa using this
theorem strV_ne {x y : Bs} (h : x ≠ y) : (x == y) = false := by simpa using h
theorem rTexts_any (A B : Option Addr) (n m ca cb : Nat) (la lb : List Bs) (w : World) (ha : Rd w 1 A n (la.map strV)) (hb : Rd w 1 B m (lb.map strV)) (hn : n ≤ maxLen) :
    Calls Tryd.prog 17 #[.slice A n ca, .slice B m cb] w fun e w' => e = .returned (.bool (decide (la = lb))) ∧ ∃ q, w' = w.drewN q := by
  unfold maxLen at hn
  have hla := strs_len ha
  have hlb := strs_len hb
  obtain ⟨x, hx⟩ : ∃ x, decide (la = lb) = x := ⟨_, rfl⟩
  rw [hx]
  by_cases hnm : n = m
  · subst hnm
    have HA := Lib.hid ha
    have HB := Lib.hid hb
    have HX := Lib.hid hx
    have HLA := Lib.hid hla
    have HLB := Lib.hid hlb
    clear ha hb hx hla hlb
    have e0 : ((n : Int) != (n : Int)) = false := by simp
    go_enter Tryd.func17, Tryd.ntmps17
    go_wp2_with fail
    go_loopw [5] (fun v5 wr => ∃ k : Nat, k ≤ n ∧ v5 = .int .i64 k ∧ la.take k = lb.take k ∧ ∃ q, wr = w.drewN q) (fun v5 _ => n - (intOf v5).toNat)
    case atStart => exact ⟨0, Nat.zero_le _, rfl, rfl, 0, rfl⟩
    case round =>
      obtain ⟨k, hk, rfl, hpre, q, hwq⟩ := hrel
      have HW := Lib.hid hwq
      have HP := Lib.hid hpre
      have HA2 : Rd wr 1 A n (la.map strV) := by rw [hwq]; exact HA.out
      have HB2 : Rd wr 1 B n (lb.map strV) := by rw [hwq]; exact HB.out
      have HA2 := Lib.hid HA2
      have HB2 := Lib.hid HB2
      clear hwq hpre e0
      by_cases hlt : k < n
      · obtain ⟨b1, o1, x1, rfl, hx1, hc1⟩ := strs_at HA2.out hlt
        obtain ⟨b2, o2, x2, rfl, hx2, hc2⟩ := strs_at HB2.out hlt
        have HX1 := Lib.hid hx1
        have HX2 := Lib.hid hx2
        have h1 : (k : Int) < (n : Int) := by omega
        have h2 : (0 : Int) ≤ (k : Int) := by omega
        clear hx1 hx2
        by_cases hxx : x1 = x2
        · subst hxx
          have e1 : (x1 == x1) = true := by simp
          go_wp2_with fail
          go_quiet (fail)
          go_wp2_with fail
          go_roundw
          case rel => exact ⟨k + 1, by omega, by go_num, by rw [take_snoc' HX1.out, take_snoc' HX2.out, HP.out], _, by rw [HW.out, World.drewN_drewN]⟩
          case measure => simp [intOf]; omega
        · have e1 : (x1 == x2) = false := strV_ne hxx
          have hf : x = false := by
            rw [← HX.out, decide_eq_false_iff_not]
            intro e
            have h1 := HX1.out
            rw [e, HX2.out] at h1
            exact hxx (Option.some.inj h1).symm
          subst hf
          clear hxx
          go_wp2_with fail
          go_quiet (fail)
          go_wp2_with fail
          go_ret
          exact ⟨rfl, _, by rw [HW.out, World.drewN_drewN]⟩
      · have hf : x = true := by
          rw [← HX.out, decide_eq_true_iff]
          have hp := HP.out
          rw [List.take_of_length_le (by rw [HLA.out]; omega), List.take_of_length_le (by rw [HLB.out]; omega)] at hp
          exact hp
        subst hf
        go_wp2_with fail
        go_ret
        exact ⟨rfl, _, HW.out⟩
  · have hf : x = false := by
      rw [← hx, decide_eq_false_iff_not]
      intro e
      exact hnm (by rw [← hla, ← hlb, e])
    subst hf
    have e0 : ((n : Int) != (m : Int)) = true := by simp; omega
    clear ha hb hx hla hlb hnm
    go_enter Tryd.func17, Tryd.ntmps17
    go_wp2_with fail
    go_ret
    exact ⟨rfl, 0, rfl⟩

theorem light_any (A : Option Addr) (n cap : Nat) (ls : List Bs) (w : World) (hr : Rd w 1 A n (ls.map strV)) (hn : n ≤ maxLen) (hs : ∀ x ∈ ls, x.length ≤ maxLen) (x : Bool) (hx : x = true ↔ Light n ls) :
    Calls Tryd.prog 12 #[.slice A n cap] w fun e w' => e = .returned (.bool x) ∧ w = w' := by
  unfold maxLen at hn hs
  have HX := Lib.hid hx
  have HR := Lib.hid hr
  have HS := Lib.hid hs
  clear hx hr hs
  by_cases h30 : 30 < n
  · have hf : x = false := by
      rw [Bool.eq_false_iff]
      intro e
      have := (HX.out.1 e).1
      omega
    subst hf
    go_enter Tryd.func12, Tryd.ntmps12
    go_wp2_with fail
    go_ret
    exact ⟨rfl, rfl⟩
  · have h30' : n ≤ 30 := by omega
    go_enter Tryd.func12, Tryd.ntmps12
    go_wp2_with fail
    go_loop [3] (fun v3 => ∃ k : Nat, k ≤ n ∧ v3 = .int .i64 k ∧ ∀ x ∈ ls.take k, x.length ≤ 200) (fun v3 => n - (intOf v3).toNat)
    case atStart => exact ⟨0, Nat.zero_le _, rfl, by simp⟩
    case round =>
      obtain ⟨k, hk, rfl, hpre⟩ := hrel
      have HP := Lib.hid hpre
      clear hpre
      by_cases hlt : k < n
      · obtain ⟨b1, o1, x1, rfl, hx1, hc1⟩ := strs_at HR.out hlt
        have hsz : (⟨x1.toArray⟩ : ByteArray).size = x1.length := by show x1.toArray.size = _; simp
        have hle := HS.out x1 (List.mem_of_getElem? hx1)
        have HX1 := Lib.hid hx1
        clear hx1
        by_cases hbig : 200 < x1.length
        · have hf : x = false := by
            rw [Bool.eq_false_iff]
            intro e
            have := (HX.out.1 e).2 x1 (List.mem_of_getElem? HX1.out)
            omega
          subst hf
          go_wp2_with fail
          go_ret
          exact ⟨rfl, rfl⟩
        · have hbig' : x1.length ≤ 200 := by omega
          go_wp2_with fail
          go_round
          case rel => exact ⟨k + 1, by omega, by go_num, by
            rw [take_snoc' HX1.out]
            intro y hy
            rcases List.mem_append.1 hy with hy | hy
            · exact HP.out y hy
            · simp at hy; rw [hy]; exact hbig'⟩
          case measure => simp [intOf]; omega
      · have hf : x = true := HX.out.2 ⟨h30', by
          have := HP.out
          rwa [List.take_of_length_le (by rw [strs_len HR.out]; omega)] at this⟩
        subst hf
        go_wp2_with fail
        go_ret
        exact ⟨rfl, rfl⟩
theorem rest_str {s : ByteArray} {a : Nat} {l : Bs} (h : s.data.toList.drop a = l) : s.extract a s.size = ⟨l.toArray⟩ := by
  have hl : s.data.toList.length = s.size := bytes_len s
  apply ByteArray.ext
  apply Array.toList_inj.1
  simp [← h, List.extract]
  rw [List.take_of_length_le (by rw [List.length_drop, hl]; omega)]

/-- a slice of strings that came in -/
theorem strs_in {H : Type} {enc : TypeId × Value → H} {w : World} {base fuel : Nat} {spare : Nat → Bool} {held : Bool} {a : Option Addr} {len cap : Nat} {x : DataW H × List MemPlace}
    (h : DataW.trod enc Tryd.prog w base spare held fuel 28 [Value.slice a len cap] = some x) :
    ∃ ls : List Bs, Rd w 1 a len (ls.map strV) ∧ len ≤ maxLen ∧ (∀ y ∈ ls, y.length ≤ maxLen) := by
  rcases Go.ChangeShapes.open_strings Tryd.underlying28 Tryd.underlying9 (by kernel_rfl) h with ⟨hcs, hx⟩ | ⟨ad, l, c, ss, hcs, _, hl, hm, hz, hx, hcell, hwz⟩
  · simp at hcs
    obtain ⟨rfl, rfl, rfl⟩ := hcs
    exact ⟨[], Rd.zero _ _ _, Nat.zero_le _, by simp⟩
  · simp at hcs
    obtain ⟨rfl, rfl, rfl⟩ := hcs
    have hlz : len ≤ ss.length := by
      rw [hz]
      split
      · exact hl
      · exact Nat.le_refl _
    have htl : (ss.take len).length = len := by rw [List.length_take]; exact Nat.min_eq_left hlz
    refine ⟨(ss.take len).map fun s => s.data.toList, ⟨by rw [List.length_map, List.length_map, htl]; omega, fun hpos => ?_⟩, by omega, ?_⟩
    · have h0 := hcell 0 (by omega)
      have had : ∃ b off, ad = ⟨b, off, none⟩ := by
        obtain ⟨b, off, spot⟩ := ad
        cases spot with
        | none => exact ⟨b, off, rfl⟩
        | some s =>
          exfalso
          simp [Addr.add, World.cell?] at h0
          split at h0 <;> simp at h0
      obtain ⟨b, off, rfl⟩ := had
      refine ⟨b, off, rfl, fun j u hu => ?_⟩
      rw [List.map_map, List.getElem?_map] at hu
      obtain ⟨z, hz1, hz2⟩ := Option.map_eq_some_iff.1 hu
      obtain ⟨hj, hz3⟩ := List.getElem?_eq_some_iff.1 hz1
      rw [htl] at hj
      have hc := hcell j (by omega)
      have hadd : (⟨b, off, none⟩ : Addr).add j = ⟨b, off + j, none⟩ := by unfold Addr.add; split <;> simp_all
      rw [hadd] at hc
      rw [hc, ← hz2, ← hz3, List.getElem_take, List.getD_eq_getElem?_getD, List.getElem?_eq_getElem (by omega)]
      show _ = some (strV _)
      rw [← strV_of]
      rfl
    · intro y hy
      obtain ⟨s, hs, rfl⟩ := List.mem_map.1 hy
      have := hwz s (List.mem_of_mem_take hs)
      rw [bytes_len]
      exact this

end Go.Proofs.YtbolgodoifbnnaaDoor
