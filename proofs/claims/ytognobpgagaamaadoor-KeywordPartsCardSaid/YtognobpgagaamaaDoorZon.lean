import Derived.Test.YtognobpgagaamaaDoorCon
import Derived.Test.YtognobpgagaamaaDoorShelf
namespace Go.Proofs.YtognobpgagaamaaDoor
open Go.RowKit Go.Mem Go.Kwd

theorem split_len : ∀ (l : Bs), (∀ p ∈ Lib.split l [47], p.length ≤ l.length) ∧ (Lib.split l [47]).length ≤ l.length + 1
  | [] => by rw [split_nil]; simp
  | c :: l => by
    obtain ⟨h1, h2⟩ := split_len l
    by_cases h : c = 47
    · subst h
      rw [split_eq]
      refine ⟨fun p hp => ?_, by simp; omega⟩
      rcases List.mem_cons.1 hp with rfl | hp
      · simp
      · have := h1 p hp
        simp; omega
    · obtain ⟨p, ps, e1, e2⟩ := split_one c l h
      rw [e1] at h1 h2
      rw [e2]
      refine ⟨fun q hq => ?_, by simp at h2 ⊢; omega⟩
      rcases List.mem_cons.1 hq with rfl | hq
      · have := h1 p (.head _)
        simp; omega
      · have := h1 q (.tail _ hq)
        simp; omega
theorem Split_any (l : Bs) (w : World) (hl : l.length ≤ 1000000) (hw : WOk w) : Calls Tryd.prog 35 #[strV l, .string ⟨#[47]⟩] w fun e w' =>
    ∃ A n, n = (Lib.split l [47]).length ∧ e = .returned (.slice A n n) ∧ Rd w' 1 A n ((Lib.split l [47]).map strV) ∧ Fr w w' (fun _ => False) := by
  obtain ⟨m, hm⟩ := hw.max
  have hsz := str_size l
  refine (Tryd.strings_Split ⟨l.toArray⟩ ⟨#[47]⟩ m w (by omega) hm (by decide)).mono ?_
  rintro e w2 ⟨rfl, rfl⟩
  have hd : (Lib.splitB ⟨#[47]⟩ 0 (Lib.countB ⟨l.toArray⟩ ⟨#[47]⟩) ⟨l.toArray⟩).map (·.data.toList) = Lib.split l [47] := by
    rw [Lib.splitB_data]
    simp [Lib.split, Lib.countB]
  have hn : Lib.countB ⟨l.toArray⟩ ⟨#[47]⟩ + 1 = (Lib.split l [47]).length := by
    rw [← hd, List.length_map, Lib.splitB_all _ (by decide) 0 _ _ rfl]
  have hcs : (Lib.splitB ⟨#[47]⟩ 0 (Lib.countB ⟨l.toArray⟩ ⟨#[47]⟩) ⟨l.toArray⟩).map Value.string = (Lib.split l [47]).map strV := by
    rw [← hd, List.map_map]
    exact List.map_congr_left fun s _ => strV_of s
  rw [hcs, hn]
  have hr := rd_new w 9 (0, 0) ((Lib.split l [47]).map strV)
  rw [List.length_map] at hr
  exact ⟨_, _, rfl, rfl, hr, Fr.new _ _ _⟩
theorem all_snoc {ls : List Bs} {k : Nat} {x : Bs} (f : Bs → Bool) (h : ls[k]? = some x) : (ls.take (k + 1)).all f = ((ls.take k).all f && f x) := by
  obtain ⟨hk, rfl⟩ := List.getElem?_eq_some_iff.1 h
  rw [List.take_succ_eq_append_getElem hk, List.all_append]
  simp
theorem Zone_any (l : Bs) (w : World) (hl : l.length ≤ 1000000) (hw : WOk w) (x : Bool) (hx : zoneD l = x) : Calls Tryd.prog 22 #[strV l] w fun e w' => e = .returned (.bool x) ∧ Fr w w' (fun _ => False) := by
  have hsz := str_size l
  have HSP := Lib.hid (Split_any l w hl hw)
  obtain ⟨s, hs⟩ : ∃ s : ByteArray, s = ⟨l.toArray⟩ := ⟨_, rfl⟩
  rw [← hs] at hsz
  rw [show strV l = .string s by rw [hs]] at HSP ⊢
  by_cases h30 : l.length ≤ 30
  · have HZ := Lib.hid (zone_prog l h30)
    rw [hx] at HZ
    obtain ⟨p1, p2⟩ := split_len l
    have HP1 := Lib.hid p1
    obtain ⟨ps, hps⟩ : ∃ ps, Lib.split l [47] = ps := ⟨_, rfl⟩
    rw [hps] at HSP HZ HP1 p2
    have h' : (s.size : Int) ≤ 30 := by omega
    clear hx hw p1 hps hs hsz
    go_enter Tryd.func22, Tryd.ntmps22
    go_wp2_with fail
    refine HSP.out.mono ?_
    rintro e w2 ⟨A, n, hn, rfl, hr, hf⟩
    have HN := Lib.hid hn
    have HR := Lib.hid hr
    have HF := Lib.hid hf
    have hn31 : n ≤ 31 := by omega
    clear hn hr hf
    go_wp2_with fail
    go_loopg [4, 11] n (fun g _ v11 wr => ∃ k : Nat, k + g = n ∧ v11 = .int .i64 (k : Int) ∧ (ps.take k).all partB = true ∧ Fr w2 wr (fun _ => False))
    case atStart => exact ⟨0, by omega, rfl, rfl, Fr.refl _ _⟩
    case round =>
      obtain ⟨k, hk, rfl, hall, hf⟩ := hrel
      have HA := Lib.hid hall
      have HF2 := Lib.hid hf
      have HR2 := Lib.hid (strs_fr HR.out hf)
      clear hall hf
      by_cases hlt : k < n
      · obtain ⟨b, o, y, rfl, hy, hc⟩ := strs_at HR2.out hlt
        have hyl := HP1.out y (List.mem_of_getElem? hy)
        have h1 : (k : Int) < (n : Int) := by omega
        have h2 : (0 : Int) ≤ (k : Int) := by omega
        have hsn := all_snoc partB hy
        obtain ⟨z, hz⟩ : ∃ z, partB y = z := ⟨_, rfl⟩
        have hys := str_size y
        have HC := Lib.hid (conP_any ⟨y.toArray⟩ wr (by omega) z hz)
        rw [HA.out, hz] at hsn
        have HSN := Lib.hid hsn
        have HY := Lib.hid hy
        have HPB := Lib.hid hz
        clear hsn hy hz hys hyl
        cases z with
        | true =>
          go_wp2_with fail
          refine HC.out.mono ?_
          rintro e w3 ⟨rfl, rfl⟩
          go_wp2_with fail
          go_roundg (n - (k + 1))
          case measure => omega
          case rel => exact ⟨k + 1, by omega, by go_num, HSN.out, HF2.out⟩
        | false =>
          have hf : x = false := by
            rw [HZ.out, Bool.eq_false_iff]
            intro e
            have := List.all_eq_true.1 e y (List.mem_of_getElem? HY.out)
            rw [HPB.out] at this
            cases this
          subst hf
          go_wp2_with fail
          refine HC.out.mono ?_
          rintro e w3 ⟨rfl, rfl⟩
          go_wp2_with fail
          go_ret
          exact ⟨rfl, ff HF.out HF2.out⟩
      · have hkn : k = n := by omega
        have hf : x = true := by
          have := HA.out
          rw [List.take_of_length_le (by have := HN.out; omega)] at this
          rw [HZ.out, this]
        subst hf
        subst hkn
        go_wp2_with fail
        go_ret
        exact ⟨rfl, ff HF.out HF2.out⟩
  · have hf : x = false := by
      rw [← hx, zoneD, decide_eq_false h30]
      simp
    subst hf
    have h' : (30 : Int) < (s.size : Int) := by omega
    clear hx hw hs hsz h30
    go_enter Tryd.func22, Tryd.ntmps22
    go_wp2_with fail
    go_ret
    exact ⟨rfl, Fr.refl _ _⟩
theorem Rule_any (l : Bs) (w : World) (hl : l.length ≤ 1000000) (x : Bool) (hx : ruleD l = x) : Calls Tryd.prog 24 #[strV l] w fun e w' => e = .returned (.bool x) ∧ Fr w w' (fun _ => False) := by
  have hsz := str_size l
  obtain ⟨s, hs⟩ : ∃ s : ByteArray, s = ⟨l.toArray⟩ := ⟨_, rfl⟩
  rw [← hs] at hsz
  have hsl : s.data.toList = l := by rw [hs]
  rw [show strV l = .string s by rw [hs]]
  by_cases h30 : l.length ≤ 30
  · have h' : (s.size : Int) ≤ 30 := by omega
    have HC := Lib.hid (conR_any s w (by omega) x (by
      rw [hsl, ← hx, ruleD, decide_eq_true h30]
      cases l with
      | nil => rfl
      | cons c r => simp))
    clear hx hs hsz h30 hsl hl
    go_enter Tryd.func24, Tryd.ntmps24
    go_wp2_with fail
    refine HC.out.mono ?_
    rintro e w3 ⟨rfl, rfl⟩
    go_wp2_with fail
    go_ret
    exact ⟨rfl, Fr.refl _ _⟩
  · have hf : x = false := by
      rw [← hx, ruleD, decide_eq_false h30]
      simp
    subst hf
    have h' : (30 : Int) < (s.size : Int) := by omega
    clear hx hs hsz h30 hsl hl
    go_enter Tryd.func24, Tryd.ntmps24
    go_wp2_with fail
    go_ret
    exact ⟨rfl, Fr.refl _ _⟩
end Go.Proofs.YtognobpgagaamaaDoor
