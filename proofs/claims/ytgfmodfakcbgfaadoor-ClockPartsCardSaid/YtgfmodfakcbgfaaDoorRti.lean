import Derived.Test.YtgfmodfakcbgfaaDoorRpa
import Derived.Deep.LoopGhost
namespace Go.Proofs.YtgfmodfakcbgfaaDoor
open Go.RowKit Go.Mem Go.Clk

/-- a part's number, 0 where there is none -/
def partX (ps : List Bs) (k : Nat) : Int := match ps[k]? with
  | some x => numI x 2 2 59
  | none => 0
def partH (ps : List Bs) : Int := match ps with
  | h :: _ => numI h 1 3 167
  | [] => 0
theorem rsum_parts {ps : List Bs} (h0 : ps ≠ []) (h3 : ps.length ≤ 3) : rsumD ps = rsum3 (partH ps) (partX ps 1) (partX ps 2) := by
  match ps, h0, h3 with
  | [a], _, _ => rfl
  | [a, b], _, _ => rfl
  | [a, b, c], _, _ => rfl
  | _ :: _ :: _ :: _ :: _, _, h => simp at h
theorem rsum_long {ps : List Bs} (h : ¬ ps.length ≤ 3) : rsumD ps = none := by
  match ps, h with
  | [], h => rfl
  | [a], h => simp at h
  | [a, b], h => simp at h
  | [a, b, c], h => simp at h
  | _ :: _ :: _ :: _ :: _, _ => rfl
theorem numI_range (s : Bs) (a b m : Nat) : -1 ≤ numI s a b m ∧ numI s a b m ≤ (m : Int) := by
  unfold numI
  split
  · omega
  · omega
theorem partX_range (ps : List Bs) (k : Nat) : -1 ≤ partX ps k ∧ partX ps k ≤ 59 := by
  unfold partX
  split
  · exact numI_range _ _ _ _
  · omega
theorem partH_range (ps : List Bs) : -1 ≤ partH ps ∧ partH ps ≤ 167 := by
  unfold partH
  split
  · exact numI_range _ _ _ _
  · omega
theorem split_ne (l : Bs) : splitC l ≠ [] := by
  cases l with
  | nil => simp [splitC]
  | cons c r =>
    simp only [splitC]
    split <;> simp
theorem split_len (l : Bs) : ∀ x ∈ splitC l, x.length ≤ l.length := by
  induction l with
  | nil => simp [splitC]
  | cons c r ih =>
    intro x hx
    simp only [splitC] at hx
    split at hx
    · rcases List.mem_cons.1 hx with rfl | h
      · simp
      · have := ih x h; simp; omega
    · cases hs : splitC r with
      | nil => exact absurd hs (split_ne r)
      | cons y ys =>
        rw [hs] at hx
        simp at hx
        rcases hx with rfl | h
        · have := ih y (by rw [hs]; simp); simp; omega
        · have := ih x (by rw [hs]; simp [h]); simp; omega
theorem num22 (s : Bs) (hs : s.length ≤ 100000) (w : World) : Calls Tryd.prog 32 #[strV s, .int .i64 2, .int .i64 2, .int .i64 59] w fun e w' => e = .returned (.int .i64 (numI s 2 2 59)) ∧ w = w' := number_any s 2 2 59 (by omega) (by omega) (by omega) hs w _ rfl
theorem num13 (s : Bs) (hs : s.length ≤ 100000) (w : World) : Calls Tryd.prog 32 #[strV s, .int .i64 1, .int .i64 3, .int .i64 167] w fun e w' => e = .returned (.int .i64 (numI s 1 3 167)) ∧ w = w' := number_any s 1 3 167 (by omega) (by omega) (by omega) hs w _ rfl
/-- what the document's time answers -/
def TimeR (g : Option Int) (w : World) (e : Ending) (w' : World) : Prop := Fr w w' (fun _ => False) ∧ match g with
  | none => e = .returned (.tuple #[.int .i64 0, .bool false])
  | some n => e = .returned (.tuple #[.int .i64 n, .bool true])
def TInv (w : World) (ps : List Bs) (A : Option Addr) (g : Nat) (v6 v7 v8 : Value) (wr : World) : Prop :=
  ∃ (i : Nat) (n : Int) (bd : Bool), i + g = 3 ∧ 1 ≤ i ∧ v6 = .int .i64 n ∧ v7 = .bool bd ∧ v8 = natV i ∧
    ((i = 1 ∧ n = partH ps ∧ (bd = true ↔ partH ps < 0)) ∨ (i = 2 ∧ n = partH ps * 60 + partX ps 1 ∧ (bd = true ↔ partH ps < 0 ∨ partX ps 1 < 0)) ∨
      (i = 3 ∧ n = (partH ps * 60 + partX ps 1) * 60 + partX ps 2 ∧ (bd = true ↔ partH ps < 0 ∨ partX ps 1 < 0 ∨ partX ps 2 < 0))) ∧
    Rd wr 1 A ps.length (ps.map strV) ∧ Fr w wr (fun _ => False)
theorem strs_at {w : World} {A : Option Addr} {n : Nat} {ls : List Bs} (h : Rd w 1 A n (ls.map strV)) {k : Nat} (hk : k < n) :
    ∃ b off x, A = some ⟨b, off, none⟩ ∧ ls[k]? = some x ∧ w.cell? ⟨b, off + k, none⟩ = some (strV x) := by
  obtain ⟨b, off, u, e, hu, hc⟩ := h.at_ hk
  rw [List.getElem?_map] at hu
  obtain ⟨x, hx, rfl⟩ := Option.map_eq_some_iff.1 hu
  exact ⟨b, off, x, e, hx, hc⟩
theorem rtime_dash (w : World) : Calls Tryd.prog 20 #[strV [45]] w (TimeR (rtimeD [45]) w) := by
  go_enter Tryd.func20, Tryd.ntmps20
  go_wp2_with fail
  go_ret2
  exact ⟨Fr.refl _ _, rfl⟩
theorem neg_in {ps : List Bs} {n : Int} (h : n = (partH ps * 60 + partX ps 1) * 60 + partX ps 2) : -10000000 ≤ n ∧ n ≤ 10000000 := by
  have := partH_range ps
  have := partX_range ps 1
  have := partX_range ps 2
  omega
theorem step_in {ps : List Bs} {i : Nat} {n : Int} {bd : Bool} {x : Int} (h : (i = 1 ∧ n = partH ps ∧ (bd = true ↔ partH ps < 0)) ∨ (i = 2 ∧ n = partH ps * 60 + partX ps 1 ∧ (bd = true ↔ partH ps < 0 ∨ partX ps 1 < 0)) ∨
      (i = 3 ∧ n = (partH ps * 60 + partX ps 1) * 60 + partX ps 2 ∧ (bd = true ↔ partH ps < 0 ∨ partX ps 1 < 0 ∨ partX ps 2 < 0))) (hi : i < 3) (hx : x = partX ps i) :
    (-20000 ≤ n ∧ n ≤ 20000 ∧ -1 ≤ x ∧ x ≤ 59) ∧ ∀ c : Bool, (c = true ↔ bd = true ∨ x < 0) → ((i + 1 = 1 ∧ n * 60 + x = partH ps ∧ (c = true ↔ partH ps < 0)) ∨ (i + 1 = 2 ∧ n * 60 + x = partH ps * 60 + partX ps 1 ∧ (c = true ↔ partH ps < 0 ∨ partX ps 1 < 0)) ∨
      (i + 1 = 3 ∧ n * 60 + x = (partH ps * 60 + partX ps 1) * 60 + partX ps 2 ∧ (c = true ↔ partH ps < 0 ∨ partX ps 1 < 0 ∨ partX ps 2 < 0))) := by
  have a1 := partH_range ps
  have a2 := partX_range ps 1
  have a3 := partX_range ps 2
  subst hx
  rcases h with ⟨rfl, rfl, hb⟩ | ⟨rfl, rfl, hb⟩ | ⟨rfl, -, -⟩
  · refine ⟨by omega, fun c hc => .inr (.inl ⟨rfl, rfl, ?_⟩)⟩
    rw [hc, hb]
  · refine ⟨by omega, fun c hc => .inr (.inr ⟨rfl, rfl, ?_⟩)⟩
    rw [hc, hb, or_assoc]
  · omega
set_option maxHeartbeats 2000000 in
theorem rtime_low (l : Bs) (w : World) (hl : l.length ≤ 1000) (hne : l ≠ []) : Calls Tryd.prog 20 #[strV (45 :: l)] w (TimeR (negO true (rsumD (splitC l))) w) := by
  obtain ⟨L, hL⟩ : ∃ L, L = 45 :: l := ⟨_, rfl⟩
  have e0 : (L == [45]) = false := by rw [hL]; simp [hne]
  have hsz := str_size L
  have hlen : L.length = l.length + 1 := by rw [hL]; rfl
  have hp : 0 < (⟨L.toArray⟩ : ByteArray).size := by rw [hsz]; omega
  have hget : (⟨L.toArray⟩ : ByteArray)[0]'hp = 45 := by subst hL; rfl
  have t0 : ((((⟨L.toArray⟩ : ByteArray)[0]'hp).toNat : Int) == 45) = true := by rw [hget]; rfl
  have hcut : (⟨L.toArray⟩ : ByteArray).extract 1 L.length = ⟨l.toArray⟩ := by
    rw [str_ext, hL]
    simp [cut]
  have hls : (0 : Int) < (L.length : Int) := by omega
  have hls1 : (1 : Int) ≤ (L.length : Int) := by omega
  rw [← hL]
  clear hL hget hlen
  have HP := Lib.hid (fun W => parts_any l W (by omega))
  have hps0 := split_ne l
  have hpl := split_len l
  unfold PartsOf at HP
  generalize splitC l = ps at HP hps0 hpl ⊢
  obtain ⟨G, hG⟩ : ∃ G, rsumD ps = G := ⟨_, rfl⟩
  rw [hG]
  have HG0 := Lib.hid hG
  clear hG
  have hp1 : 1 ≤ ps.length := List.length_pos_iff.2 hps0
  clear hne
  go_enter Tryd.func20, Tryd.ntmps20
  go_wp2_with fail
  refine (HP.out _).mono ?_
  rintro e w2 ⟨v, rfl, hown, hf2⟩
  obtain ⟨A, cap, rfl, hcap, hmax, hrd, -, -⟩ := own_rd hown
  have HF2 := Lib.hid hf2
  clear hown hf2
  by_cases h3 : ps.length ≤ 3
  · have t3 : ¬ ((3 : Int) < (ps.length : Int)) := by omega
    obtain ⟨b, off, x0, rfl, hx0, hc0⟩ := strs_at hrd (k := 0) (by omega)
    rw [Nat.add_zero] at hc0
    have HN0 := Lib.hid (num13 x0 (by have := hpl x0 (List.mem_of_getElem? hx0); omega))
    have hH : numI x0 1 3 167 = partH ps := by
      cases ps with
      | nil => cases hx0
      | cons y ys =>
        obtain rfl : y = x0 := by simpa using hx0
        rfl
    rw [hH] at HN0
    have hpos : (0 : Int) < (ps.length : Int) := by omega
    have HRD := Lib.hid hrd
    have HPL := Lib.hid hpl
    have HG : Hid (rsum3 (partH ps) (partX ps 1) (partX ps 2) = G) := Lib.hid (by rw [← HG0.out, rsum_parts hps0 h3])
    clear HG0 hH hx0 hrd hpl HP hps0
    go_wp2_with fail
    refine (HN0.out _).mono ?_
    rintro e w3 ⟨rfl, rfl⟩
    go_wp2_with fail
    go_loopg [6, 7, 8, 9] 2 (fun g v6 v7 v8 _v9 wr => TInv w ps (some ⟨b, off, none⟩) g v6 v7 v8 wr)
    case atStart => exact ⟨1, partH ps, _, rfl, Nat.le_refl _, rfl, rfl, rfl, .inl ⟨rfl, rfl, by simp⟩, HRD.out, HF2.out⟩
    case round =>
      obtain ⟨i, n, bd, hig, h1i, rfl, rfl, rfl, hst, hrd, hfr⟩ := hrel
      have HFR := Lib.hid hfr
      have HR := Lib.hid hrd
      clear hfr HF2 HRD hc0 HN0
      by_cases hi3 : i < 3
      · obtain ⟨g', rfl⟩ : ∃ g', gk = g' + 1 := ⟨gk - 1, by omega⟩
        have hi3' : (i : Int) < 3 := by omega
        obtain ⟨x, hx⟩ : ∃ x, x = partX ps i := ⟨_, rfl⟩
        obtain ⟨⟨n1, n2, x1, x2⟩, hnext⟩ := step_in hst hi3 hx
        have HNX := Lib.hid hnext
        clear hst hnext
        by_cases hil : i < ps.length
        · obtain ⟨b', off', y, hA, hy, hcy⟩ := strs_at hrd hil
          cases hA
          have HN := Lib.hid (num22 y (by have := HPL.out y (List.mem_of_getElem? hy); omega))
          have hyx : numI y 2 2 59 = x := by rw [hx, partX, hy]
          rw [hyx] at HN
          have q1 : (i : Int) < (ps.length : Int) := by omega
          have q2 : (0 : Int) ≤ (i : Int) := by omega
          clear hy hyx hx hrd
          cases bd
          · go_wp2_with fail
            refine (HN.out _).mono ?_
            rintro e w3 ⟨rfl, rfl⟩
            go_wp2_with fail
            go_roundg g'
            case measure => omega
            case rel => exact ⟨i + 1, n * 60 + x, _, by omega, by omega, rfl, rfl, by go_num, HNX.out _ (by simp), HR.out, HFR.out⟩
          · go_wp2_with fail
            refine (HN.out _).mono ?_
            rintro e w3 ⟨rfl, rfl⟩
            go_wp2_with fail
            go_roundg g'
            case measure => omega
            case rel => exact ⟨i + 1, n * 60 + x, _, by omega, by omega, rfl, rfl, by go_num, HNX.out _ (by simp), HR.out, HFR.out⟩
        · have hx0 : x = 0 := by rw [hx, partX, List.getElem?_eq_none (by omega)]
          subst hx0
          have q1 : ¬ (i : Int) < (ps.length : Int) := by omega
          clear hx hrd
          cases bd
          · go_wp2_with fail
            go_roundg g'
            case measure => omega
            case rel => exact ⟨i + 1, n * 60 + 0, _, by omega, by omega, by go_num, rfl, by go_num, HNX.out _ (by simp), HR.out, HFR.out⟩
          · go_wp2_with fail
            go_roundg g'
            case measure => omega
            case rel => exact ⟨i + 1, n * 60 + 0, _, by omega, by omega, by go_num, rfl, by go_num, HNX.out _ (by simp), HR.out, HFR.out⟩
      · obtain rfl : i = 3 := by omega
        obtain ⟨hn, hb⟩ : n = (partH ps * 60 + partX ps 1) * 60 + partX ps 2 ∧ (bd = true ↔ partH ps < 0 ∨ partX ps 1 < 0 ∨ partX ps 2 < 0) := by
          rcases hst with ⟨h, -⟩ | ⟨h, -⟩ | ⟨-, h⟩
          · omega
          · omega
          · exact h
        obtain ⟨m1, m2⟩ := neg_in hn
        clear hi3 hst hrd
        cases bd
        · have hg : some n = G := by
            rw [← HG.out, rsum3, if_neg (fun h => absurd (hb.2 h) (by simp)), hn]
          subst hg
          clear HG hb hn
          go_wp2_with fail
          go_ret2
          exact ⟨HFR.out, rfl⟩
        · have hg : none = G := by
            rw [← HG.out, rsum3, if_pos (hb.1 rfl)]
          subst hg
          clear HG hb hn
          go_wp2_with fail
          go_ret2
          exact ⟨HFR.out, rfl⟩
  · have t3 : ((3 : Int) < (ps.length : Int)) := by omega
    have hg : none = G := by rw [← HG0.out, rsum_long h3]
    subst hg
    clear hrd HP HG0
    go_wp2_with fail
    go_ret2
    exact ⟨HF2.out, rfl⟩
set_option maxHeartbeats 2000000 in
theorem rtime_high (l : Bs) (w : World) (hl : l.length ≤ 1000) (h45 : l.head? ≠ some 45) : Calls Tryd.prog 20 #[strV l] w (TimeR (negO false (rsumD (splitC l))) w) := by
  have hsz := str_size l
  have HP := Lib.hid (fun W => parts_any l W (by omega))
  have hps0 := split_ne l
  have hpl := split_len l
  unfold PartsOf at HP
  generalize splitC l = ps at HP hps0 hpl ⊢
  obtain ⟨G, hG⟩ : ∃ G, rsumD ps = G := ⟨_, rfl⟩
  rw [hG]
  have HG0 := Lib.hid hG
  clear hG
  have hp1 : 1 ≤ ps.length := List.length_pos_iff.2 hps0
  by_cases hl0 : l = []
  · subst hl0
    clear h45
    go_enter Tryd.func20, Tryd.ntmps20
    go_wp2_with fail
    refine (HP.out _).mono ?_
    rintro e w2 ⟨v, rfl, hown, hf2⟩
    obtain ⟨A, cap, rfl, hcap, hmax, hrd, -, -⟩ := own_rd hown
    have HF2 := Lib.hid hf2
    clear hown hf2
    by_cases h3 : ps.length ≤ 3
    · have t3 : ¬ ((3 : Int) < (ps.length : Int)) := by omega
      obtain ⟨b, off, x0, rfl, hx0, hc0⟩ := strs_at hrd (k := 0) (by omega)
      rw [Nat.add_zero] at hc0
      have HN0 := Lib.hid (num13 x0 (by have := hpl x0 (List.mem_of_getElem? hx0); omega))
      have hH : numI x0 1 3 167 = partH ps := by
        cases ps with
        | nil => cases hx0
        | cons y ys =>
          obtain rfl : y = x0 := by simpa using hx0
          rfl
      rw [hH] at HN0
      have hpos : (0 : Int) < (ps.length : Int) := by omega
      have HRD := Lib.hid hrd
      have HPL := Lib.hid hpl
      have HG : Hid (rsum3 (partH ps) (partX ps 1) (partX ps 2) = G) := Lib.hid (by rw [← HG0.out, rsum_parts hps0 h3])
      clear HG0 hH hx0 hrd hpl HP hps0
      go_wp2_with fail
      refine (HN0.out _).mono ?_
      rintro e w3 ⟨rfl, rfl⟩
      go_wp2_with fail
      go_loopg [6, 7, 8, 9] 2 (fun g v6 v7 v8 _v9 wr => TInv w ps (some ⟨b, off, none⟩) g v6 v7 v8 wr)
      case atStart => exact ⟨1, partH ps, _, rfl, Nat.le_refl _, rfl, rfl, rfl, .inl ⟨rfl, rfl, by simp⟩, HRD.out, HF2.out⟩
      case round =>
        obtain ⟨i, n, bd, hig, h1i, rfl, rfl, rfl, hst, hrd, hfr⟩ := hrel
        have HFR := Lib.hid hfr
        have HR := Lib.hid hrd
        clear hfr HF2 HRD hc0 HN0
        by_cases hi3 : i < 3
        · obtain ⟨g', rfl⟩ : ∃ g', gk = g' + 1 := ⟨gk - 1, by omega⟩
          have hi3' : (i : Int) < 3 := by omega
          obtain ⟨x, hx⟩ : ∃ x, x = partX ps i := ⟨_, rfl⟩
          obtain ⟨⟨n1, n2, x1, x2⟩, hnext⟩ := step_in hst hi3 hx
          have HNX := Lib.hid hnext
          clear hst hnext
          by_cases hil : i < ps.length
          · obtain ⟨b', off', y, hA, hy, hcy⟩ := strs_at hrd hil
            cases hA
            have HN := Lib.hid (num22 y (by have := HPL.out y (List.mem_of_getElem? hy); omega))
            have hyx : numI y 2 2 59 = x := by rw [hx, partX, hy]
            rw [hyx] at HN
            have q1 : (i : Int) < (ps.length : Int) := by omega
            have q2 : (0 : Int) ≤ (i : Int) := by omega
            clear hy hyx hx hrd
            cases bd
            · go_wp2_with fail
              refine (HN.out _).mono ?_
              rintro e w3 ⟨rfl, rfl⟩
              go_wp2_with fail
              go_roundg g'
              case measure => omega
              case rel => exact ⟨i + 1, n * 60 + x, _, by omega, by omega, rfl, rfl, by go_num, HNX.out _ (by simp), HR.out, HFR.out⟩
            · go_wp2_with fail
              refine (HN.out _).mono ?_
              rintro e w3 ⟨rfl, rfl⟩
              go_wp2_with fail
              go_roundg g'
              case measure => omega
              case rel => exact ⟨i + 1, n * 60 + x, _, by omega, by omega, rfl, rfl, by go_num, HNX.out _ (by simp), HR.out, HFR.out⟩
          · have hx0 : x = 0 := by rw [hx, partX, List.getElem?_eq_none (by omega)]
            subst hx0
            have q1 : ¬ (i : Int) < (ps.length : Int) := by omega
            clear hx hrd
            cases bd
            · go_wp2_with fail
              go_roundg g'
              case measure => omega
              case rel => exact ⟨i + 1, n * 60 + 0, _, by omega, by omega, by go_num, rfl, by go_num, HNX.out _ (by simp), HR.out, HFR.out⟩
            · go_wp2_with fail
              go_roundg g'
              case measure => omega
              case rel => exact ⟨i + 1, n * 60 + 0, _, by omega, by omega, by go_num, rfl, by go_num, HNX.out _ (by simp), HR.out, HFR.out⟩
        · obtain rfl : i = 3 := by omega
          obtain ⟨hn, hb⟩ : n = (partH ps * 60 + partX ps 1) * 60 + partX ps 2 ∧ (bd = true ↔ partH ps < 0 ∨ partX ps 1 < 0 ∨ partX ps 2 < 0) := by
            rcases hst with ⟨h, -⟩ | ⟨h, -⟩ | ⟨-, h⟩
            · omega
            · omega
            · exact h
          obtain ⟨m1, m2⟩ := neg_in hn
          clear hi3 hst hrd
          cases bd
          · have hg : some n = G := by
              rw [← HG.out, rsum3, if_neg (fun h => absurd (hb.2 h) (by simp)), hn]
            subst hg
            clear HG hb hn
            go_wp2_with fail
            go_ret2
            exact ⟨HFR.out, rfl⟩
          · have hg : none = G := by
              rw [← HG.out, rsum3, if_pos (hb.1 rfl)]
            subst hg
            clear HG hb hn
            go_wp2_with fail
            go_ret2
            exact ⟨HFR.out, rfl⟩
    · have t3 : ((3 : Int) < (ps.length : Int)) := by omega
      have hg : none = G := by rw [← HG0.out, rsum_long h3]
      subst hg
      clear hrd HP HG0
      go_wp2_with fail
      go_ret2
      exact ⟨HF2.out, rfl⟩
  · have e0 : (l == [45]) = false := by
      rw [beq_eq_false_iff_ne]
      rintro rfl
      exact h45 rfl
    have hl1 : 0 < l.length := List.length_pos_iff.2 hl0
    have hp : 0 < (⟨l.toArray⟩ : ByteArray).size := by rw [hsz]; exact hl1
    have hget : (⟨l.toArray⟩ : ByteArray)[0]'hp = l[0]'hl1 := rfl
    have t0 : ((((⟨l.toArray⟩ : ByteArray)[0]'hp).toNat : Int) == 45) = false := by
      rw [hget, beq_eq_false_iff_ne]
      intro e
      refine h45 ?_
      rw [List.head?_eq_getElem?, List.getElem?_eq_getElem hl1, UInt8.toNat_inj.1 (by have : (45 : UInt8).toNat = 45 := rfl; omega : (l[0]'hl1).toNat = (45 : UInt8).toNat)]
    have hls : (0 : Int) < (l.length : Int) := by omega
    clear h45 hl0 hget hl1
    go_enter Tryd.func20, Tryd.ntmps20
    go_wp2_with fail
    refine (HP.out _).mono ?_
    rintro e w2 ⟨v, rfl, hown, hf2⟩
    obtain ⟨A, cap, rfl, hcap, hmax, hrd, -, -⟩ := own_rd hown
    have HF2 := Lib.hid hf2
    clear hown hf2
    by_cases h3 : ps.length ≤ 3
    · have t3 : ¬ ((3 : Int) < (ps.length : Int)) := by omega
      obtain ⟨b, off, x0, rfl, hx0, hc0⟩ := strs_at hrd (k := 0) (by omega)
      rw [Nat.add_zero] at hc0
      have HN0 := Lib.hid (num13 x0 (by have := hpl x0 (List.mem_of_getElem? hx0); omega))
      have hH : numI x0 1 3 167 = partH ps := by
        cases ps with
        | nil => cases hx0
        | cons y ys =>
          obtain rfl : y = x0 := by simpa using hx0
          rfl
      rw [hH] at HN0
      have hpos : (0 : Int) < (ps.length : Int) := by omega
      have HRD := Lib.hid hrd
      have HPL := Lib.hid hpl
      have HG : Hid (rsum3 (partH ps) (partX ps 1) (partX ps 2) = G) := Lib.hid (by rw [← HG0.out, rsum_parts hps0 h3])
      clear HG0 hH hx0 hrd hpl HP hps0
      go_wp2_with fail
      refine (HN0.out _).mono ?_
      rintro e w3 ⟨rfl, rfl⟩
      go_wp2_with fail
      go_loopg [6, 7, 8, 9] 2 (fun g v6 v7 v8 _v9 wr => TInv w ps (some ⟨b, off, none⟩) g v6 v7 v8 wr)
      case atStart => exact ⟨1, partH ps, _, rfl, Nat.le_refl _, rfl, rfl, rfl, .inl ⟨rfl, rfl, by simp⟩, HRD.out, HF2.out⟩
      case round =>
        obtain ⟨i, n, bd, hig, h1i, rfl, rfl, rfl, hst, hrd, hfr⟩ := hrel
        have HFR := Lib.hid hfr
        have HR := Lib.hid hrd
        clear hfr HF2 HRD hc0 HN0
        by_cases hi3 : i < 3
        · obtain ⟨g', rfl⟩ : ∃ g', gk = g' + 1 := ⟨gk - 1, by omega⟩
          have hi3' : (i : Int) < 3 := by omega
          obtain ⟨x, hx⟩ : ∃ x, x = partX ps i := ⟨_, rfl⟩
          obtain ⟨⟨n1, n2, x1, x2⟩, hnext⟩ := step_in hst hi3 hx
          have HNX := Lib.hid hnext
          clear hst hnext
          by_cases hil : i < ps.length
          · obtain ⟨b', off', y, hA, hy, hcy⟩ := strs_at hrd hil
            cases hA
            have HN := Lib.hid (num22 y (by have := HPL.out y (List.mem_of_getElem? hy); omega))
            have hyx : numI y 2 2 59 = x := by rw [hx, partX, hy]
            rw [hyx] at HN
            have q1 : (i : Int) < (ps.length : Int) := by omega
            have q2 : (0 : Int) ≤ (i : Int) := by omega
            clear hy hyx hx hrd
            cases bd
            · go_wp2_with fail
              refine (HN.out _).mono ?_
              rintro e w3 ⟨rfl, rfl⟩
              go_wp2_with fail
              go_roundg g'
              case measure => omega
              case rel => exact ⟨i + 1, n * 60 + x, _, by omega, by omega, rfl, rfl, by go_num, HNX.out _ (by simp), HR.out, HFR.out⟩
            · go_wp2_with fail
              refine (HN.out _).mono ?_
              rintro e w3 ⟨rfl, rfl⟩
              go_wp2_with fail
              go_roundg g'
              case measure => omega
              case rel => exact ⟨i + 1, n * 60 + x, _, by omega, by omega, rfl, rfl, by go_num, HNX.out _ (by simp), HR.out, HFR.out⟩
          · have hx0 : x = 0 := by rw [hx, partX, List.getElem?_eq_none (by omega)]
            subst hx0
            have q1 : ¬ (i : Int) < (ps.length : Int) := by omega
            clear hx hrd
            cases bd
            · go_wp2_with fail
              go_roundg g'
              case measure => omega
              case rel => exact ⟨i + 1, n * 60 + 0, _, by omega, by omega, by go_num, rfl, by go_num, HNX.out _ (by simp), HR.out, HFR.out⟩
            · go_wp2_with fail
              go_roundg g'
              case measure => omega
              case rel => exact ⟨i + 1, n * 60 + 0, _, by omega, by omega, by go_num, rfl, by go_num, HNX.out _ (by simp), HR.out, HFR.out⟩
        · obtain rfl : i = 3 := by omega
          obtain ⟨hn, hb⟩ : n = (partH ps * 60 + partX ps 1) * 60 + partX ps 2 ∧ (bd = true ↔ partH ps < 0 ∨ partX ps 1 < 0 ∨ partX ps 2 < 0) := by
            rcases hst with ⟨h, -⟩ | ⟨h, -⟩ | ⟨-, h⟩
            · omega
            · omega
            · exact h
          obtain ⟨m1, m2⟩ := neg_in hn
          clear hi3 hst hrd
          cases bd
          · have hg : some n = G := by
              rw [← HG.out, rsum3, if_neg (fun h => absurd (hb.2 h) (by simp)), hn]
            subst hg
            clear HG hb hn
            go_wp2_with fail
            go_ret2
            exact ⟨HFR.out, rfl⟩
          · have hg : none = G := by
              rw [← HG.out, rsum3, if_pos (hb.1 rfl)]
            subst hg
            clear HG hb hn
            go_wp2_with fail
            go_ret2
            exact ⟨HFR.out, rfl⟩
    · have t3 : ((3 : Int) < (ps.length : Int)) := by omega
      have hg : none = G := by rw [← HG0.out, rsum_long h3]
      subst hg
      clear hrd HP HG0
      go_wp2_with fail
      go_ret2
      exact ⟨HF2.out, rfl⟩
theorem rtime_any (l : Bs) (w : World) (hl : l.length ≤ 1000) : Calls Tryd.prog 20 #[strV l] w (TimeR (rtimeD l) w) := by
  by_cases h0 : l = [45]
  · subst h0
    exact rtime_dash w
  · rw [rtimeD, if_neg h0]
    by_cases h45 : l.head? = some 45
    · have e := head_tail h45
      rw [if_pos h45]
      have := rtime_low l.tail w (by rw [List.length_tail]; omega) (fun h => h0 (by rw [e, h]))
      rwa [← e] at this
    · rw [if_neg h45]
      exact rtime_high l w hl h45
end Go.Proofs.YtgfmodfakcbgfaaDoor
