import Derived.Test.YtffljhieijnakaaRfn
namespace Go.Proofs.Ytffljhieijnakaa
open Go.RowKit Go.Mem Go.Rope

theorem strs_rd {w : World} {B : Nat} {v : Value} {vs : List Bs} (h : Strs w B v vs) : ∃ A c, v = .slice A vs.length c ∧ vs.length ≤ c ∧ c ≤ maxLen ∧ Rd w 1 A vs.length (vs.map strV) := by
  obtain ⟨A, c, h1, h2, h3, h4, -⟩ := own_rd h
  exact ⟨A, c, h1, h2, h3, h4⟩
theorem strs_at {w : World} {A : Option Addr} {n : Nat} {ls : List Bs} (h : Rd w 1 A n (ls.map strV)) {k : Nat} (hk : k < n) :
    ∃ b off x, A = some ⟨b, off, none⟩ ∧ ls[k]? = some x ∧ w.cell? ⟨b, off + k, none⟩ = some (strV x) := by
  obtain ⟨b, off, u, e, hu, hc⟩ := h.at_ hk
  rw [List.getElem?_map] at hu
  obtain ⟨x, hx, rfl⟩ := Option.map_eq_some_iff.1 hu
  exact ⟨b, off, x, e, hx, hc⟩

set_option maxHeartbeats 1000000 in
theorem rOffset_any (l : Bs) (i c : Int) (w : World) (hl : l.length ≤ 20000) (o k : Int) (hs : offsetD l i c = (o, k)) :
    Calls Try.prog 22 #[strV l, .int .i64 i, .int .i64 c] w fun e w' => e = .returned (.tuple #[.int .i64 o, .int .i64 k]) ∧ Fr w w' (fun _ => False) := by
  unfold offsetD at hs
  have HL := Lib.hid (rLines_any l w hl)
  have hfl := feeds_le l
  have hll := lines_len l
  by_cases h0 : 0 ≤ i
  · obtain ⟨n, rfl⟩ : ∃ n : Nat, i = (n : Int) := ⟨i.toNat, by omega⟩
    simp only [Int.toNat_natCast] at hs
    have t0 : ¬ ((n : Int) < 0) := by omega
    by_cases h1 : n ≤ feeds l
    · have hbe := begin_end h1
      have hel := endOf_le l n
      have hla := line_at h1
      have hcl := cut_len hbe hel
      have HNX := Lib.hid (fun (k : Nat) (h : k < feeds l) => line_next h)
      have HBL := Lib.hid (fun k => behind_le l k)
      by_cases hc : 0 ≤ c
      · have t1 : ¬ (c < 0) := by omega
        by_cases hz : c ≤ (endOf l n : Int) - (behind l n : Int)
        · rw [if_pos ⟨h0, by omega, hc, hz⟩] at hs
          obtain ⟨rfl, rfl⟩ := Prod.mk.inj hs
          clear hs
          go_enter Try.func22, Try.ntmps22
          go_wp2_with fail
          refine HL.out.mono ?_
          rintro e w2 ⟨v, rfl, hstr, hf⟩
          obtain ⟨A, cp, rfl, -, -, hrd⟩ := strs_rd hstr
          obtain ⟨b, off, x, rfl, hx, hcell⟩ := strs_at hrd (k := n) (by omega)
          rw [hla] at hx
          obtain rfl := Option.some.inj hx
          have HLA := Lib.hid hla
          have HCL := Lib.hid hcl
          rw [hll] at hrd ⊢
          have hsx := str_size (cut l (behind l n) (endOf l n))
          rw [hcl] at hsx
          have HF := Lib.hid hf
          have HRD := Lib.hid hrd
          have t2 : ¬ ((n : Int) ≥ ((feeds l + 1 : Nat) : Int)) := by omega
          have t3 : ¬ (feeds l + 1 ≤ n) := by omega
          have i0 : (0 : Int) ≤ (n : Int) := by omega
          have i1 : (n : Int) < ((feeds l + 1 : Nat) : Int) := by omega
          generalize cut l (behind l n) (endOf l n) = x at hcell hsx HLA HCL
          obtain ⟨xl, hxl⟩ : ∃ xl : Nat, xl = endOf l n - behind l n := ⟨_, rfl⟩
          rw [← hxl] at hsx HCL
          have HSX := Lib.hid hsx
          have hxlen : x.length = xl := HCL.out
          have t5 : ¬ ((xl : Int) < c) := by omega
          have hbl := HBL.out n
          clear hstr hrd hf hx hla hcl
          go_wp2_with fail
          go_loop [9, 10] (fun v9 v10 => ∃ k : Nat, k ≤ n ∧ v10 = .int .i64 (k : Int) ∧ v9 = .int .i64 (behind l k : Int)) (fun _ v10 => n - (intOf v10).toNat)
          case atStart => exact ⟨0, Nat.zero_le _, rfl, by rw [behind_zero]; rfl⟩
          case round =>
            obtain ⟨k, hk, rfl, rfl⟩ := hrel
            by_cases hlt : k < n
            · obtain ⟨b', off', y, hA, hy, hcell'⟩ := strs_at HRD.out (k := k) (by omega)
              injection hA with hA
              injection hA with hA1 hA2
              subst hA1 hA2
              have hn := HNX.out k (by omega)
              rw [hy] at hn
              have hn : behind l (k + 1) = behind l k + y.length + 1 := hn
              have hsy := str_size y
              have HB := Lib.hid (show ((behind l k : Int) + (y.length : Int)) + 1 = (behind l (k + 1) : Int) by omega)
              have hb1 := HBL.out k
              have hb2 := HBL.out (k + 1)
              have c1 : (behind l k : Int) ≤ 20000 := by omega
              have c2 : (y.length : Int) ≤ 20000 := by omega
              have c3 : (k : Int) < (feeds l : Int) + 1 := by omega
              generalize behind l k = bk at *
              clear hy hn hb1 hb2
              go_wp2_with fail
              go_round
              case rel => exact ⟨k + 1, by omega, by go_num, by rw [← HB.out]⟩
              case measure => simp [intOf]; omega
            · obtain rfl : k = n := by omega
              have c1 : (behind l k : Int) ≤ 20000 := by omega
              have c2 : (c : Int) ≤ 20000 := by omega
              go_wp2_with fail
              go_ret2
              exact ⟨rfl, HF.out⟩
        · rw [if_neg (by omega)] at hs
          obtain ⟨rfl, rfl⟩ := Prod.mk.inj hs
          clear hs
          go_enter Try.func22, Try.ntmps22
          go_wp2_with fail
          refine HL.out.mono ?_
          rintro e w2 ⟨v, rfl, hstr, hf⟩
          obtain ⟨A, cp, rfl, -, -, hrd⟩ := strs_rd hstr
          obtain ⟨b, off, x, rfl, hx, hcell⟩ := strs_at hrd (k := n) (by omega)
          rw [hla] at hx
          obtain rfl := Option.some.inj hx
          have HCL := Lib.hid hcl
          rw [hll] at hrd ⊢
          have hsx := str_size (cut l (behind l n) (endOf l n))
          rw [hcl] at hsx
          have HF := Lib.hid hf
          have t3 : ¬ (feeds l + 1 ≤ n) := by omega
          have i0 : (0 : Int) ≤ (n : Int) := by omega
          have i1 : (n : Int) < ((feeds l + 1 : Nat) : Int) := by omega
          generalize cut l (behind l n) (endOf l n) = x at hcell hsx HCL
          obtain ⟨xl, hxl⟩ : ∃ xl : Nat, xl = endOf l n - behind l n := ⟨_, rfl⟩
          rw [← hxl] at hsx HCL
          have hxlen : x.length = xl := HCL.out
          have t5 : ((xl : Int) < c) := by omega
          clear hstr hrd hf hx hla hcl
          go_wp2_with fail
          go_ret2
          exact ⟨rfl, HF.out⟩
      · rw [if_neg (by omega)] at hs
        obtain ⟨rfl, rfl⟩ := Prod.mk.inj hs
        have t1 : (c < 0) := by omega
        clear hs
        go_enter Try.func22, Try.ntmps22
        go_wp2_with fail
        refine HL.out.mono ?_
        rintro e w2 ⟨v, rfl, hstr, hf⟩
        obtain ⟨A, cp, rfl, -, -, hrd⟩ := strs_rd hstr
        rw [hll] at hrd ⊢
        have HF := Lib.hid hf
        have t3 : ¬ (feeds l + 1 ≤ n) := by omega
        clear hstr hrd hf hla hcl
        go_wp2_with fail
        go_ret2
        exact ⟨rfl, HF.out⟩
    · rw [if_neg (by omega)] at hs
      obtain ⟨rfl, rfl⟩ := Prod.mk.inj hs
      clear hs
      go_enter Try.func22, Try.ntmps22
      go_wp2_with fail
      refine HL.out.mono ?_
      rintro e w2 ⟨v, rfl, hstr, hf⟩
      obtain ⟨A, cp, rfl, -, -, hrd⟩ := strs_rd hstr
      rw [hll] at hrd ⊢
      have HF := Lib.hid hf
      have t3 : (feeds l + 1 ≤ n) := by omega
      clear hstr hrd hf
      go_wp2_with fail
      go_ret2
      exact ⟨rfl, HF.out⟩
  · rw [if_neg (by omega)] at hs
    obtain ⟨rfl, rfl⟩ := Prod.mk.inj hs
    have t0 : (i < 0) := by omega
    clear hs h0
    go_enter Try.func22, Try.ntmps22
    go_wp2_with fail
    refine HL.out.mono ?_
    rintro e w2 ⟨v, rfl, hstr, hf⟩
    have HF := Lib.hid hf
    clear hstr hf
    go_wp2_with fail
    go_ret2
    exact ⟨rfl, HF.out⟩

theorem last_line {l : Bs} {n : Nat} (h : n ≤ l.length) : (linesL (l.take n))[feeds (l.take n)]? = some (cut (l.take n) (behind (l.take n) (feeds (l.take n))) n) ∧
    (cut (l.take n) (behind (l.take n) (feeds (l.take n))) n).length = n - behind l (feeds (l.take n)) ∧ behind l (feeds (l.take n)) ≤ n := by
  have hl : (l.take n).length = n := by rw [List.length_take]; omega
  have h1 := line_at (l := l.take n) (Nat.le_refl _)
  have he : endOf (l.take n) (feeds (l.take n)) = n := by unfold endOf; rw [if_pos rfl, hl]
  have hb : behind (l.take n) (feeds (l.take n)) = behind l (feeds (l.take n)) := by
    have := behind_left (a := l.take n) (k := feeds (l.take n)) (l.drop n) (Nat.le_refl _)
    rw [List.take_append_drop] at this
    exact this.symm
  rw [he] at h1
  have hp := (place_ends l n h).1
  exact ⟨h1, by rw [cut_len (by rw [hb]; exact hp) (by omega), hb], hp⟩
set_option maxHeartbeats 1000000 in
theorem rPlace_any (l : Bs) (a : Int) (w : World) (hl : l.length ≤ 20000) (p q k : Int) (hs : placeD l a = (p, q, k)) :
    Calls Try.prog 24 #[strV l, .int .i64 a] w fun e w' => e = .returned (.tuple #[.int .i64 p, .int .i64 q, .int .i64 k]) ∧ Fr w w' (fun _ => False) := by
  unfold placeD at hs
  have hz := str_size l
  by_cases h0 : 0 ≤ a
  · obtain ⟨n, rfl⟩ : ∃ n : Nat, a = (n : Int) := ⟨a.toNat, by omega⟩
    simp only [Int.toNat_natCast] at hs
    by_cases h1 : n ≤ l.length
    · rw [if_pos ⟨h0, by omega⟩] at hs
      obtain ⟨rfl, hs2⟩ := Prod.mk.inj hs
      obtain ⟨rfl, rfl⟩ := Prod.mk.inj hs2
      obtain ⟨q1, q2, q3⟩ := last_line h1
      have hlen := lines_len (l.take n)
      have HL := Lib.hid (rLines_any (l.take n) w (by rw [List.length_take]; omega))
      rw [show strV (l.take n) = .string ((⟨l.toArray⟩ : ByteArray).extract 0 n) by rw [str_ext, cut]; simp] at HL
      have t0 : ¬ ((n : Int) < 0) := by omega
      have t1 : ¬ ((n : Int) > (l.length : Int)) := by omega
      have t2 : ¬ (l.length < n) := by omega
      have i0 : (n : Int) ≤ (l.length : Int) := by omega
      obtain ⟨f, hff⟩ : ∃ f, feeds (l.take n) = f := ⟨_, rfl⟩
      rw [hff] at q1 q2 q3 hlen ⊢
      have HFF := Lib.hid hff
      clear hs hs2 hff
      go_enter Try.func24, Try.ntmps24
      go_wp2_with fail
      refine HL.out.mono ?_
      rintro e w2 ⟨v, rfl, hstr, hf⟩
      obtain ⟨A, cp, rfl, -, -, hrd⟩ := strs_rd hstr
      obtain ⟨b, off, x, rfl, hx, hcell⟩ := strs_at hrd (k := f) (by omega)
      rw [q1] at hx
      obtain rfl := Option.some.inj hx
      rw [hlen]
      generalize cut (l.take n) (behind (l.take n) f) n = x at *
      have hsx := str_size x
      rw [q2] at hsx
      have HF := Lib.hid hf
      have hfl := feeds_take_le l n
      have hfl2 := feeds_le l
      rw [HFF.out] at hfl
      have i1 : (0 : Int) ≤ (f : Int) := by omega
      have i2 : (f : Int) < ((f + 1 : Nat) : Int) := by omega
      have i3 : (f : Int) ≤ 20000 := by omega
      have w1 : IntKind.i64.wrap (((f + 1 : Nat) : Int) - 1) = (f : Int) := by rw [IntWalk.i64_in _ ⟨by omega, by omega⟩]; omega
      have w2' : IntKind.i64.wrap (((f : Int) + 1) - 1) = (f : Int) := by rw [IntWalk.i64_in _ ⟨by omega, by omega⟩]; omega
      have HQ := Lib.hid (show ((n - behind l f : Nat) : Int) = (n : Int) - (behind l f : Int) by omega)
      clear hstr hrd hf hx q1 q2 hlen
      go_wp2_with fail
      go_quiet (fail)
      go_wp2_with fail
      go_ret3
      exact ⟨by rw [← HQ.out]; rfl, HF.out.trans (Fr.drewN _ _ _) (fun _ _ h => h) (fun _ _ h => h)⟩
    · rw [if_neg (by omega)] at hs
      obtain ⟨rfl, hs2⟩ := Prod.mk.inj hs
      obtain ⟨rfl, rfl⟩ := Prod.mk.inj hs2
      have t1 : ((n : Int) > (l.length : Int)) := by omega
      have t2 : (l.length < n) := by omega
      have t0 : ¬ ((n : Int) < 0) := by omega
      clear hs hs2
      go_enter Try.func24, Try.ntmps24
      go_wp2_with fail
      go_ret3
      exact ⟨rfl, Fr.refl _ _⟩
  · rw [if_neg (by omega)] at hs
    obtain ⟨rfl, hs2⟩ := Prod.mk.inj hs
    obtain ⟨rfl, rfl⟩ := Prod.mk.inj hs2
    have t0 : (a < 0) := by omega
    clear hs hs2 h0
    go_enter Try.func24, Try.ntmps24
    go_wp2_with fail
    go_ret3
    exact ⟨rfl, Fr.refl _ _⟩
end Go.Proofs.Ytffljhieijnakaa
