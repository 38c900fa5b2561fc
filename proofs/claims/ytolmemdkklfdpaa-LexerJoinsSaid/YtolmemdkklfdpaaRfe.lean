import Derived.Test.YtolmemdkklfdpaaRfd
namespace Go.Proofs.Ytolmemdkklfdpaa
open Go.RowKit Go.Mem Go.Lxr

/-- what the reference's field answers -/
def RFieldRan (g : Except Nat (Bs × Bs)) (s : ByteArray) (w : World) (e : Ending) (w' : World) : Prop :=
  w = w' ∧ match g with
  | .error k => e = .returned (.tuple #[strV [], .int .i64 (-1), .int .i64 (k : Int)])
  | .ok (t, r) => ∃ q : Nat, q ≤ s.size ∧ s.data.toList.drop q = r ∧ e = .returned (.tuple #[strV t, .int .i64 (q : Int), .int .i64 0])
def GInv (s : ByteArray) (G : Except Nat (Bs × Bs)) (g : Nat) (v1 v7 : Value) : Prop :=
  ∃ (acc m : Bs) (q : Nat), m.length = g ∧ q ≤ s.size ∧ s.data.toList.drop q = m ∧ v1 = .int .i64 (q : Int) ∧ v7 = strV acc ∧ (G = (fieldD q m).map fun x => (acc ++ x.1, x.2)) ∧ acc.length + m.length ≤ s.size
def EInv (s : ByteArray) (r : Bs) (q : Nat) (g : Nat) (v8 : Value) : Prop :=
  ∃ (pre m : Bs) (j : Nat), m.length = g ∧ j ≤ s.size ∧ j = q + 1 + pre.length ∧ s.data.toList.drop j = m ∧ r = pre ++ m ∧ v8 = .int .i64 (j : Int) ∧ (quoteD r = (quoteD m).map fun x => (pre ++ x.1, x.2))
theorem drop_len {s : ByteArray} {q : Nat} {m : Bs} (h : s.data.toList.drop q = m) (hq : q ≤ s.size) : q + m.length = s.size := by
  have hl : s.data.toList.length = s.size := bytes_len s
  have : m.length = s.size - q := by rw [← h, List.length_drop, hl]
  omega
theorem u8_ne {c : UInt8} {k : Nat} (h : c ≠ UInt8.ofNat k) (hk : k < 256) : ((c.toNat : Int) == (k : Int)) = false := by
  rw [beq_eq_false_iff_ne]
  intro e
  apply h
  apply UInt8.toNat_inj.1
  simp
  omega
theorem run_add_ext {P : Program} (w : World) (a t : Bs) (s : ByteArray) (x y : Nat) (h : s.extract x y = ⟨t.toArray⟩) (hz : a.length + t.length ≤ 1000000) : (Op.stringOp .add ⟨a.toArray⟩ (s.extract x y)).run P w = .ok (strV (a ++ t)) w := by
  rw [h]
  exact run_add_str w a t hz
theorem run_sl {P : Program} (w : World) (t : TypeId) (ht : P.underlying t = some .string) (s : ByteArray) (x y : Int) (a e : Nat) (l : Bs) (hx : x = (a : Int)) (hy : y = (e : Int)) (hae : a ≤ e) (he : e ≤ s.size) (h : s.extract a e = ⟨l.toArray⟩) :
    (Instr.slice t (.string s) (some (.int .i64 x)) (some (.int .i64 y)) none).run P w = .ok (strV l) w := by
  subst hx hy
  rw [run_slice_string (P := P) w t s .i64 .i64 (a : Int) (e : Int) ht (by omega) (by omega) (by omega)]
  simp only [Int.toNat_natCast]
  rw [h]
set_option maxHeartbeats 1600000 in
theorem rfield_any (s : ByteArray) (p : Nat) (l : Bs) (w : World) (hp : p ≤ s.size) (hl : s.data.toList.drop p = l) (hz : s.size ≤ 100000) : Calls Try.prog 20 #[.string s, .int .i64 (p : Int)] w (RFieldRan (fieldD p l) s w) := by
  obtain ⟨G, hG⟩ : ∃ G, fieldD p l = G := ⟨_, rfl⟩
  rw [hG]
  have H0 := Lib.hid hG
  have HL := Lib.hid hl
  have hlen := drop_len hl hp
  clear hG hl
  go_enter Try.func20, Try.ntmps20
  go_wp2_with fail
  go_loopg [1, 7, 8] l.length (fun g v1 v7 _ wr => wr = w ∧ GInv s G g v1 v7)
  case atStart => exact ⟨rfl, [], l, p, rfl, hp, HL.out, rfl, rfl, by rw [← H0.out]; cases fieldD p l <;> rfl, by simp; omega⟩
  case round =>
    obtain ⟨rfl, acc, m, q, hg, hq, hd, rfl, rfl, hpf, hal⟩ := hrel
    have hlen1 := drop_len hd hq
    have HPF := Lib.hid hpf
    have HD := Lib.hid hd
    have i0 : (0 : Int) ≤ (q : Int) := by omega
    have i1 : (q : Int) ≤ (q : Int) + 1 := by omega
    cases m with
    | nil =>
      have h1 : ¬ (q < s.size) := by simp at hlen1; omega
      have h1' : decide (q < s.size) = false := decide_eq_false h1
      have HQ := Lib.hid (field_nil q)
      clear hd hpf hlen1 hlen
      go_wp2_with fail
      go_ret3
      rw [HPF.out, HQ.out]
      exact ⟨rfl, q, hq, HD.out, by rw [List.append_nil]; rfl⟩
    | cons c r =>
      obtain ⟨hlt, hc, hd2⟩ := drop_cons hd
      have h1' : decide (q < s.size) = true := decide_eq_true hlt
      have i2 : (q : Int) < (s.size : Int) := by omega
      have i3 : (q : Int) + 1 ≤ (s.size : Int) := by omega
      obtain ⟨x, hx⟩ : ∃ x, whiteB c = x := ⟨_, rfl⟩
      have HW := Lib.hid (rwhite_any c wr x hx)
      rw [← hc] at HW
      have HC := Lib.hid hc
      have HD2 := Lib.hid hd2
      cases x with
      | true =>
        have HQ := Lib.hid (field_stop (c := c) (by unfold stopB; rw [hx]; rfl) q r)
        clear hd hpf hlen1 hlen hc hd2
        go_wp2_with fail
        refine HW.out.mono ?_
        rintro e w2 ⟨rfl, rfl⟩
        go_wp2_with fail
        go_ret3
        rw [HPF.out, HQ.out]
        exact ⟨rfl, q, hq, HD.out, by rw [List.append_nil]; rfl⟩
      | false =>
        by_cases h35 : c = 35
        · subst h35
          have e35 : ((s[q].toNat : Int) == 35) = true := by rw [hc]; rfl
          have HQ := Lib.hid (field_stop stop_35 q r)
          clear hd hpf hlen1 hlen hc hd2
          go_wp2_with fail
          refine HW.out.mono ?_
          rintro e w2 ⟨rfl, rfl⟩
          go_wp2_with fail
          go_ret3
          rw [HPF.out, HQ.out]
          exact ⟨rfl, q, hq, HD.out, by rw [List.append_nil]; rfl⟩
        · have e35 : ((s[q].toNat : Int) == 35) = false := by rw [hc]; exact u8_ne (k := 35) h35 (by decide)
          by_cases h34 : c = 34
          · subst h34
            have e34 : ((s[q].toNat : Int) == 34) = true := by rw [hc]; rfl
            have hgr : r.length + 1 = gk := hg
            clear hg hd hpf hlen1 hlen hc hx h35
            go_wp2_with fail
            refine HW.out.mono ?_
            rintro e w2 ⟨rfl, rfl⟩
            go_wp2_with fail
            go_loopg [8] r.length (fun g v8 wx => wx = wr ∧ EInv s r q g v8)
            case atStart => exact ⟨rfl, [], r, q + 1, rfl, by omega, by simp, HD2.out, rfl, by go_num, by cases quoteD r <;> rfl⟩
            case round =>
              obtain ⟨rfl, pre, m1, j, hg1, hj, hjp, hd1, hrm, rfl, hpq⟩ := hrel
              have hlen1 := drop_len hd1 hj
              have hrl : r.length = pre.length + m1.length := by rw [hrm]; simp
              have j0 : (0 : Int) ≤ (j : Int) := by omega
              cases m1 with
              | nil =>
                have k1 : decide (j < s.size) = false := decide_eq_false (by simp at hlen1; omega)
                have k2 : ((j : Int) == (s.size : Int)) = true := by simp at hlen1; simp; omega
                have hn : quoteD r = none := hpq
                have HQ := Lib.hid (field_none hn q)
                clear hlen1 hd1 hrm hpq hn hrl hd2 hjp
                go_wp2_with fail
                go_ret3
                rw [HPF.out, HQ.out]
                exact ⟨rfl, rfl⟩
              | cons c1 r1 =>
                obtain ⟨hlt1, hc1, hd3⟩ := drop_cons hd1
                have k1 : decide (j < s.size) = true := decide_eq_true hlt1
                have j1 : (j : Int) < (s.size : Int) := by omega
                have j2 : (j : Int) + 1 ≤ (s.size : Int) := by omega
                by_cases h341 : c1 = 34
                · subst h341
                  have e341 : ((s[j].toNat : Int) == 34) = true := by rw [hc1]; rfl
                  have k2 : ((j : Int) == (s.size : Int)) = false := by simp; omega
                  have hn : quoteD r = some (pre, r1) := by rw [hpq]; simp [quoteD]
                  have HQ := Lib.hid (field_some hn q)
                  have hsl := fun w => run_sl (P := Try.prog) w 9 Try.underlying9 s ((q : Int) + 1) (j : Int) (q + 1) j pre (by omega) rfl (by omega) (by omega) (ext_str (r := 34 :: r1) hd2 hrm hjp)
                  have hadd := fun w => run_add_str (P := Try.prog) w acc pre (by simp at hal hrl; omega)
                  have HJP := Lib.hid hjp
                  have HD3 := Lib.hid hd3
                  have HRL := Lib.hid hrl
                  have HAL := Lib.hid hal
                  clear hlen1 hd1 hrm hpq hn hrl hd2 hjp hc1 hd3 hal
                  go_wp2_with fail
                  go_roundg r1.length
                  case measure => have := HRL.out; simp at this; omega
                  case rel =>
                    have hrl := HRL.out
                    have hal := HAL.out
                    simp at hrl hal
                    refine ⟨rfl, acc ++ pre, r1, j + 1, rfl, by omega, HD3.out, by go_num, rfl, ?_, by simp; omega⟩
                    rw [HPF.out, HQ.out, show q + pre.length + 2 = j + 1 by have := HJP.out; omega]
                    cases fieldD (j + 1) r1 with
                    | error k => rfl
                    | ok x => simp [Except.map]
                · have e341 : ((s[j].toNat : Int) == 34) = false := by rw [hc1]; exact u8_ne (k := 34) h341 (by decide)
                  have HPQ := Lib.hid hpq
                  have HRM := Lib.hid hrm
                  have HD3 := Lib.hid hd3
                  have HJP := Lib.hid hjp
                  have hnq : quoteD (c1 :: r1) = (quoteD r1).map fun x => (c1 :: x.1, x.2) := by rw [quoteD, if_neg h341]
                  have HNQ := Lib.hid hnq
                  clear hlen1 hd1 hrm hpq hrl hd2 hjp hc1 hd3 hnq h341
                  go_wp2_with fail
                  go_roundg r1.length
                  case measure => simp at hg1; omega
                  case rel =>
                    refine ⟨rfl, pre ++ [c1], r1, j + 1, rfl, by omega, by have := HJP.out; simp; omega, HD3.out, by rw [HRM.out]; simp, by go_num, ?_⟩
                    rw [HPQ.out, HNQ.out]
                    cases quoteD r1 <;> simp
          · have e34 : ((s[q].toNat : Int) == 34) = false := by rw [hc]; exact u8_ne (k := 34) h34 (by decide)
            have hst : stopB c = false := by unfold stopB; rw [hx]; simpa using h35
            have HQ := Lib.hid (field_one hst h34 q r)
            have hadd := fun w => run_add_ext (P := Try.prog) w acc [c] s q (q + 1) (ext_str (r := r) hd rfl rfl) (by simp at *; omega)
            clear hd hpf hlen1 hlen hc hd2 hst h34 h35 hx
            go_wp2_with fail
            refine HW.out.mono ?_
            rintro e w2 ⟨rfl, rfl⟩
            go_wp2_with fail
            go_roundg r.length
            case measure => simp at hg; omega
            case rel =>
              refine ⟨rfl, acc ++ [c], r, q + 1, rfl, by omega, HD2.out, by go_num, rfl, ?_, by simp at *; omega⟩
              rw [HPF.out, HQ.out]
              cases fieldD (q + 1) r with
              | error k => rfl
              | ok x => simp [Except.map]
end Go.Proofs.Ytolmemdkklfdpaa
