import Derived.Test.YtodcnbejnchmhaaGreatDoorYb18
import Derived.Test.YtodcnbejnchmhaaGreatDoorYb11
import Derived.Lib.AppendIntMem
import Derived.Test.YtodcnbejnchmhaaGreatDoorYb15
import Derived.Test.YtodcnbejnchmhaaGreatDoorYb07
import Derived.Test.YtodcnbejnchmhaaGreatDoorYb16
import Derived.Test.YtodcnbejnchmhaaGreatDoorYb17
namespace Go.Proofs.YtodcnbejnchmhaaGreatDoor.S8
open Go.RowKit Go.Mem Go.Kwd

theorem low_great {c : UInt8} (h1 : 65 ≤ (c.toNat : Int)) (h2 : (c.toNat : Int) ≤ 90) : ((lowB c).toNat : Int) = (c.toNat : Int) + 32 := by
  have H : ∀ k : Fin 256, 65 ≤ (UInt8.ofNat k.val).toNat ∧ (UInt8.ofNat k.val).toNat ≤ 90 → (lowB (UInt8.ofNat k.val)).toNat = (UInt8.ofNat k.val).toNat + 32 := by decide +kernel
  have := H ⟨c.toNat, c.toNat_lt⟩
  simp only [UInt8.ofNat_toNat] at this
  have := this (by omega)
  omega
theorem low_else {c : UInt8} (h : (c.toNat : Int) < 65 ∨ 90 < (c.toNat : Int)) : lowB c = c := by
  unfold lowB
  rw [if_neg (by omega)]
theorem small_any (c : UInt8) (w : World) : Calls Tryz.prog 234 #[.int .u8 (c.toNat : Int)] w fun e w' => e = .returned (.int .u8 ((lowB c).toNat : Int)) ∧ w = w' := by
  by_cases h : 65 ≤ (c.toNat : Int) ∧ (c.toNat : Int) ≤ 90
  · have HE := Lib.hid (low_great h.1 h.2)
    obtain ⟨h1, h2⟩ := h
    obtain ⟨z, hz⟩ : ∃ z : Int, z = ((lowB c).toNat : Int) := ⟨_, rfl⟩
    rw [← hz]
    have HZ := Lib.hid hz
    generalize (c.toNat : Int) = n at *
    clear hz
    go_enter Tryz.func234, Tryz.ntmps234
    go_wp2_with fail
    go_ret
    refine ⟨?_, rfl⟩
    have : z = n + 32 := by rw [HZ.out, HE.out]
    subst this
    simp
    omega
  · have h' : (c.toNat : Int) < 65 ∨ 90 < (c.toNat : Int) := by omega
    rw [low_else h']
    have hb := byte_lt c
    have h0 : (0 : Int) ≤ (c.toNat : Int) := by omega
    generalize (c.toNat : Int) = n at *
    clear h
    rcases h' with h' | h'
    · go_enter Tryz.func234, Tryz.ntmps234
      go_wp2_with fail
      go_ret
      exact ⟨rfl, rfl⟩
    · go_enter Tryz.func234, Tryz.ntmps234
      go_wp2_with fail
      go_ret
      exact ⟨rfl, rfl⟩

theorem isDigit_any (c : UInt8) (w : World) : Calls Tryz.prog 230 #[.int .u8 (c.toNat : Int)] w fun e w' => e = .returned (.bool (digitB c)) ∧ w = w' := by
  have HX := Lib.hid (show digitB c = (decide ((48 : Int) ≤ (c.toNat : Int)) && decide ((c.toNat : Int) ≤ 57)) by unfold digitB; congr 1 <;> simp <;> omega)
  obtain ⟨x, hx⟩ : ∃ x, digitB c = x := ⟨_, rfl⟩
  rw [hx] at HX ⊢
  generalize (c.toNat : Int) = n at *
  clear hx
  by_cases h1 : (48 : Int) ≤ n
  all_goals by_cases h2 : n ≤ 57
  all_goals
    go_enter Tryz.func230, Tryz.ntmps230
    go_wp2_with fail
    go_ret
    exact ⟨by rw [HX.out]; simp [h1, h2], rfl⟩
theorem letter_low (c : UInt8) : letterB c = (decide ((97 : Int) ≤ ((lowB c).toNat : Int)) && decide (((lowB c).toNat : Int) ≤ 122)) := by
  have H : ∀ k : Fin 256, letterB (UInt8.ofNat k.val) = (decide (97 ≤ (lowB (UInt8.ofNat k.val)).toNat) && decide ((lowB (UInt8.ofNat k.val)).toNat ≤ 122)) := by decide +kernel
  have := H ⟨c.toNat, c.toNat_lt⟩
  simp only [UInt8.ofNat_toNat] at this
  rw [this]
  congr 1 <;> simp <;> omega
theorem isLetter_any (c : UInt8) (w : World) : Calls Tryz.prog 229 #[.int .u8 (c.toNat : Int)] w fun e w' => e = .returned (.bool (letterB c)) ∧ w = w' := by
  have HX := Lib.hid (letter_low c)
  have HS := Lib.hid (small_any c w)
  obtain ⟨x, hx⟩ : ∃ x, letterB c = x := ⟨_, rfl⟩
  rw [hx] at HX ⊢
  obtain ⟨z, hz⟩ : ∃ z : Int, ((lowB c).toNat : Int) = z := ⟨_, rfl⟩
  rw [hz] at HX HS
  clear hx hz
  by_cases h1 : (97 : Int) ≤ z
  all_goals by_cases h2 : z ≤ 122
  all_goals
    go_enter Tryz.func229, Tryz.ntmps229
    go_wp2_with fail
    refine HS.out.mono ?_
    rintro e w2 ⟨rfl, rfl⟩
    go_wp2_with fail
    all_goals
      go_ret
      exact ⟨by rw [HX.out]; simp [h1, h2], rfl⟩
theorem eq_byte (c k : UInt8) : (c == k) = ((c.toNat : Int) == (k.toNat : Int)) := by
  rw [Bool.eq_iff_iff]
  simp only [beq_iff_eq]
  rw [← UInt8.toNat_inj]
  omega
def firstB (c : UInt8) : Bool := letterB c || c == 95
theorem beginsRule_any (c : UInt8) (w : World) : Calls Tryz.prog 210 #[.int .u8 (c.toNat : Int)] w fun e w' => e = .returned (.bool (firstB c)) ∧ w = w' := by
  have HX := Lib.hid (show firstB c = (letterB c || (c.toNat : Int) == 95) by unfold firstB; rw [eq_byte]; rfl)
  have HS := Lib.hid (isLetter_any c w)
  obtain ⟨x, hx⟩ : ∃ x, firstB c = x := ⟨_, rfl⟩
  rw [hx] at HX ⊢
  obtain ⟨y, hy⟩ : ∃ y, letterB c = y := ⟨_, rfl⟩
  rw [hy] at HX HS
  generalize (c.toNat : Int) = n at *
  clear hx hy
  cases y
  · cases h1 : (n == 95)
    all_goals
      go_enter Tryz.func210, Tryz.ntmps210
      go_wp2_with fail
      refine HS.out.mono ?_
      rintro e w2 ⟨rfl, rfl⟩
      go_wp2_with fail
      go_ret
      exact ⟨by rw [HX.out]; simp [h1], rfl⟩
  · go_enter Tryz.func210, Tryz.ntmps210
    go_wp2_with fail
    refine HS.out.mono ?_
    rintro e w2 ⟨rfl, rfl⟩
    go_wp2_with fail
    go_ret
    exact ⟨by rw [HX.out]; simp, rfl⟩
theorem inRule_any (c : UInt8) (w : World) : Calls Tryz.prog 211 #[.int .u8 (c.toNat : Int)] w fun e w' => e = .returned (.bool (ruleB c)) ∧ w = w' := by
  have HX := Lib.hid (show ruleB c = (firstB c || digitB c || (c.toNat : Int) == 45) by
    have := eq_byte c 45
    rw [show ((c.toNat : Int) == 45) = (c == 45) from this.symm]
    unfold ruleB firstB
    cases letterB c <;> cases digitB c <;> cases (c == 95) <;> cases (c == 45) <;> rfl)
  have HS := Lib.hid (beginsRule_any c w)
  have HD := Lib.hid (isDigit_any c w)
  obtain ⟨x, hx⟩ : ∃ x, ruleB c = x := ⟨_, rfl⟩
  rw [hx] at HX ⊢
  obtain ⟨y, hy⟩ : ∃ y, firstB c = y := ⟨_, rfl⟩
  rw [hy] at HX HS
  obtain ⟨z, hz⟩ : ∃ z, digitB c = z := ⟨_, rfl⟩
  rw [hz] at HX HD
  generalize (c.toNat : Int) = n at *
  clear hx hy hz
  cases y
  · cases z
    · cases h1 : (n == 45)
      all_goals
        go_enter Tryz.func211, Tryz.ntmps211
        go_wp2_with fail
        refine HS.out.mono ?_
        rintro e w2 ⟨rfl, rfl⟩
        go_wp2_with fail
        refine HD.out.mono ?_
        rintro e w2 ⟨rfl, rfl⟩
        go_wp2_with fail
        go_ret
        exact ⟨by rw [HX.out]; simp [h1], rfl⟩
    · go_enter Tryz.func211, Tryz.ntmps211
      go_wp2_with fail
      refine HS.out.mono ?_
      rintro e w2 ⟨rfl, rfl⟩
      go_wp2_with fail
      refine HD.out.mono ?_
      rintro e w2 ⟨rfl, rfl⟩
      go_wp2_with fail
      go_ret
      exact ⟨by rw [HX.out]; simp, rfl⟩
  · go_enter Tryz.func211, Tryz.ntmps211
    go_wp2_with fail
    refine HS.out.mono ?_
    rintro e w2 ⟨rfl, rfl⟩
    go_wp2_with fail
    go_ret
    exact ⟨by rw [HX.out]; simp, rfl⟩
theorem beginsPart_any (c : UInt8) (w : World) : Calls Tryz.prog 200 #[.int .u8 (c.toNat : Int)] w fun e w' => e = .returned (.bool (c != 45)) ∧ w = w' := by
  have HX := Lib.hid (show (c != 45) = ((c.toNat : Int) != 45) by
    have := eq_byte c 45
    unfold bne
    rw [this]
    rfl)
  obtain ⟨x, hx⟩ : ∃ x, (c != 45) = x := ⟨_, rfl⟩
  rw [hx] at HX ⊢
  generalize (c.toNat : Int) = n at *
  clear hx
  cases h1 : (n != 45)
  all_goals
    go_enter Tryz.func200, Tryz.ntmps200
    go_wp2_with fail
    go_ret
    exact ⟨by rw [HX.out, h1]; rfl, rfl⟩
theorem inPart_any (c : UInt8) (w : World) : Calls Tryz.prog 201 #[.int .u8 (c.toNat : Int)] w fun e w' => e = .returned (.bool (partC c)) ∧ w = w' := by
  have HX := Lib.hid (show partC c = (ruleB c || (c.toNat : Int) == 43) by unfold partC; rw [eq_byte]; rfl)
  have HS := Lib.hid (inRule_any c w)
  obtain ⟨x, hx⟩ : ∃ x, partC c = x := ⟨_, rfl⟩
  rw [hx] at HX ⊢
  obtain ⟨y, hy⟩ : ∃ y, ruleB c = y := ⟨_, rfl⟩
  rw [hy] at HX HS
  generalize (c.toNat : Int) = n at *
  clear hx hy
  cases y
  · cases h1 : (n == 43)
    all_goals
      go_enter Tryz.func201, Tryz.ntmps201
      go_wp2_with fail
      refine HS.out.mono ?_
      rintro e w2 ⟨rfl, rfl⟩
      go_wp2_with fail
      go_ret
      exact ⟨by rw [HX.out]; simp [h1], rfl⟩
  · go_enter Tryz.func201, Tryz.ntmps201
    go_wp2_with fail
    refine HS.out.mono ?_
    rintro e w2 ⟨rfl, rfl⟩
    go_wp2_with fail
    go_ret
    exact ⟨by rw [HX.out]; simp, rfl⟩
end Go.Proofs.YtodcnbejnchmhaaGreatDoor.S8
namespace Go.Proofs.YtodcnbejnchmhaaGreatDoor.S8
open Go.RowKit Go.Mem Go.Kwd

theorem emp_of {s : ByteArray} (h : s.size = 0) : s.toList.isEmpty = true ∧ s.data.toList = [] := by
  have h1 : s.data.toList = [] := List.length_eq_zero_iff.1 (by rw [bytes_len]; exact h)
  exact ⟨by rw [Lib.toList_data, h1]; rfl, h1⟩
theorem emp_not {s : ByteArray} (h : 0 < s.size) : s.toList.isEmpty = false ∧ s.data.toList ≠ [] := by
  have h1 : s.data.toList ≠ [] := fun e => by have := bytes_len s; rw [e] at this; simp at this; omega
  exact ⟨by rw [Lib.toList_data]; simpa using h1, h1⟩
theorem low_eq (a b : UInt8) (x : Bool) (h : decide (lowB a = lowB b) = x) : (((lowB a).toNat : Int) != ((lowB b).toNat : Int)) = !x := by
  rw [← h]
  unfold bne
  rw [← eq_byte]
  congr 1
/-- the word t begins with s, byte for byte -/
theorem begins_iff (t s : ByteArray) (h0 : 0 < s.size) : begD t.data.toList s.data.toList = true ↔ ∃ h1 : s.size ≤ t.size, ∀ j (h : j < s.size), lowB s[j] = lowB (t[j]'(by omega)) := by
  rw [beg_get, bytes_len, bytes_len]
  constructor
  · rintro ⟨-, h1, h2⟩
    exact ⟨h1, fun j h => h2 j _ _ (get_str rfl h) (get_str rfl (by omega))⟩
  · rintro ⟨h1, h2⟩
    refine ⟨(emp_not h0).2, h1, fun k c d hc hd => ?_⟩
    have hk : k < s.size := by rw [← bytes_len]; exact (List.getElem?_eq_some_iff.1 hc).1
    rw [get_str rfl hk] at hc
    rw [get_str rfl (by omega)] at hd
    obtain rfl := Option.some.inj hc
    obtain rfl := Option.some.inj hd
    exact h2 k hk
theorem quiet_small {f : FuncId} {args : Array Value} {W : World} {n : Nat} {v : Value} (h : Calls Tryz.prog f args (W.drewN n) fun e w' => e = .returned v ∧ W.drewN n = w') :
    Calls Tryz.prog f args (W.drewN n) fun e w' => e = .returned v ∧ ∃ m, w' = W.drewN m := h.mono fun _ _ h => ⟨h.1, n, h.2.symm⟩
theorem begins_any (t s : ByteArray) (w : World) (hs : s.size ≤ 1000000) (ht : t.size ≤ 1000000) (x : Bool) (hx : begD t.data.toList s.data.toList = x) :
    Calls Tryz.prog 214 #[.string t, .string s] w fun e w' => e = .returned (.bool x) ∧ ∃ n, w' = w.drewN n := by
  by_cases h0 : s.size = 0
  · obtain ⟨h1, h2⟩ := emp_of h0
    have hx : x = false := by rw [← hx, h2]; rfl
    subst hx
    clear h2
    go_enter Tryz.func214, Tryz.ntmps214
    go_wp2_with fail
    go_ret
    exact ⟨rfl, 0, rfl⟩
  · have hpos : 0 < s.size := by omega
    have he := (emp_not hpos).1
    have HB := Lib.hid (begins_iff t s hpos)
    rw [hx] at HB
    clear hx h0
    by_cases h1 : s.size ≤ t.size
    · have HS := Lib.hid (fun c W => small_any c W)
      go_enter Tryz.func214, Tryz.ntmps214
      go_wp2_with fail
      go_loopg [5, 17] s.size (fun g _ v17 wr => ∃ k : Nat, k + g = s.size ∧ v17 = .int .i64 (k : Int) ∧ (∀ j (h : j < s.size), j < k → lowB s[j] = lowB (t[j]'(by omega))) ∧ ∃ q, wr = w.drewN q)
      case atStart => exact ⟨0, by omega, rfl, fun j _ h => absurd h (by omega), 0, rfl⟩
      case round =>
        obtain ⟨k, hk, rfl, hall, q, hq⟩ := hrel
        have HA := Lib.hid hall
        have HQ := Lib.hid hq
        clear hall hq
        by_cases hlt : k < s.size
        · have hlt2 : k < t.size := by omega
          obtain ⟨y, hy⟩ : ∃ y, decide (lowB s[k] = lowB t[k]) = y := ⟨_, rfl⟩
          have hne := low_eq _ _ _ hy
          have HY := Lib.hid hy
          have HS1 := Lib.hid (fun n => quiet_small (HS.out s[k] (wr.drewN n)))
          have HS2 := Lib.hid (fun n => quiet_small (HS.out t[k] (wr.drewN n)))
          have i0 : (0 : Int) ≤ (k : Int) := by omega
          have i1 : (k : Int) < (s.size : Int) := by omega
          have i2 : (k : Int) < (t.size : Int) := by omega
          clear hy
          obtain ⟨a, ha⟩ : ∃ a : Int, a = ((lowB s[k]).toNat : Int) := ⟨_, rfl⟩
          obtain ⟨b, hb⟩ : ∃ b : Int, b = ((lowB t[k]).toNat : Int) := ⟨_, rfl⟩
          rw [← ha] at hne HS1
          rw [← hb] at hne HS2
          clear ha hb
          cases y with
          | true =>
            go_wp2_with fail
            go_quiet ((first | with_reducible exact HS1.out _ | with_reducible exact HS2.out _))
            go_wp2_with fail
            go_roundg (s.size - (k + 1))
            case measure => omega
            case rel => exact ⟨k + 1, by omega, by go_num, fun j h hj => by
              by_cases e : j = k
              · subst e; exact of_decide_eq_true HY.out
              · exact HA.out j h (by omega), _, by rw [HQ.out, World.drewN_drewN]⟩
          | false =>
            have hf : x = false := by
              rw [Bool.eq_false_iff]
              intro e
              obtain ⟨_, h2⟩ := HB.out.1 e
              exact of_decide_eq_false HY.out (h2 k hlt)
            subst hf
            go_wp2_with fail
            go_quiet ((first | with_reducible exact HS1.out _ | with_reducible exact HS2.out _))
            go_wp2_with fail
            go_ret
            exact ⟨rfl, _, by rw [HQ.out, World.drewN_drewN]⟩
        · have hf : x = true := HB.out.2 ⟨h1, fun j h => HA.out j h (by omega)⟩
          subst hf
          have hk' : k = s.size := by omega
          subst hk'
          go_wp2_with fail
          go_ret
          exact ⟨rfl, _, HQ.out⟩
    · have hf : x = false := by
        rw [Bool.eq_false_iff]
        intro e
        exact h1 (HB.out.1 e).1
      subst hf
      clear HB
      go_enter Tryz.func214, Tryz.ntmps214
      go_wp2_with fail
      go_ret
      exact ⟨rfl, 0, rfl⟩
end Go.Proofs.YtodcnbejnchmhaaGreatDoor.S8
namespace Go.Proofs.YtodcnbejnchmhaaGreatDoor.S8
open Go.RowKit Go.Mem Go.Kwd

theorem drop_at {ls : List Bs} {k : Nat} {x : Bs} (h : ls[k]? = some x) : ls.drop k = x :: ls.drop (k + 1) := by
  obtain ⟨hk, rfl⟩ := List.getElem?_eq_some_iff.1 h
  exact List.drop_eq_getElem_cons hk
theorem find_any (l : Bs) (A : Option Addr) (n c : Nat) (ws : List Bs) (w : World) (hr : Rd w 1 A n (ws.map strV)) (hn : n ≤ 1000) (hl : l.length ≤ 1000000) (hw : ∀ x ∈ ws, x.length ≤ 1000000) (z : Nat) (hz : findP l ws = z) :
    Calls Tryz.prog 187 #[strV l, .slice A n c] w fun e w' => e = .returned (.int .i64 (z : Int)) ∧ Fr w w' (fun _ => False) := by
  have HR := Lib.hid hr
  have HL := Lib.hid (strs_len hr)
  have HZ := Lib.hid hz
  have HW := Lib.hid hw
  have hls := str_size l
  clear hr hz hw
  obtain ⟨s, hs⟩ : ∃ s : ByteArray, s = ⟨l.toArray⟩ := ⟨_, rfl⟩
  rw [← hs] at hls
  rw [show strV l = .string s by rw [hs]]
  have HSL := Lib.hid (show s.data.toList = l by rw [hs])
  clear hs
  have hsz : s.size ≤ 1000000 := by omega
  go_enter Tryz.func187, Tryz.ntmps187
  go_wp2_with fail
  go_loopg [5, 6, 7, 8, 11] n (fun g v5 v6 _ _ v11 wr => ∃ k a m : Nat, k + g = n ∧ v11 = .int .i64 (k : Int) ∧ v5 = .int .i64 (a : Int) ∧ v6 = .int .i64 (m : Int) ∧ a ≤ k ∧ m ≤ k ∧ findL (small l) k a m ((ws.drop k).map small) = z ∧ Fr w wr (fun _ => False))
  case atStart => exact ⟨0, 0, 0, by omega, rfl, rfl, rfl, by omega, by omega, HZ.out, Fr.refl _ _⟩
  case round =>
    obtain ⟨k, a, m, hk, rfl, rfl, rfl, ha, hm, hfd, hf⟩ := hrel
    have HF := Lib.hid hf
    have HR2 := Lib.hid (strs_fr HR.out hf)
    have HFD := Lib.hid hfd
    clear hf hfd
    by_cases hlt : k < n
    · obtain ⟨b, o, x, rfl, hx, hc⟩ := strs_at HR2.out hlt
      have hxl : x.length ≤ 1000000 := HW.out x (List.mem_of_getElem? hx)
      have hxs := str_size x
      have h1 : (k : Int) < (n : Int) := by omega
      have h2 : (0 : Int) ≤ (k : Int) := by omega
      have hstep := find_step l k a m x (ws.drop (k + 1))
      rw [← drop_at hx, HFD.out] at hstep
      obtain ⟨y, hy⟩ : ∃ y, begD x l = y := ⟨_, rfl⟩
      rw [hy] at hstep
      have HB := Lib.hid (begins_any ⟨x.toArray⟩ s wr hsz (by rw [hxs]; exact hxl) y (by rw [HSL.out]; exact hy))
      clear hx hy
      cases y with
      | false =>
        have HST := Lib.hid hstep
        clear hstep
        go_wp2_with fail
        refine HB.out.mono ?_
        rintro e w2 ⟨rfl, q, rfl⟩
        go_wp2_with fail
        go_roundg (n - (k + 1))
        case measure => omega
        case rel => exact ⟨k + 1, a, m, by omega, by go_num, rfl, rfl, by omega, by omega, by have := HST.out; simpa using this.symm, fd HF.out q⟩
      | true =>
        rw [if_pos rfl] at hstep
        by_cases he : l.length = x.length
        · rw [if_pos he] at hstep
          have hzk : z = k + 1 := hstep
          have het : ((s.size : Int) == ((⟨x.toArray⟩ : ByteArray).size : Int)) = true := beq_iff_eq.2 (by omega)
          clear hstep
          subst hzk
          go_wp2_with fail
          refine HB.out.mono ?_
          rintro e w2 ⟨rfl, q, rfl⟩
          go_wp2_with fail
          go_ret
          exact ⟨by simp, fd HF.out q⟩
        · rw [if_neg he] at hstep
          have HST := Lib.hid hstep
          have het : ((s.size : Int) == ((⟨x.toArray⟩ : ByteArray).size : Int)) = false := beq_eq_false_iff_ne.2 (by omega)
          clear hstep
          go_wp2_with fail
          refine HB.out.mono ?_
          rintro e w2 ⟨rfl, q, rfl⟩
          go_wp2_with fail
          go_roundg (n - (k + 1))
          case measure => omega
          case rel => exact ⟨k + 1, k + 1, m + 1, by omega, by go_num, by go_num, by go_num, by omega, by omega, HST.out.symm, fd HF.out q⟩
    · have hkn : k = n := by omega
      subst hkn
      have hd : ws.drop k = [] := List.drop_eq_nil_of_le (by rw [HL.out]; omega)
      have hz : (if m = 1 then a else 0) = z := by have := HFD.out; rw [hd] at this; exact this
      by_cases hm1 : m = 1
      · rw [if_pos hm1] at hz
        subst hz hm1
        go_wp2_with fail
        go_ret
        exact ⟨rfl, HF.out⟩
      · rw [if_neg hm1] at hz
        subst hz
        have hmt : ((m : Int) != 1) = true := by simp; omega
        go_wp2_with fail
        go_ret
        exact ⟨rfl, HF.out⟩
end Go.Proofs.YtodcnbejnchmhaaGreatDoor.S8
namespace Go.Proofs.YtodcnbejnchmhaaGreatDoor.S8
open Go.RowKit Go.Mem Go.Kwd

theorem fr_alloc {w w' : World} (o : Obj) (h : Fr (w.alloc o) w' (fun _ => False)) : Fr w w' (fun _ => False) := ff (Fr.new w o _) h
theorem Head_any (l : Bs) (w : World) (hl : l.length ≤ 1000000) (z : Nat) (hz : headD l = z) : Calls Tryz.prog 182 #[strV l] w fun e w' => e = .returned (.int .i64 (z : Int)) ∧ Fr w w' (fun _ => False) := by
  have HF := Lib.hid (find_any l _ 3 3 headsP _ (rd_new w 9 (0, 0) (headsP.map strV)) (by omega) hl (by decide) z (by rw [find_heads]; exact hz))
  clear hz
  go_enter Tryz.func182, Tryz.ntmps182
  go_wp2_with fail
  refine HF.out.mono ?_
  rintro e w2 ⟨rfl, hf⟩
  have HF2 := Lib.hid (fr_alloc _ hf)
  clear hf
  go_wp2_with fail
  go_ret
  exact ⟨rfl, HF2.out⟩
theorem months_any (w : World) : Calls Tryz.prog 215 #[] w fun e w' => ∃ A, e = .returned (.slice A 12 12) ∧ Rd w' 1 A 12 (monthsP.map strV) ∧ Fr w w' (fun _ => False) := by
  have HR := Lib.hid (rd_new w 9 (0, 0) (monthsP.map strV))
  go_enter Tryz.func215, Tryz.ntmps215
  go_wp2_with fail
  go_ret
  exact ⟨_, rfl, HR.out, Fr.new _ _ _⟩
theorem Month_any (l : Bs) (w : World) (hl : l.length ≤ 1000000) (z : Nat) (hz : monthD l = z) : Calls Tryz.prog 188 #[strV l] w fun e w' => e = .returned (.int .i64 (z : Int)) ∧ Fr w w' (fun _ => False) := by
  have HM := Lib.hid (months_any w)
  have HZ := Lib.hid hz
  clear hz
  go_enter Tryz.func188, Tryz.ntmps188
  go_wp2_with fail
  refine HM.out.mono ?_
  rintro e w2 ⟨A, rfl, hr, hf⟩
  have HF2 := Lib.hid hf
  have HF := Lib.hid (find_any l A 12 12 monthsP w2 hr (by omega) hl (by decide) z (by rw [find_months]; exact HZ.out))
  clear hf hr
  go_wp2_with fail
  refine HF.out.mono ?_
  rintro e w3 ⟨rfl, hf⟩
  have HF3 := Lib.hid (ff HF2.out hf)
  clear hf
  go_wp2_with fail
  go_ret
  exact ⟨rfl, HF3.out⟩
end Go.Proofs.YtodcnbejnchmhaaGreatDoor.S8
namespace Go.Proofs.YtodcnbejnchmhaaGreatDoor.S8
open Go.RowKit Go.Mem Go.Esc Go.Sort

theorem fr_grow (w : World) (k : Nat) (os : Array Obj) : Fr w (grow (w.drewN k) os) (fun _ => False) :=
  ⟨rfl, rfl, rfl, by simp [grow], fun i hi _ => by
    show (w.heap ++ os)[i]? = _
    rw [Array.getElem?_append_left hi]⟩
theorem fr_bytes (w : World) (e : TypeId) (s : ByteArray) : Fr w (Lib.bytesWorld w e s) (fun _ => False) :=
  ⟨rfl, rfl, rfl, by rw [Lib.bytesWorld_size]; omega, fun k hk _ => Lib.bytesWorld_at_old w e s k hk⟩
theorem fr_below {w w' : World} (h : Below w.heap.size w w') : Fr w w' (fun _ => False) := (Fr.ofBelow h).mono (fun i hi hs => absurd hs (by omega))

theorem dig_all {s : ByteArray} : (∀ k (h : k < s.size), digB s[k] = true) ↔ s.data.toList.all digB = true := by
  rw [List.all_eq_true]
  constructor
  · intro h x hx
    obtain ⟨k, hk, e⟩ := List.getElem_of_mem hx
    rw [← e]
    exact h k (by rw [bytes_len] at hk; exact hk)
  · intro h k hk
    exact h _ (List.getElem_mem (by rw [bytes_len]; exact hk))
theorem trim_lib (l : Bs) : Lib.trimPrefix l [45] = trimL l := by
  unfold Lib.trimPrefix trimL
  cases l with
  | nil => rfl
  | cons c r =>
    by_cases h : c = 45
    · subst h
      simp [Lib.hasPrefix]
    · have h' : ¬ (45 = c) := fun e => h e.symm
      simp [Lib.hasPrefix, h, h']
theorem Int_range (c : UInt8) : (48 ≤ c.toNat ∧ c.toNat ≤ 57) ↔ ¬ ((c.toNat : Int) < 48) ∧ ¬ ((57 : Int) < (c.toNat : Int)) := by omega
set_option maxHeartbeats 400000 in
theorem isWhole_any (l : Bs) (w : World) (hz : l.length ≤ 999990) : Calls Tryz.prog 212 #[strV l] w fun e w' => e = .returned (.bool (wholeB l)) ∧ w = w' := by
  obtain ⟨x, hx⟩ : ∃ x, wholeB l = x := ⟨_, rfl⟩
  rw [hx]
  by_cases h0 : l = [48]
  · subst h0
    have hf : x = true := by rw [← hx]; rfl
    subst hf
    clear hx
    go_enter Tryz.func212, Tryz.ntmps212
    go_wp2_with fail
    go_ret
    exact ⟨rfl, rfl⟩
  · have e0 : (l == [48]) = false := by simpa using h0
    have hx2 : x = (!(trimL l).isEmpty && (trimL l).head? != some 48 && (trimL l).all digB) := by
      rw [← hx, wholeB, e0]
      rfl
    obtain ⟨t, htt, ht⟩ : ∃ t : ByteArray, t.data.toList = trimL l ∧ ∀ w, Calls Tryz.prog 231 #[strV l, .string ⟨#[45]⟩] w fun e w' => e = .returned (.string t) ∧ w' = w := by
      refine ⟨⟨(trimL l).toArray⟩, by simp, fun w => ?_⟩
      have := Tryz.strings_TrimPrefix ⟨l.toArray⟩ ⟨#[45]⟩ w
      rw [show (⟨l.toArray⟩ : ByteArray).data.toList = l by simp, show (⟨#[45]⟩ : ByteArray).data.toList = [45] from rfl, trim_lib] at this
      exact this
    have htz : t.size ≤ 999990 := by
      rw [← bytes_len, htt]
      unfold trimL
      split
      · rw [List.length_tail]; omega
      · exact hz
    rw [← htt] at hx2
    have HT := Lib.hid ht
    clear hx ht htt h0 hz
    by_cases hp : 0 < t.size
    · have hne : t.data.toList ≠ [] := fun e => by have := bytes_len t; rw [e] at this; simp at this; omega
      have hemp : t.toList.isEmpty = false := by rw [Lib.toList_data]; simpa using hne
      have hhead : t.data.toList.head? = some t[0] := by
        rw [List.head?_eq_getElem?, List.getElem?_eq_getElem (by rw [bytes_len]; exact hp)]
        rfl
      have hemp2 : t.data.toList.isEmpty = false := by simpa using hne
      by_cases h48 : t[0] = 48
      · have hf : x = false := by rw [hx2]; simp [hhead, h48]
        subst hf
        have h48' : ((t[0].toNat : Int) == 48) = true := by rw [h48]; rfl
        clear hx2 hne hhead hemp2 h48
        go_enter Tryz.func212, Tryz.ntmps212
        go_wp2_with fail
        refine (HT.out _).mono ?_
        rintro e w' ⟨rfl, rfl⟩
        go_wp2_with fail
        go_ret
        exact ⟨rfl, rfl⟩
      · have h48' : ((t[0].toNat : Int) == 48) = false := toNat_ne (k := 48) h48 rfl
        have HX := Lib.hid (show x = t.data.toList.all digB by rw [hx2]; simp [hhead, hemp2, h48])
        clear hx2 hne hhead hemp2 h48
        go_enter Tryz.func212, Tryz.ntmps212
        go_wp2_with fail
        refine (HT.out _).mono ?_
        rintro e w' ⟨rfl, rfl⟩
        go_wp2_with fail
        go_loop [18] (fun v => ∃ k : Nat, k ≤ t.size ∧ v = .int .i64 k ∧ ∀ j (h : j < t.size), j < k → digB t[j] = true) (fun v => t.size - (intOf v).toNat)
        case atStart => exact ⟨0, Nat.zero_le _, rfl, fun j _ h => absurd h (by omega)⟩
        case round =>
          obtain ⟨k, hk, rfl, hall⟩ := hrel
          have HA := Lib.hid hall
          clear hall
          by_cases hlt : k < t.size
          · have HI := Lib.hid (Int_range t[k])
            by_cases p1 : (t[k].toNat : Int) < 48
            · have hf : x = false := by
                rw [HX.out, Bool.eq_false_iff]
                intro e
                have := (HI.out.1 ((digB_iff _).1 (dig_all.2 e k hlt))).1
                omega
              subst hf
              go_wp2_with fail
              go_ret
              exact ⟨rfl, rfl⟩
            · by_cases p2 : (57 : Int) < (t[k].toNat : Int)
              · have hf : x = false := by
                  rw [HX.out, Bool.eq_false_iff]
                  intro e
                  have := (HI.out.1 ((digB_iff _).1 (dig_all.2 e k hlt))).2
                  omega
                subst hf
                go_wp2_with fail
                go_ret
                exact ⟨rfl, rfl⟩
              · have HY := Lib.hid ((digB_iff _).2 (HI.out.2 ⟨p1, p2⟩))
                go_wp2_with fail
                go_round
                case rel => exact ⟨k + 1, by omega, by go_num, fun j h hj => by
                  by_cases e : j = k
                  · subst e; exact HY.out
                  · exact HA.out j h (by omega)⟩
                case measure => simp [intOf]; omega
          · have hf : x = true := by
              rw [HX.out]
              exact dig_all.1 fun j h => HA.out j h (by omega)
            subst hf
            go_wp2_with fail
            go_ret
            exact ⟨rfl, rfl⟩
    · have hl0 : t.data.toList = [] := List.length_eq_zero_iff.1 (by rw [bytes_len]; omega)
      have hf : x = false := by rw [hx2, hl0]; rfl
      subst hf
      have hemp : t.toList.isEmpty = true := by rw [Lib.toList_data, hl0]; rfl
      clear hx2 hl0
      go_enter Tryz.func212, Tryz.ntmps212
      go_wp2_with fail
      refine (HT.out _).mono ?_
      rintro e w' ⟨rfl, rfl⟩
      go_wp2_with fail
      go_ret
      exact ⟨rfl, rfl⟩
set_option maxHeartbeats 400000 in
theorem ParseInt_any (l : Bs) (w : World) (hz : l.length ≤ 999990) (hg : WOk w) :
    Calls Tryz.prog 185 #[strV l] w fun e w' => e = .returned (.tuple #[.int .i64 (parsed l).1, .int .i64 (parsed l).2]) ∧ Fr w w' (fun _ => False) := by
  have HW := Lib.hid (isWhole_any l w hz)
  have hs : (⟨l.toArray⟩ : ByteArray).size = l.length := by show l.toArray.size = _; simp
  have hl : (⟨l.toArray⟩ : ByteArray).data.toList = l := by simp
  obtain ⟨n, k, hp⟩ : ∃ n k, parsed l = (n, k) := ⟨_, _, rfl⟩
  rw [hp]
  unfold parsed at hp
  cases hw : wholeB l
  · rw [hw] at HW
    rw [if_neg (by rw [hw]; decide)] at hp
    obtain ⟨rfl, rfl⟩ := Prod.mk.inj hp
    clear hp hw hg
    go_enter Tryz.func185, Tryz.ntmps185
    go_wp2_with fail
    refine HW.out.mono ?_
    rintro e w' ⟨rfl, rfl⟩
    go_wp2_with fail
    go_ret2
    exact ⟨rfl, Fr.refl _ _⟩
  · rw [hw] at HW
    rw [if_pos hw] at hp
    have hpar := whole_parse hw
    by_cases hr : Go.Esc.inRange (numV l)
    · rw [if_pos hr] at hp hpar
      obtain ⟨rfl, rfl⟩ := Prod.mk.inj hp
      have HP := Lib.hid (Tryz.strconv_ParseInt_10_at64_ok ⟨l.toArray⟩ (by rw [hs]; omega) (numV l) (by rw [hl]; exact hpar) w)
      have hne : ∀ w : World, (binOp .neq 195 .nilIface .nilIface).run Tryz.prog w = .ok (.bool false) w := fun w => by kernel_rfl
      generalize numV l = v at HP
      clear hp hw hg hr hpar
      go_enter Tryz.func185, Tryz.ntmps185
      go_wp2_with fail
      refine HW.out.mono ?_
      rintro e w' ⟨rfl, rfl⟩
      go_wp2_with fail
      refine HP.out.mono ?_
      rintro e w2 ⟨rfl, hw2⟩
      have HF := Lib.hid (show Fr w w2 (fun _ => False) by
        rcases hw2 with rfl | ⟨t, rfl⟩
        · exact Fr.refl _ _
        · exact fr_bytes _ _ _)
      clear hw2
      go_wp2_with fail
      go_ret2
      exact ⟨rfl, HF.out⟩
    · rw [if_neg hr] at hp hpar
      obtain ⟨rfl, rfl⟩ := Prod.mk.inj hp
      obtain ⟨tp, p, hvar⟩ := hg.ran
      have HP := Lib.hid (Any.strconv_ParseInt_10_at64_range Tryz.laysC174 ⟨l.toArray⟩ (by rw [hs]; omega) (by rw [hl]; exact hpar) _ w hvar (.inr ⟨tp, p, rfl⟩))
      have hne : ∀ (N : Nat) (w : World), (binOp .neq 195 (.iface 278 (.pointer (some ⟨N, 0, none⟩))) .nilIface).run Tryz.prog w = .ok (.bool true) w := fun N w => by kernel_rfl
      clear hp hw hg hr hpar hvar
      generalize Lib.intSat 64 _ = v at HP
      go_enter Tryz.func185, Tryz.ntmps185
      go_wp2_with fail
      refine HW.out.mono ?_
      rintro e w' ⟨rfl, rfl⟩
      go_wp2_with fail
      refine HP.out.mono ?_
      rintro e w2 ⟨N, rfl, -, -, hb⟩
      have HF := Lib.hid (fr_below hb)
      clear hb
      go_wp2_with fail
      go_ret2
      exact ⟨rfl, HF.out⟩
end Go.Proofs.YtodcnbejnchmhaaGreatDoor.S8
namespace Go.Proofs.YtodcnbejnchmhaaGreatDoor.S8
open Go.RowKit Go.Mem Go.Kwd Go.Esc

theorem isYear_any (n : Int) (w : World) : Calls Tryz.prog 186 #[.int .i64 n] w fun e w' => e = .returned (.bool (decide (1 ≤ n ∧ n ≤ 9999))) ∧ w = w' := by
  obtain ⟨x, hx⟩ : ∃ x, decide (1 ≤ n ∧ n ≤ 9999) = x := ⟨_, rfl⟩
  rw [hx]
  have HX := Lib.hid hx
  clear hx
  by_cases h1 : 1 ≤ n
  all_goals by_cases h2 : n ≤ 9999
  all_goals
    go_enter Tryz.func186, Tryz.ntmps186
    go_wp2_with fail
    all_goals
      go_ret
      exact ⟨by rw [← HX.out]; simp [h1, h2], rfl⟩
theorem From_any (l : Kwd.Bs) (w : World) (hl : l.length ≤ 999990) (hw : WOk w) (y : Int × Int) (hy : yearD (parsed l) = y) :
    Calls Tryz.prog 161 #[strV l] w fun e w' => e = .returned (.tuple #[.int .i64 y.1, .int .i64 y.2]) ∧ Fr w w' (fun _ => False) := by
  have HP := Lib.hid (ParseInt_any l w hl hw)
  obtain ⟨p, q, hp⟩ : ∃ p q, parsed l = (p, q) := ⟨_, _, rfl⟩
  rw [hp] at hy HP
  have HP := Lib.hid (show Calls Tryz.prog 185 #[strV l] w fun e w' => e = .returned (.tuple #[.int .i64 p, .int .i64 q]) ∧ Fr w w' (fun _ => False) from HP.out)
  have HI := Lib.hid (fun W => isYear_any p W)
  clear hp hw
  by_cases hq : q = 0
  · subst hq
    cases hr : decide (1 ≤ p ∧ p ≤ 9999) with
    | true =>
      have hr' := of_decide_eq_true hr
      rw [hr] at HI
      have hy : y = (p, 0) := by rw [← hy, yearD, if_pos ⟨rfl, hr'⟩]
      subst hy
      obtain ⟨b1, b2⟩ := hr'
      clear hr
      go_enter Tryz.func161, Tryz.ntmps161
      go_wp2_with fail
      refine HP.out.mono ?_
      rintro e w2 ⟨rfl, hf⟩
      have HF := Lib.hid hf
      clear hf
      go_wp2_with fail
      refine (HI.out _).mono ?_
      rintro e w3 ⟨rfl, rfl⟩
      go_wp2_with fail
      go_ret2
      exact ⟨rfl, HF.out⟩
    | false =>
      have hr' := of_decide_eq_false hr
      rw [hr] at HI
      have hy : y = (0, 8) := by rw [← hy, yearD, if_neg (fun h => hr' h.2)]
      subst hy
      clear hr hr'
      go_enter Tryz.func161, Tryz.ntmps161
      go_wp2_with fail
      refine HP.out.mono ?_
      rintro e w2 ⟨rfl, hf⟩
      have HF := Lib.hid hf
      clear hf
      go_wp2_with fail
      refine (HI.out _).mono ?_
      rintro e w3 ⟨rfl, rfl⟩
      go_wp2_with fail
      go_ret2
      exact ⟨rfl, HF.out⟩
  · have hy : y = (0, 8) := by rw [← hy, yearD, if_neg (fun h => hq h.1)]
    subst hy
    have hq' : (q != 0) = true := by simpa using hq
    clear hq
    go_enter Tryz.func161, Tryz.ntmps161
    go_wp2_with fail
    refine HP.out.mono ?_
    rintro e w2 ⟨rfl, hf⟩
    have HF := Lib.hid hf
    clear hf
    go_wp2_with fail
    go_ret2
    exact ⟨rfl, HF.out⟩
theorem end_le (l : Kwd.Bs) : endD l ≤ 3 := by
  have := find_le (small l) ends 0 0 0 (by omega)
  simpa [endD, findD, ends] using this
theorem To_any (l : Kwd.Bs) (fr : Int) (w : World) (hl : l.length ≤ 999990) (hw : WOk w) (y : Int × Int) (hy : lastD (endD l) (yearD (parsed l)) fr = y) :
    Calls Tryz.prog 163 #[strV l, .int .i64 fr] w fun e w' => e = .returned (.tuple #[.int .i64 y.1, .int .i64 y.2]) ∧ Fr w w' (fun _ => False) := by
  obtain ⟨z, hz⟩ : ∃ z, endD l = z := ⟨_, rfl⟩
  have HF := Lib.hid (find_any l _ 3 3 ends _ (rd_new w 9 (0, 0) (ends.map strV)) (by omega) (by omega) (by decide) z (by rw [find_ends]; exact hz))
  have hz3 := end_le l
  rw [hz] at hy hz3
  obtain ⟨p, q, hp⟩ : ∃ p q, yearD (parsed l) = (p, q) := ⟨_, _, rfl⟩
  have HR := Lib.hid (fun (W : World) (f : Fr w W (fun _ => False)) => (show Calls Tryz.prog 161 #[strV l] W fun e w' => e = .returned (.tuple #[.int .i64 p, .int .i64 q]) ∧ Fr W w' (fun _ => False) from From_any l W hl (hw.fr f) (p, q) hp))
  rw [hp] at hy
  clear hz hp hw
  have hcase : z = 1 ∨ z = 2 ∨ z = 0 ∨ z = 3 := by omega
  clear hz3
  rcases hcase with rfl | rfl | hcase
  · have hy : y = (fr, 0) := by rw [← hy]; rfl
    subst hy
    go_enter Tryz.func163, Tryz.ntmps163
    go_wp2_with fail
    refine HF.out.mono ?_
    rintro e w2 ⟨rfl, hf⟩
    have HF2 := Lib.hid (fr_alloc _ hf)
    clear hf
    go_wp2_with fail
    go_ret2
    exact ⟨rfl, HF2.out⟩
  · have hy : y = (10000, 0) := by rw [← hy]; rfl
    subst hy
    go_enter Tryz.func163, Tryz.ntmps163
    go_wp2_with fail
    refine HF.out.mono ?_
    rintro e w2 ⟨rfl, hf⟩
    have HF2 := Lib.hid (fr_alloc _ hf)
    clear hf
    go_wp2_with fail
    go_ret2
    exact ⟨rfl, HF2.out⟩
  · have hy : (if q = 0 ∧ fr ≤ p then (p, q) else (0, 8)) = y := by rcases hcase with rfl | rfl <;> exact hy
    have z1 : ((z : Int) == 1) = false := beq_eq_false_iff_ne.2 (by omega)
    have z2 : ((z : Int) == 2) = false := beq_eq_false_iff_ne.2 (by omega)
    clear hcase
    by_cases hq : q = 0
    · subst hq
      by_cases hfp : fr ≤ p
      · rw [if_pos ⟨rfl, hfp⟩] at hy
        subst hy
        go_enter Tryz.func163, Tryz.ntmps163
        go_wp2_with fail
        refine HF.out.mono ?_
        rintro e w2 ⟨rfl, hf⟩
        have HF2 := Lib.hid (fr_alloc _ hf)
        clear hf
        go_wp2_with fail
        refine (HR.out _ HF2.out).mono ?_
        rintro e w3 ⟨rfl, hf⟩
        have HF3 := Lib.hid (ff HF2.out hf)
        clear hf
        go_wp2_with fail
        go_ret2
        exact ⟨rfl, HF3.out⟩
      · rw [if_neg (fun h => hfp h.2)] at hy
        subst hy
        go_enter Tryz.func163, Tryz.ntmps163
        go_wp2_with fail
        refine HF.out.mono ?_
        rintro e w2 ⟨rfl, hf⟩
        have HF2 := Lib.hid (fr_alloc _ hf)
        clear hf
        go_wp2_with fail
        refine (HR.out _ HF2.out).mono ?_
        rintro e w3 ⟨rfl, hf⟩
        have HF3 := Lib.hid (ff HF2.out hf)
        clear hf
        go_wp2_with fail
        go_ret2
        exact ⟨rfl, HF3.out⟩
    · rw [if_neg (fun h => hq h.1)] at hy
      subst hy
      have hq' : (q != 0) = true := by simpa using hq
      clear hq
      go_enter Tryz.func163, Tryz.ntmps163
      go_wp2_with fail
      refine HF.out.mono ?_
      rintro e w2 ⟨rfl, hf⟩
      have HF2 := Lib.hid (fr_alloc _ hf)
      clear hf
      go_wp2_with fail
      refine (HR.out _ HF2.out).mono ?_
      rintro e w3 ⟨rfl, hf⟩
      have HF3 := Lib.hid (ff HF2.out hf)
      clear hf
      go_wp2_with fail
      go_ret2
      exact ⟨rfl, HF3.out⟩
end Go.Proofs.YtodcnbejnchmhaaGreatDoor.S8
namespace Go.Proofs.YtodcnbejnchmhaaGreatDoor.S8
open Go.RowKit Go.Mem Go.Kwd

abbrev notDash (c : UInt8) : Bool := c != 45
theorem first_rule (c : UInt8) (h : firstB c = true) : ruleB c = true := by
  have H : ∀ k : Fin 256, firstB (UInt8.ofNat k.val) = true → ruleB (UInt8.ofNat k.val) = true := by decide +kernel
  have := H ⟨c.toNat, c.toNat_lt⟩
  simp only [UInt8.ofNat_toNat] at this
  exact this h

theorem conP_iff (s : ByteArray) (h : 0 < s.size) : partB s.data.toList = true ↔ notDash s[0] = true ∧ ∀ j (h : j < s.size), partC s[j] = true := by
  obtain ⟨c, r, hl⟩ : ∃ c r, s.data.toList = c :: r := by
    cases hl : s.data.toList with
    | nil => exact absurd hl (emp_not h).2
    | cons c r => exact ⟨c, r, rfl⟩
  obtain ⟨_, hc, -⟩ := drop_cons (s := s) (a := 0) (by rw [List.drop_zero]; exact hl)
  have hall : (∀ j (h : j < s.size), partC s[j] = true) ↔ s.data.toList.all partC = true := by
    rw [List.all_eq_true]
    constructor
    · intro h x hx
      obtain ⟨k, hk, e⟩ := List.getElem_of_mem hx
      rw [← e]
      exact h k (by rw [bytes_len] at hk; exact hk)
    · intro h k hk
      exact h _ (List.getElem_mem (by rw [bytes_len]; exact hk))
  rw [hall, hl, hc]
  simp [partB, notDash]

theorem conR_iff (s : ByteArray) (h : 0 < s.size) : ruleM s.data.toList = true ↔ firstB s[0] = true ∧ ∀ j (h : j < s.size), ruleB s[j] = true := by
  obtain ⟨c, r, hl⟩ : ∃ c r, s.data.toList = c :: r := by
    cases hl : s.data.toList with
    | nil => exact absurd hl (emp_not h).2
    | cons c r => exact ⟨c, r, rfl⟩
  obtain ⟨_, hc, -⟩ := drop_cons (s := s) (a := 0) (by rw [List.drop_zero]; exact hl)
  have hall : (∀ j (h : j < s.size), ruleB s[j] = true) ↔ s.data.toList.all ruleB = true := by
    rw [List.all_eq_true]
    constructor
    · intro h x hx
      obtain ⟨k, hk, e⟩ := List.getElem_of_mem hx
      rw [← e]
      exact h k (by rw [bytes_len] at hk; exact hk)
    · intro h k hk
      exact h _ (List.getElem_mem (by rw [bytes_len]; exact hk))
  rw [hall, hl, hc]
  rw [show ruleM (c :: r) = (firstB c && r.all ruleB) from rfl, List.all_cons, Bool.and_eq_true, Bool.and_eq_true]
  exact ⟨fun h => ⟨h.1, first_rule c h.1, h.2⟩, fun h => ⟨h.1, h.2.2⟩⟩

theorem conP_any (s : ByteArray) (w : World) (hs : s.size ≤ 1000000) (x : Bool) (hx : partB s.data.toList = x) :
    Calls Tryz.prog 199 #[.string s, .func (.func 200) #[] #[], .func (.func 201) #[] #[]] w fun e w' => e = .returned (.bool x) ∧ w = w' := by
  by_cases h0 : s.size = 0
  · obtain ⟨h1, h2⟩ := emp_of h0
    have hx : x = false := by rw [← hx, h2]; rfl
    subst hx
    clear h2
    go_enter Tryz.func199, Tryz.ntmps199
    go_wp2_with fail
    go_ret
    exact ⟨rfl, rfl⟩
  · have hpos : 0 < s.size := by omega
    have he := (emp_not hpos).1
    have HX := Lib.hid (conP_iff s hpos)
    rw [hx] at HX
    obtain ⟨y, hy⟩ : ∃ y, notDash s[0] = y := ⟨_, rfl⟩
    have HF := Lib.hid (fun W => beginsPart_any s[0] W)
    have HF := Lib.hid (fun W => (show Calls Tryz.prog 200 #[.int .u8 (s[0].toNat : Int)] W fun e w' => e = .returned (.bool y) ∧ W = w' by rw [← hy]; exact HF.out W))
    clear hx h0
    cases y with
    | false =>
      have hf : x = false := by
        rw [Bool.eq_false_iff]
        intro e
        have := (HX.out.1 e).1
        rw [hy] at this
        cases this
      subst hf
      clear hy
      go_enter Tryz.func199, Tryz.ntmps199
      go_wp2_with fail
      refine (HF.out _).mono ?_
      rintro e w2 ⟨rfl, rfl⟩
      go_wp2_with fail
      go_ret
      exact ⟨rfl, rfl⟩
    | true =>
      have HY := Lib.hid hy
      clear hy
      go_enter Tryz.func199, Tryz.ntmps199
      go_wp2_with fail
      refine (HF.out _).mono ?_
      rintro e w2 ⟨rfl, rfl⟩
      go_wp2_with fail
      go_loopg [7, 19] s.size (fun g _ v19 wr => ∃ k : Nat, k + g = s.size ∧ v19 = .int .i64 (k : Int) ∧ (∀ j (h : j < s.size), j < k → partC s[j] = true) ∧ w = wr)
      case atStart => exact ⟨0, by omega, rfl, fun j _ h => absurd h (by omega), rfl⟩
      case round =>
        obtain ⟨k, hk, rfl, hall, rfl⟩ := hrel
        have HA := Lib.hid hall
        clear hall
        by_cases hlt : k < s.size
        · have i0 : (0 : Int) ≤ (k : Int) := by omega
          have i1 : (k : Int) < (s.size : Int) := by omega
          obtain ⟨z, hz⟩ : ∃ z, partC s[k] = z := ⟨_, rfl⟩
          have HE := Lib.hid (inPart_any s[k] w)
          have HE := Lib.hid (show Calls Tryz.prog 201 #[.int .u8 (s[k].toNat : Int)] w fun e w' => e = .returned (.bool z) ∧ w = w' by rw [← hz]; exact HE.out)
          have HZ := Lib.hid hz
          clear hz
          cases z with
          | true =>
            go_wp2_with fail
            refine HE.out.mono ?_
            rintro e w2 ⟨rfl, rfl⟩
            go_wp2_with fail
            go_roundg (s.size - (k + 1))
            case measure => omega
            case rel => exact ⟨k + 1, by omega, by go_num, fun j h hj => by
              by_cases e : j = k
              · subst e; exact HZ.out
              · exact HA.out j h (by omega), rfl⟩
          | false =>
            have hf : x = false := by
              rw [Bool.eq_false_iff]
              intro e
              have := (HX.out.1 e).2 k hlt
              rw [HZ.out] at this
              cases this
            subst hf
            go_wp2_with fail
            refine HE.out.mono ?_
            rintro e w2 ⟨rfl, rfl⟩
            go_wp2_with fail
            go_ret
            exact ⟨rfl, rfl⟩
        · have hf : x = true := HX.out.2 ⟨HY.out, fun j h => HA.out j h (by omega)⟩
          subst hf
          have hk' : k = s.size := by omega
          subst hk'
          go_wp2_with fail
          go_ret
          exact ⟨rfl, rfl⟩

theorem conR_any (s : ByteArray) (w : World) (hs : s.size ≤ 1000000) (x : Bool) (hx : ruleM s.data.toList = x) :
    Calls Tryz.prog 199 #[.string s, .func (.func 210) #[] #[], .func (.func 211) #[] #[]] w fun e w' => e = .returned (.bool x) ∧ w = w' := by
  by_cases h0 : s.size = 0
  · obtain ⟨h1, h2⟩ := emp_of h0
    have hx : x = false := by rw [← hx, h2]; rfl
    subst hx
    clear h2
    go_enter Tryz.func199, Tryz.ntmps199
    go_wp2_with fail
    go_ret
    exact ⟨rfl, rfl⟩
  · have hpos : 0 < s.size := by omega
    have he := (emp_not hpos).1
    have HX := Lib.hid (conR_iff s hpos)
    rw [hx] at HX
    obtain ⟨y, hy⟩ : ∃ y, firstB s[0] = y := ⟨_, rfl⟩
    have HF := Lib.hid (fun W => beginsRule_any s[0] W)
    have HF := Lib.hid (fun W => (show Calls Tryz.prog 210 #[.int .u8 (s[0].toNat : Int)] W fun e w' => e = .returned (.bool y) ∧ W = w' by rw [← hy]; exact HF.out W))
    clear hx h0
    cases y with
    | false =>
      have hf : x = false := by
        rw [Bool.eq_false_iff]
        intro e
        have := (HX.out.1 e).1
        rw [hy] at this
        cases this
      subst hf
      clear hy
      go_enter Tryz.func199, Tryz.ntmps199
      go_wp2_with fail
      refine (HF.out _).mono ?_
      rintro e w2 ⟨rfl, rfl⟩
      go_wp2_with fail
      go_ret
      exact ⟨rfl, rfl⟩
    | true =>
      have HY := Lib.hid hy
      clear hy
      go_enter Tryz.func199, Tryz.ntmps199
      go_wp2_with fail
      refine (HF.out _).mono ?_
      rintro e w2 ⟨rfl, rfl⟩
      go_wp2_with fail
      go_loopg [7, 19] s.size (fun g _ v19 wr => ∃ k : Nat, k + g = s.size ∧ v19 = .int .i64 (k : Int) ∧ (∀ j (h : j < s.size), j < k → ruleB s[j] = true) ∧ w = wr)
      case atStart => exact ⟨0, by omega, rfl, fun j _ h => absurd h (by omega), rfl⟩
      case round =>
        obtain ⟨k, hk, rfl, hall, rfl⟩ := hrel
        have HA := Lib.hid hall
        clear hall
        by_cases hlt : k < s.size
        · have i0 : (0 : Int) ≤ (k : Int) := by omega
          have i1 : (k : Int) < (s.size : Int) := by omega
          obtain ⟨z, hz⟩ : ∃ z, ruleB s[k] = z := ⟨_, rfl⟩
          have HE := Lib.hid (inRule_any s[k] w)
          have HE := Lib.hid (show Calls Tryz.prog 211 #[.int .u8 (s[k].toNat : Int)] w fun e w' => e = .returned (.bool z) ∧ w = w' by rw [← hz]; exact HE.out)
          have HZ := Lib.hid hz
          clear hz
          cases z with
          | true =>
            go_wp2_with fail
            refine HE.out.mono ?_
            rintro e w2 ⟨rfl, rfl⟩
            go_wp2_with fail
            go_roundg (s.size - (k + 1))
            case measure => omega
            case rel => exact ⟨k + 1, by omega, by go_num, fun j h hj => by
              by_cases e : j = k
              · subst e; exact HZ.out
              · exact HA.out j h (by omega), rfl⟩
          | false =>
            have hf : x = false := by
              rw [Bool.eq_false_iff]
              intro e
              have := (HX.out.1 e).2 k hlt
              rw [HZ.out] at this
              cases this
            subst hf
            go_wp2_with fail
            refine HE.out.mono ?_
            rintro e w2 ⟨rfl, rfl⟩
            go_wp2_with fail
            go_ret
            exact ⟨rfl, rfl⟩
        · have hf : x = true := HX.out.2 ⟨HY.out, fun j h => HA.out j h (by omega)⟩
          subst hf
          have hk' : k = s.size := by omega
          subst hk'
          go_wp2_with fail
          go_ret
          exact ⟨rfl, rfl⟩
end Go.Proofs.YtodcnbejnchmhaaGreatDoor.S8
namespace Go.Proofs.YtodcnbejnchmhaaGreatDoor.S8
open Go.RowKit Go.Mem Go.Kwd

theorem split_len : ∀ (l : Bs), (∀ p ∈ Lib.split l [47], p.length ≤ l.length) ∧ (Lib.split l [47]).length ≤ l.length + 1
  | [] => by rw [split_nil]; simp
  | c :: l => by
    obtain ⟨h1, h2⟩ := split_len l
    by_cases h : c = 47
    · subst h
      rw [split_eq]
      refine ⟨fun p hp => ?_, by simp; omega⟩
      rcases List.mem_cons.1 hp with rfl | hp
      · simp
      · have := h1 p hp
        simp; omega
    · obtain ⟨p, ps, e1, e2⟩ := split_one c l h
      rw [e1] at h1 h2
      rw [e2]
      refine ⟨fun q hq => ?_, by simp at h2 ⊢; omega⟩
      rcases List.mem_cons.1 hq with rfl | hq
      · have := h1 p (.head _)
        simp; omega
      · have := h1 q (.tail _ hq)
        simp; omega
theorem Split_any (l : Bs) (w : World) (hl : l.length ≤ 1000000) (hw : WOk w) : Calls Tryz.prog 64 #[strV l, .string ⟨#[47]⟩] w fun e w' =>
    ∃ A n, n = (Lib.split l [47]).length ∧ e = .returned (.slice A n n) ∧ Rd w' 1 A n ((Lib.split l [47]).map strV) ∧ Fr w w' (fun _ => False) := by
  obtain ⟨m, hm⟩ := hw.max
  have hsz := str_size l
  refine (Tryz.strings_Split ⟨l.toArray⟩ ⟨#[47]⟩ m w (by omega) hm (by decide)).mono ?_
  rintro e w2 ⟨rfl, rfl⟩
  have hd : (Lib.splitB ⟨#[47]⟩ 0 (Lib.countB ⟨l.toArray⟩ ⟨#[47]⟩) ⟨l.toArray⟩).map (·.data.toList) = Lib.split l [47] := by
    rw [Lib.splitB_data]
    simp [Lib.split, Lib.countB]
  have hn : Lib.countB ⟨l.toArray⟩ ⟨#[47]⟩ + 1 = (Lib.split l [47]).length := by
    rw [← hd, List.length_map, Lib.splitB_all _ (by decide) 0 _ _ rfl]
  have hcs : (Lib.splitB ⟨#[47]⟩ 0 (Lib.countB ⟨l.toArray⟩ ⟨#[47]⟩) ⟨l.toArray⟩).map Value.string = (Lib.split l [47]).map strV := by
    rw [← hd, List.map_map]
    exact List.map_congr_left fun s _ => strV_of s
  rw [hcs, hn]
  have hr := rd_new w 9 (0, 0) ((Lib.split l [47]).map strV)
  rw [List.length_map] at hr
  exact ⟨_, _, rfl, rfl, hr, Fr.new _ _ _⟩
theorem all_snoc {ls : List Bs} {k : Nat} {x : Bs} (f : Bs → Bool) (h : ls[k]? = some x) : (ls.take (k + 1)).all f = ((ls.take k).all f && f x) := by
  obtain ⟨hk, rfl⟩ := List.getElem?_eq_some_iff.1 h
  rw [List.take_succ_eq_append_getElem hk, List.all_append]
  simp
theorem Zone_any (l : Bs) (w : World) (hl : l.length ≤ 1000000) (hw : WOk w) (x : Bool) (hx : zoneD l = x) : Calls Tryz.prog 173 #[strV l] w fun e w' => e = .returned (.bool x) ∧ Fr w w' (fun _ => False) := by
  have hsz := str_size l
  have HSP := Lib.hid (Split_any l w hl hw)
  obtain ⟨s, hs⟩ : ∃ s : ByteArray, s = ⟨l.toArray⟩ := ⟨_, rfl⟩
  rw [← hs] at hsz
  rw [show strV l = .string s by rw [hs]] at HSP ⊢
  by_cases h30 : l.length ≤ 30
  · have HZ := Lib.hid (zone_prog l h30)
    rw [hx] at HZ
    obtain ⟨p1, p2⟩ := split_len l
    have HP1 := Lib.hid p1
    obtain ⟨ps, hps⟩ : ∃ ps, Lib.split l [47] = ps := ⟨_, rfl⟩
    rw [hps] at HSP HZ HP1 p2
    have h' : (s.size : Int) ≤ 30 := by omega
    clear hx hw p1 hps hs hsz
    go_enter Tryz.func173, Tryz.ntmps173
    go_wp2_with fail
    refine HSP.out.mono ?_
    rintro e w2 ⟨A, n, hn, rfl, hr, hf⟩
    have HN := Lib.hid hn
    have HR := Lib.hid hr
    have HF := Lib.hid hf
    have hn31 : n ≤ 31 := by omega
    clear hn hr hf
    go_wp2_with fail
    go_loopg [4, 11] n (fun g _ v11 wr => ∃ k : Nat, k + g = n ∧ v11 = .int .i64 (k : Int) ∧ (ps.take k).all partB = true ∧ Fr w2 wr (fun _ => False))
    case atStart => exact ⟨0, by omega, rfl, rfl, Fr.refl _ _⟩
    case round =>
      obtain ⟨k, hk, rfl, hall, hf⟩ := hrel
      have HA := Lib.hid hall
      have HF2 := Lib.hid hf
      have HR2 := Lib.hid (strs_fr HR.out hf)
      clear hall hf
      by_cases hlt : k < n
      · obtain ⟨b, o, y, rfl, hy, hc⟩ := strs_at HR2.out hlt
        have hyl := HP1.out y (List.mem_of_getElem? hy)
        have h1 : (k : Int) < (n : Int) := by omega
        have h2 : (0 : Int) ≤ (k : Int) := by omega
        have hsn := all_snoc partB hy
        obtain ⟨z, hz⟩ : ∃ z, partB y = z := ⟨_, rfl⟩
        have hys := str_size y
        have HC := Lib.hid (conP_any ⟨y.toArray⟩ wr (by omega) z hz)
        rw [HA.out, hz] at hsn
        have HSN := Lib.hid hsn
        have HY := Lib.hid hy
        have HPB := Lib.hid hz
        clear hsn hy hz hys hyl
        cases z with
        | true =>
          go_wp2_with fail
          refine HC.out.mono ?_
          rintro e w3 ⟨rfl, rfl⟩
          go_wp2_with fail
          go_roundg (n - (k + 1))
          case measure => omega
          case rel => exact ⟨k + 1, by omega, by go_num, HSN.out, HF2.out⟩
        | false =>
          have hf : x = false := by
            rw [HZ.out, Bool.eq_false_iff]
            intro e
            have := List.all_eq_true.1 e y (List.mem_of_getElem? HY.out)
            rw [HPB.out] at this
            cases this
          subst hf
          go_wp2_with fail
          refine HC.out.mono ?_
          rintro e w3 ⟨rfl, rfl⟩
          go_wp2_with fail
          go_ret
          exact ⟨rfl, ff HF.out HF2.out⟩
      · have hkn : k = n := by omega
        have hf : x = true := by
          have := HA.out
          rw [List.take_of_length_le (by have := HN.out; omega)] at this
          rw [HZ.out, this]
        subst hf
        subst hkn
        go_wp2_with fail
        go_ret
        exact ⟨rfl, ff HF.out HF2.out⟩
  · have hf : x = false := by
      rw [← hx, zoneD, decide_eq_false h30]
      simp
    subst hf
    have h' : (30 : Int) < (s.size : Int) := by omega
    clear hx hw hs hsz h30
    go_enter Tryz.func173, Tryz.ntmps173
    go_wp2_with fail
    go_ret
    exact ⟨rfl, Fr.refl _ _⟩
theorem Rule_any (l : Bs) (w : World) (hl : l.length ≤ 1000000) (x : Bool) (hx : ruleD l = x) : Calls Tryz.prog 184 #[strV l] w fun e w' => e = .returned (.bool x) ∧ Fr w w' (fun _ => False) := by
  have hsz := str_size l
  obtain ⟨s, hs⟩ : ∃ s : ByteArray, s = ⟨l.toArray⟩ := ⟨_, rfl⟩
  rw [← hs] at hsz
  have hsl : s.data.toList = l := by rw [hs]
  rw [show strV l = .string s by rw [hs]]
  by_cases h30 : l.length ≤ 30
  · have h' : (s.size : Int) ≤ 30 := by omega
    have HC := Lib.hid (conR_any s w (by omega) x (by
      rw [hsl, ← hx, ruleD, decide_eq_true h30]
      cases l with
      | nil => rfl
      | cons c r => simp))
    clear hx hs hsz h30 hsl hl
    go_enter Tryz.func184, Tryz.ntmps184
    go_wp2_with fail
    refine HC.out.mono ?_
    rintro e w3 ⟨rfl, rfl⟩
    go_wp2_with fail
    go_ret
    exact ⟨rfl, Fr.refl _ _⟩
  · have hf : x = false := by
      rw [← hx, ruleD, decide_eq_false h30]
      simp
    subst hf
    have h' : (30 : Int) < (s.size : Int) := by omega
    clear hx hs hsz h30 hsl hl
    go_enter Tryz.func184, Tryz.ntmps184
    go_wp2_with fail
    go_ret
    exact ⟨rfl, Fr.refl _ _⟩
end Go.Proofs.YtodcnbejnchmhaaGreatDoor.S8
namespace Go.Proofs.YtodcnbejnchmhaaGreatDoor
open Go.RowKit Go.Mem Go.Lin

def countsT : List Int := [0, 0, 10, 10, 5, 9, 3, 7, 3, 3]
/-- what the listed variables hold -/
structure LOk (w : World) : Prop where
  base : S6.WOk w
  slots : ∀ i, i < 3 → w.cell? ⟨4, i, none⟩ = some (strV (slotW.getD i []))
  counts : ∀ i, i < 10 → w.cell? ⟨1, i, none⟩ = some (intV (countsT.getD i 0))
theorem LOk.fr {w w' : World} (h : LOk w) (f : Fr w w' (fun _ => False)) : LOk w' := ⟨h.base.fr f, fun i hi => f.cell0 (h.slots i hi), fun i hi => f.cell0 (h.counts i hi)⟩
theorem LOk.kwd {w : World} (h : LOk w) : S8.WOk w := ⟨h.base.pow, h.base.max, h.base.ran⟩
theorem ff {a c d : World} (h : Fr a c (fun _ => False)) (h2 : Fr c d (fun _ => False)) : Fr a d (fun _ => False) := h.trans h2 (fun _ _ h => h) (fun _ _ h => h)
theorem fd {a b : World} (h : Fr a b (fun _ => False)) (n : Nat) : Fr a (b.drewN n) (fun _ => False) := ff h (Fr.drewN _ _ _)
theorem str_size (l : Bs) : (⟨l.toArray⟩ : ByteArray).size = l.length := by show l.toArray.size = _; simp
/-- what Parse answers -/
def parseL (l : Bs) : LineL := if (S7.fieldsO l).2.2 ≠ 0 then wrongL (S7.fieldsO l).2.2 (S7.fieldsO l).2.1 else lineP (S7.fieldsO l).1
def ParseC : Prop := ∀ (l : Bs) (x : LineL) (W : World), LOk W → l.length ≤ 100000 → parseL l = x → Calls Tryz.prog 43 #[strV l] W fun e w' => e = .returned (lineV x) ∧ Fr W w' (fun _ => False)
/- the laws, without the program -/
/-- what any text says is right, or it is wrong -/
theorem parse_cases (l : Bs) : lineOk (parseL l) ∨ ∃ k c, parseL l = wrongL k c ∧ k ≠ 0 := by
  unfold parseL
  split
  · rename_i h
    exact .inr ⟨_, _, rfl, h⟩
  · rcases line_right (S7.fieldsO l).1 with h | ⟨k, c, h, hk, -⟩
    · exact .inl h
    · exact .inr ⟨k, c, h, hk⟩
end Go.Proofs.YtodcnbejnchmhaaGreatDoor
