import Derived.Test.YtolmemdkklfdpaaRfe
namespace Go.Proofs.Ytolmemdkklfdpaa
open Go.RowKit Go.Mem Go.Lxr

theorem rFields_long (s : ByteArray) (w : World) (h : 200 < s.size) (hz : s.size ≤ 1000000) : Calls Try.prog 11 #[.string s] w fun e w' => e = .returned (.tuple #[.slice none 0 0, .int .i64 0, .int .i64 17]) ∧ w = w' := by
  go_enter Try.func11, Try.ntmps11
  go_wp2_with fail
  go_ret3
  exact ⟨rfl, rfl⟩
def OInv (w : World) (s : ByteArray) (l : Bs) (g : Nat) (v5 v6 : Value) (wr : World) : Prop :=
  ∃ (done : List FPair) (m : Bs) (q : Nat), m.length = g ∧ v6 = .int .i64 (q : Int) ∧ Flds 49 wr w.heap.size v5 done ∧ q ≤ s.size ∧ s.data.toList.drop q = m ∧ (fieldsD 0 l = (fieldsD q m).map fun x => done ++ x) ∧ Fr w wr (fun _ => False) ∧ done.length + m.length ≤ 200
set_option maxHeartbeats 1600000 in
theorem rFields_short (s : ByteArray) (l : Bs) (w : World) (hs : s.data.toList = l) (h : s.size ≤ 200) : Calls Try.prog 11 #[.string s] w (FieldsRan 49 (fieldsD 0 l) w) := by
  have hlen : l.length = s.size := by rw [← hs]; exact bytes_len s
  have HS := Lib.hid hs
  clear hs
  go_enter Try.func11, Try.ntmps11
  go_wp2_with fail
  go_loopg [5, 6, 7, 8, 9] l.length (fun g v5 v6 _ _ _ wr => OInv w s l g v5 v6 wr)
  case atStart => exact ⟨[], l, 0, rfl, rfl, flds_nil _ _ _, Nat.zero_le _, by simpa using HS.out, by cases fieldsD 0 l <;> rfl, Fr.refl _ _, by simp; omega⟩
  case round =>
    obtain ⟨done, m, q, hg, rfl, hfl, hq, hd, hpf, hfr, hdl⟩ := hrel
    have hlen1 := drop_len hd hq
    have HPF := Lib.hid hpf
    have HFL := Lib.hid hfl
    have HFR := Lib.hid hfr
    have hws := hfr.size
    obtain ⟨A5, c5, rfl⟩ := own_slice hfl
    have i0 : (0 : Int) ≤ (q : Int) := by omega
    cases m with
    | nil =>
      have h1' : decide (q < s.size) = false := decide_eq_false (by simp at hlen1; omega)
      have HQ := Lib.hid (fields_nil q)
      clear hd hpf hlen1 hlen hfl hfr
      go_wp2_with fail
      go_ret3
      rw [HPF.out, HQ.out]
      exact ⟨_, rfl, by show Flds _ _ _ _ (done ++ []); rw [List.append_nil]; exact HFL.out, HFR.out⟩
    | cons c r =>
      obtain ⟨hlt, hc, hd2⟩ := drop_cons hd
      have h1' : decide (q < s.size) = true := decide_eq_true hlt
      have i2 : (q : Int) < (s.size : Int) := by omega
      have HD2 := Lib.hid hd2
      by_cases h35 : c = 35
      · subst h35
        have e35 : ((s[q].toNat : Int) == 35) = true := by rw [hc]; rfl
        have HQ := Lib.hid (fields_note q r)
        clear hd hpf hlen1 hlen hc hd2 hfl hfr
        go_wp2_with fail
        go_ret3
        rw [HPF.out, HQ.out]
        exact ⟨_, rfl, by show Flds _ _ _ _ (done ++ []); rw [List.append_nil]; exact HFL.out, HFR.out⟩
      · have e35 : ((s[q].toNat : Int) == 35) = false := by rw [hc]; exact u8_ne (k := 35) h35 (by decide)
        obtain ⟨x, hx⟩ : ∃ x, whiteB c = x := ⟨_, rfl⟩
        have HW := Lib.hid (rwhite_any c wr x hx)
        rw [← hc] at HW
        cases x with
        | true =>
          have HQ := Lib.hid (fields_white hx q r)
          clear hd hpf hlen1 hlen hc hd2 hfl hfr hx h35
          go_wp2_with fail
          refine HW.out.mono ?_
          rintro e w2 ⟨rfl, rfl⟩
          go_wp2_with fail
          go_roundg r.length
          case measure => simp at hg; omega
          case rel => exact ⟨done, r, q + 1, rfl, by go_num, HFL.out, by omega, HD2.out, by rw [HPF.out, HQ.out], HFR.out, by simp at hdl; omega⟩
        | false =>
          have hst : stopB c = false := by unfold stopB; rw [hx]; simpa using h35
          have HM := Lib.hid (rfield_any s q (c :: r) wr hq hd (by omega))
          rcases hgf : fieldD q (c :: r) with k | ⟨y, r1⟩
          · have HQ := Lib.hid (fields_bad hst q k r hgf)
            rw [hgf] at HM
            clear hd hpf hlen1 hlen hc hd2 hfl hfr hx h35 hgf hst
            go_wp2_with fail
            refine HW.out.mono ?_
            rintro e w2 ⟨rfl, rfl⟩
            go_wp2_with fail
            refine HM.out.mono ?_
            rintro e w2 ⟨rfl, rfl⟩
            go_wp2_with fail
            go_ret3
            rw [HPF.out, HQ.out]
            exact ⟨rfl, HFR.out⟩
          · have HQ := Lib.hid (fields_one hst q r y r1 hgf)
            obtain ⟨-, -, -, hlt1⟩ := field_ok _ _ y r1 hgf
            have hlt1 := hlt1 ⟨c, r, rfl, hst⟩
            rw [hgf] at HM
            have hg2 : r1.length < gk := by omega
            have hd2' : done.length + 1 + r1.length ≤ 200 := by omega
            have HQS := Lib.hid hlen1
            have hrx := rd_two wr (strV y) (.int .i64 (q : Int)) 49
            have HRX := Lib.hid hrx
            obtain ⟨i0', hi0, hz0, hz1, hz2⟩ := info_parts infoR
            have hf5 := Fr.new wr (.cells #[strV y, .int .i64 (q : Int)] 49) (fun _ => False)
            have HF5 := Lib.hid (ff hfr hf5)
            have HFL5 := Lib.hid (hfl.fr hf5 (fun g e => e.elim))
            have hs5 : w.heap.size ≤ (wr.alloc (.cells #[strV y, .int .i64 (q : Int)] 49)).heap.size := (ff hfr hf5).size
            clear hd hpf hlen1 hlen hc hd2 hfl hfr hx h35 hgf hst hrx hf5 hg hdl
            go_wp2_with fail
            refine HW.out.mono ?_
            rintro e w2 ⟨rfl, rfl⟩
            go_wp2_with fail
            refine HM.out.mono ?_
            rintro e w2 ⟨rfl, q3, hq3, hd3, rfl⟩
            have HD3 := Lib.hid hd3
            have HQ3 := Lib.hid hq3
            clear hd3
            go_wp2_with (at_builtin; refine wpList_append_rd _ rfl (.tmp 39) (.tmp 43) 27 rfl w.heap.size 49 i0' _ 2 24 Try.underlying27 hi0 hz0 hz1 hz2 rfl (by decide) _ done.length _ rfl HFL5.out _ 1 1 [strV y, .int .i64 (q : Int)] rfl HRX.out (one_two' _ _) (by simp only [maxLen]; omega) (by omega) hs5 ?_; intro v7 w7 hown7 hg7 _)
            have hfl7 : Flds 49 w7 w.heap.size v7 (done ++ [(y, q)]) := by
              show World.ownsRow _ _ _ _ _ _ _
              simpa [cellsF] using hown7
            have hf7 := Fr.ofGrown hg7
            obtain ⟨A7, c7, rfl⟩ := own_slice hfl7
            have hge : ∀ k, some k = (Value.slice A5 done.length c5).ownBlock → w.heap.size ≤ k := fun k e => (HFL5.out.lt k e.symm).1
            go_roundg r1.length
            case measure => omega
            case rel =>
              have hlen7 := drop_len HD3.out HQ3.out
              refine ⟨done ++ [(y, q)], r1, q3, rfl, rfl, hfl7, HQ3.out, HD3.out, ?_, HF5.out.fresh hf7 (fun i e => hge _ e), by simp; omega⟩
              rw [HPF.out, HQ.out, show q + ((c :: r).length - r1.length) = q3 by have := HQS.out; omega]
              cases fieldsD q3 r1 with
              | error k => rfl
              | ok x => simp [Except.map]
end Go.Proofs.Ytolmemdkklfdpaa
