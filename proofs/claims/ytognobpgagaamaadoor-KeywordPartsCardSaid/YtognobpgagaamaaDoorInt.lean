import Derived.Test.YtognobpgagaamaaDoorCom
import Derived.Test.YtognobpgagaamaaDoorShelf
import Derived.Lib.AppendIntMem
namespace Go.Proofs.YtognobpgagaamaaDoor
open Go.RowKit Go.Mem Go.Esc Go.Sort

theorem fr_grow (w : World) (k : Nat) (os : Array Obj) : Fr w (grow (w.drewN k) os) (fun _ => False) :=
  ⟨rfl, rfl, rfl, by simp [grow], fun i hi _ => by
    show (w.heap ++ os)[i]? = _
    rw [Array.getElem?_append_left hi]⟩
theorem fr_bytes (w : World) (e : TypeId) (s : ByteArray) : Fr w (Lib.bytesWorld w e s) (fun _ => False) :=
  ⟨rfl, rfl, rfl, by rw [Lib.bytesWorld_size]; omega, fun k hk _ => Lib.bytesWorld_at_old w e s k hk⟩
theorem fr_below {w w' : World} (h : Below w.heap.size w w') : Fr w w' (fun _ => False) := (Fr.ofBelow h).mono (fun i hi hs => absurd hs (by omega))

theorem Int_any (n : Int) (w : World) (hn : Go.Esc.inRange n) (hg : WOk w) : Calls Tryd.prog 33 #[.int .i64 n] w fun e w' => e = .returned (strV (Lib.itoa n)) ∧ Fr w w' (fun _ => False) := by
  obtain ⟨B, hB, hp⟩ := hg.pow
  have H1 := Lib.hid (Tryd.strconv_FormatInt_10 n hn.1 hn.2 w (hp w (Below.refl _ _)))
  clear hn hg hp hB
  go_enter Tryd.func33, Tryd.ntmps33
  go_wp2_with fail
  refine H1.out.mono ?_
  rintro e w2 ⟨rfl, k, os, hw⟩
  have HF := Lib.hid (show Fr w w2 (fun _ => False) by rw [hw]; exact fr_grow w k os)
  clear hw
  go_wp2_with fail
  go_ret
  exact ⟨rfl, HF.out⟩
theorem dig_all {s : ByteArray} : (∀ k (h : k < s.size), digB s[k] = true) ↔ s.data.toList.all digB = true := by
  rw [List.all_eq_true]
  constructor
  · intro h x hx
    obtain ⟨k, hk, e⟩ := List.getElem_of_mem hx
    rw [← e]
    exact h k (by rw [bytes_len] at hk; exact hk)
  · intro h k hk
    exact h _ (List.getElem_mem (by rw [bytes_len]; exact hk))
theorem trim_lib (l : Bs) : Lib.trimPrefix l [45] = trimL l := by
  unfold Lib.trimPrefix trimL
  cases l with
  | nil => rfl
  | cons c r =>
    by_cases h : c = 45
    · subst h
      simp [Lib.hasPrefix]
    · have h' : ¬ (45 = c) := fun e => h e.symm
      simp [Lib.hasPrefix, h, h']
theorem Int_range (c : UInt8) : (48 ≤ c.toNat ∧ c.toNat ≤ 57) ↔ ¬ ((c.toNat : Int) < 48) ∧ ¬ ((57 : Int) < (c.toNat : Int)) := by omega
set_option maxHeartbeats 400000 in
theorem isWhole_any (l : Bs) (w : World) (hz : l.length ≤ 999990) : Calls Tryd.prog 45 #[strV l] w fun e w' => e = .returned (.bool (wholeB l)) ∧ w = w' := by
  obtain ⟨x, hx⟩ : ∃ x, wholeB l = x := ⟨_, rfl⟩
  rw [hx]
  by_cases h0 : l = [48]
  · subst h0
    have hf : x = true := by rw [← hx]; rfl
    subst hf
    clear hx
    go_enter Tryd.func45, Tryd.ntmps45
    go_wp2_with fail
    go_ret
    exact ⟨rfl, rfl⟩
  · have e0 : (l == [48]) = false := by simpa using h0
    have hx2 : x = (!(trimL l).isEmpty && (trimL l).head? != some 48 && (trimL l).all digB) := by
      rw [← hx, wholeB, e0]
      rfl
    obtain ⟨t, htt, ht⟩ : ∃ t : ByteArray, t.data.toList = trimL l ∧ ∀ w, Calls Tryd.prog 53 #[strV l, .string ⟨#[45]⟩] w fun e w' => e = .returned (.string t) ∧ w' = w := by
      refine ⟨⟨(trimL l).toArray⟩, by simp, fun w => ?_⟩
      have := Tryd.strings_TrimPrefix ⟨l.toArray⟩ ⟨#[45]⟩ w
      rw [show (⟨l.toArray⟩ : ByteArray).data.toList = l by simp, show (⟨#[45]⟩ : ByteArray).data.toList = [45] from rfl, trim_lib] at this
      exact this
    have htz : t.size ≤ 999990 := by
      rw [← bytes_len, htt]
      unfold trimL
      split
      · rw [List.length_tail]; omega
      · exact hz
    rw [← htt] at hx2
    have HT := Lib.hid ht
    clear hx ht htt h0 hz
    by_cases hp : 0 < t.size
    · have hne : t.data.toList ≠ [] := fun e => by have := bytes_len t; rw [e] at this; simp at this; omega
      have hemp : t.toList.isEmpty = false := by rw [Lib.toList_data]; simpa using hne
      have hhead : t.data.toList.head? = some t[0] := by
        rw [List.head?_eq_getElem?, List.getElem?_eq_getElem (by rw [bytes_len]; exact hp)]
        rfl
      have hemp2 : t.data.toList.isEmpty = false := by simpa using hne
      by_cases h48 : t[0] = 48
      · have hf : x = false := by rw [hx2]; simp [hhead, h48]
        subst hf
        have h48' : ((t[0].toNat : Int) == 48) = true := by rw [h48]; rfl
        clear hx2 hne hhead hemp2 h48
        go_enter Tryd.func45, Tryd.ntmps45
        go_wp2_with fail
        refine (HT.out _).mono ?_
        rintro e w' ⟨rfl, rfl⟩
        go_wp2_with fail
        go_ret
        exact ⟨rfl, rfl⟩
      · have h48' : ((t[0].toNat : Int) == 48) = false := toNat_ne (k := 48) h48 rfl
        have HX := Lib.hid (show x = t.data.toList.all digB by rw [hx2]; simp [hhead, hemp2, h48])
        clear hx2 hne hhead hemp2 h48
        go_enter Tryd.func45, Tryd.ntmps45
        go_wp2_with fail
        refine (HT.out _).mono ?_
        rintro e w' ⟨rfl, rfl⟩
        go_wp2_with fail
        go_loop [18] (fun v => ∃ k : Nat, k ≤ t.size ∧ v = .int .i64 k ∧ ∀ j (h : j < t.size), j < k → digB t[j] = true) (fun v => t.size - (intOf v).toNat)
        case atStart => exact ⟨0, Nat.zero_le _, rfl, fun j _ h => absurd h (by omega)⟩
        case round =>
          obtain ⟨k, hk, rfl, hall⟩ := hrel
          have HA := Lib.hid hall
          clear hall
          by_cases hlt : k < t.size
          · have HI := Lib.hid (Int_range t[k])
            by_cases p1 : (t[k].toNat : Int) < 48
            · have hf : x = false := by
                rw [HX.out, Bool.eq_false_iff]
                intro e
                have := (HI.out.1 ((digB_iff _).1 (dig_all.2 e k hlt))).1
                omega
              subst hf
              go_wp2_with fail
              go_ret
              exact ⟨rfl, rfl⟩
            · by_cases p2 : (57 : Int) < (t[k].toNat : Int)
              · have hf : x = false := by
                  rw [HX.out, Bool.eq_false_iff]
                  intro e
                  have := (HI.out.1 ((digB_iff _).1 (dig_all.2 e k hlt))).2
                  omega
                subst hf
                go_wp2_with fail
                go_ret
                exact ⟨rfl, rfl⟩
              · have HY := Lib.hid ((digB_iff _).2 (HI.out.2 ⟨p1, p2⟩))
                go_wp2_with fail
                go_round
                case rel => exact ⟨k + 1, by omega, by go_num, fun j h hj => by
                  by_cases e : j = k
                  · subst e; exact HY.out
                  · exact HA.out j h (by omega)⟩
                case measure => simp [intOf]; omega
          · have hf : x = true := by
              rw [HX.out]
              exact dig_all.1 fun j h => HA.out j h (by omega)
            subst hf
            go_wp2_with fail
            go_ret
            exact ⟨rfl, rfl⟩
    · have hl0 : t.data.toList = [] := List.length_eq_zero_iff.1 (by rw [bytes_len]; omega)
      have hf : x = false := by rw [hx2, hl0]; rfl
      subst hf
      have hemp : t.toList.isEmpty = true := by rw [Lib.toList_data, hl0]; rfl
      clear hx2 hl0
      go_enter Tryd.func45, Tryd.ntmps45
      go_wp2_with fail
      refine (HT.out _).mono ?_
      rintro e w' ⟨rfl, rfl⟩
      go_wp2_with fail
      go_ret
      exact ⟨rfl, rfl⟩
set_option maxHeartbeats 400000 in
theorem ParseInt_any (l : Bs) (w : World) (hz : l.length ≤ 999990) (hg : WOk w) :
    Calls Tryd.prog 30 #[strV l] w fun e w' => e = .returned (.tuple #[.int .i64 (parsed l).1, .int .i64 (parsed l).2]) ∧ Fr w w' (fun _ => False) := by
  have HW := Lib.hid (isWhole_any l w hz)
  have hs : (⟨l.toArray⟩ : ByteArray).size = l.length := by show l.toArray.size = _; simp
  have hl : (⟨l.toArray⟩ : ByteArray).data.toList = l := by simp
  obtain ⟨n, k, hp⟩ : ∃ n k, parsed l = (n, k) := ⟨_, _, rfl⟩
  rw [hp]
  unfold parsed at hp
  cases hw : wholeB l
  · rw [hw] at HW
    rw [if_neg (by rw [hw]; decide)] at hp
    obtain ⟨rfl, rfl⟩ := Prod.mk.inj hp
    clear hp hw hg
    go_enter Tryd.func30, Tryd.ntmps30
    go_wp2_with fail
    refine HW.out.mono ?_
    rintro e w' ⟨rfl, rfl⟩
    go_wp2_with fail
    go_ret2
    exact ⟨rfl, Fr.refl _ _⟩
  · rw [hw] at HW
    rw [if_pos hw] at hp
    have hpar := whole_parse hw
    by_cases hr : Go.Esc.inRange (numV l)
    · rw [if_pos hr] at hp hpar
      obtain ⟨rfl, rfl⟩ := Prod.mk.inj hp
      have HP := Lib.hid (Tryd.strconv_ParseInt_10_at64_ok ⟨l.toArray⟩ (by rw [hs]; omega) (numV l) (by rw [hl]; exact hpar) w)
      have hne : ∀ w : World, (binOp .neq 53 .nilIface .nilIface).run Tryd.prog w = .ok (.bool false) w := fun w => by kernel_rfl
      generalize numV l = v at HP
      clear hp hw hg hr hpar
      go_enter Tryd.func30, Tryd.ntmps30
      go_wp2_with fail
      refine HW.out.mono ?_
      rintro e w' ⟨rfl, rfl⟩
      go_wp2_with fail
      refine HP.out.mono ?_
      rintro e w2 ⟨rfl, hw2⟩
      have HF := Lib.hid (show Fr w w2 (fun _ => False) by
        rcases hw2 with rfl | ⟨t, rfl⟩
        · exact Fr.refl _ _
        · exact fr_bytes _ _ _)
      clear hw2
      go_wp2_with fail
      go_ret2
      exact ⟨rfl, HF.out⟩
    · rw [if_neg hr] at hp hpar
      obtain ⟨rfl, rfl⟩ := Prod.mk.inj hp
      obtain ⟨tp, p, hvar⟩ := hg.ran
      have HP := Lib.hid (Any.strconv_ParseInt_10_at64_range Tryd.laysC174 ⟨l.toArray⟩ (by rw [hs]; omega) (by rw [hl]; exact hpar) _ w hvar (.inr ⟨tp, p, rfl⟩))
      have hne : ∀ (N : Nat) (w : World), (binOp .neq 53 (.iface 68 (.pointer (some ⟨N, 0, none⟩))) .nilIface).run Tryd.prog w = .ok (.bool true) w := fun N w => by kernel_rfl
      clear hp hw hg hr hpar hvar
      generalize Lib.intSat 64 _ = v at HP
      go_enter Tryd.func30, Tryd.ntmps30
      go_wp2_with fail
      refine HW.out.mono ?_
      rintro e w' ⟨rfl, rfl⟩
      go_wp2_with fail
      refine HP.out.mono ?_
      rintro e w2 ⟨N, rfl, -, -, hb⟩
      have HF := Lib.hid (fr_below hb)
      clear hb
      go_wp2_with fail
      go_ret2
      exact ⟨rfl, HF.out⟩
end Go.Proofs.YtognobpgagaamaaDoor
