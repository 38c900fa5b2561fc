import Derived.Test.YtghcfmoagkimaaaGreatDoorYa20
import Derived.Shelf.Strings.BuilderK
import Derived.Lib.FrozenHead2
import Derived.Lib.OthersKept
import Derived.Lib.Hide
import Derived.Lib.MinMax
import Derived.Test.YtghcfmoagkimaaaGreatDoorYa14
namespace Go.Proofs.YtghcfmoagkimaaaGreatDoor
open Go.RowKit Go.Mem Go.Lin Go.Fmx

set_option maxHeartbeats 1600000 in
theorem f16fits_any (n : Nat) (hn : n < 256) (w : World) : Calls Tryz.prog 23 #[.int .u8 (n : Int)] w fun e w' => e = .returned (.bool (plainN n)) ∧ w' = w := by
  have hseg : n < 43 ∨ n = 43 ∨ n = 44 ∨ n = 45 ∨ (46 ≤ n ∧ n < 48) ∨ (48 ≤ n ∧ n ≤ 57) ∨ (58 ≤ n ∧ n < 65) ∨ (65 ≤ n ∧ n ≤ 90) ∨ (91 ≤ n ∧ n < 97) ∨ (97 ≤ n ∧ n ≤ 122) ∨ 122 < n := by omega
  rcases hseg with h | h | h | h | h | h | h | h | h | h | h
  · have HN : plainN n = false := plainN_no (by omega)
    rw [HN]
    clear HN
    have p0 : (n : Int) < 97 := by omega
    have d0 : decide (97 ≤ (n : Int)) = false := decide_eq_false (by omega)
    have p1 : (n : Int) ≤ 122 := by omega
    have d1 : decide ((n : Int) ≤ 122) = true := decide_eq_true (by omega)
    have p2 : (n : Int) < 65 := by omega
    have d2 : decide (65 ≤ (n : Int)) = false := decide_eq_false (by omega)
    have p3 : (n : Int) ≤ 90 := by omega
    have d3 : decide ((n : Int) ≤ 90) = true := decide_eq_true (by omega)
    have p4 : (n : Int) < 48 := by omega
    have d4 : decide (48 ≤ (n : Int)) = false := decide_eq_false (by omega)
    have p5 : (n : Int) ≤ 57 := by omega
    have d5 : decide ((n : Int) ≤ 57) = true := decide_eq_true (by omega)
    have q43 : ((n : Int) == 43) = false := by rw [beq_eq_false_iff_ne]; omega
    have q45 : ((n : Int) == 45) = false := by rw [beq_eq_false_iff_ne]; omega
    clear h
    go_enter Tryz.func23, Tryz.ntmps23
    go_wp2_with fail
    go_ret
    exact ⟨rfl, rfl⟩
  · have HN : plainN n = true := plainN_yes (by omega)
    rw [HN]
    clear HN
    have p0 : (n : Int) < 97 := by omega
    have d0 : decide (97 ≤ (n : Int)) = false := decide_eq_false (by omega)
    have p1 : (n : Int) ≤ 122 := by omega
    have d1 : decide ((n : Int) ≤ 122) = true := decide_eq_true (by omega)
    have p2 : (n : Int) < 65 := by omega
    have d2 : decide (65 ≤ (n : Int)) = false := decide_eq_false (by omega)
    have p3 : (n : Int) ≤ 90 := by omega
    have d3 : decide ((n : Int) ≤ 90) = true := decide_eq_true (by omega)
    have p4 : (n : Int) < 48 := by omega
    have d4 : decide (48 ≤ (n : Int)) = false := decide_eq_false (by omega)
    have p5 : (n : Int) ≤ 57 := by omega
    have d5 : decide ((n : Int) ≤ 57) = true := decide_eq_true (by omega)
    have q43 : ((n : Int) == 43) = true := by rw [beq_iff_eq]; omega
    have q45 : ((n : Int) == 45) = false := by rw [beq_eq_false_iff_ne]; omega
    clear h
    go_enter Tryz.func23, Tryz.ntmps23
    go_wp2_with fail
    go_ret
    exact ⟨rfl, rfl⟩
  · have HN : plainN n = false := plainN_no (by omega)
    rw [HN]
    clear HN
    have p0 : (n : Int) < 97 := by omega
    have d0 : decide (97 ≤ (n : Int)) = false := decide_eq_false (by omega)
    have p1 : (n : Int) ≤ 122 := by omega
    have d1 : decide ((n : Int) ≤ 122) = true := decide_eq_true (by omega)
    have p2 : (n : Int) < 65 := by omega
    have d2 : decide (65 ≤ (n : Int)) = false := decide_eq_false (by omega)
    have p3 : (n : Int) ≤ 90 := by omega
    have d3 : decide ((n : Int) ≤ 90) = true := decide_eq_true (by omega)
    have p4 : (n : Int) < 48 := by omega
    have d4 : decide (48 ≤ (n : Int)) = false := decide_eq_false (by omega)
    have p5 : (n : Int) ≤ 57 := by omega
    have d5 : decide ((n : Int) ≤ 57) = true := decide_eq_true (by omega)
    have q43 : ((n : Int) == 43) = false := by rw [beq_eq_false_iff_ne]; omega
    have q45 : ((n : Int) == 45) = false := by rw [beq_eq_false_iff_ne]; omega
    clear h
    go_enter Tryz.func23, Tryz.ntmps23
    go_wp2_with fail
    go_ret
    exact ⟨rfl, rfl⟩
  · have HN : plainN n = true := plainN_yes (by omega)
    rw [HN]
    clear HN
    have p0 : (n : Int) < 97 := by omega
    have d0 : decide (97 ≤ (n : Int)) = false := decide_eq_false (by omega)
    have p1 : (n : Int) ≤ 122 := by omega
    have d1 : decide ((n : Int) ≤ 122) = true := decide_eq_true (by omega)
    have p2 : (n : Int) < 65 := by omega
    have d2 : decide (65 ≤ (n : Int)) = false := decide_eq_false (by omega)
    have p3 : (n : Int) ≤ 90 := by omega
    have d3 : decide ((n : Int) ≤ 90) = true := decide_eq_true (by omega)
    have p4 : (n : Int) < 48 := by omega
    have d4 : decide (48 ≤ (n : Int)) = false := decide_eq_false (by omega)
    have p5 : (n : Int) ≤ 57 := by omega
    have d5 : decide ((n : Int) ≤ 57) = true := decide_eq_true (by omega)
    have q43 : ((n : Int) == 43) = false := by rw [beq_eq_false_iff_ne]; omega
    have q45 : ((n : Int) == 45) = true := by rw [beq_iff_eq]; omega
    clear h
    go_enter Tryz.func23, Tryz.ntmps23
    go_wp2_with fail
    go_ret
    exact ⟨rfl, rfl⟩
  · have HN : plainN n = false := plainN_no (by omega)
    rw [HN]
    clear HN
    have p0 : (n : Int) < 97 := by omega
    have d0 : decide (97 ≤ (n : Int)) = false := decide_eq_false (by omega)
    have p1 : (n : Int) ≤ 122 := by omega
    have d1 : decide ((n : Int) ≤ 122) = true := decide_eq_true (by omega)
    have p2 : (n : Int) < 65 := by omega
    have d2 : decide (65 ≤ (n : Int)) = false := decide_eq_false (by omega)
    have p3 : (n : Int) ≤ 90 := by omega
    have d3 : decide ((n : Int) ≤ 90) = true := decide_eq_true (by omega)
    have p4 : (n : Int) < 48 := by omega
    have d4 : decide (48 ≤ (n : Int)) = false := decide_eq_false (by omega)
    have p5 : (n : Int) ≤ 57 := by omega
    have d5 : decide ((n : Int) ≤ 57) = true := decide_eq_true (by omega)
    have q43 : ((n : Int) == 43) = false := by rw [beq_eq_false_iff_ne]; omega
    have q45 : ((n : Int) == 45) = false := by rw [beq_eq_false_iff_ne]; omega
    clear h
    go_enter Tryz.func23, Tryz.ntmps23
    go_wp2_with fail
    go_ret
    exact ⟨rfl, rfl⟩
  · have HN : plainN n = true := plainN_yes (by omega)
    rw [HN]
    clear HN
    have p0 : (n : Int) < 97 := by omega
    have d0 : decide (97 ≤ (n : Int)) = false := decide_eq_false (by omega)
    have p1 : (n : Int) ≤ 122 := by omega
    have d1 : decide ((n : Int) ≤ 122) = true := decide_eq_true (by omega)
    have p2 : (n : Int) < 65 := by omega
    have d2 : decide (65 ≤ (n : Int)) = false := decide_eq_false (by omega)
    have p3 : (n : Int) ≤ 90 := by omega
    have d3 : decide ((n : Int) ≤ 90) = true := decide_eq_true (by omega)
    have p4 : 48 ≤ (n : Int) := by omega
    have d4 : decide (48 ≤ (n : Int)) = true := decide_eq_true (by omega)
    have p5 : (n : Int) ≤ 57 := by omega
    have d5 : decide ((n : Int) ≤ 57) = true := decide_eq_true (by omega)
    have q43 : ((n : Int) == 43) = false := by rw [beq_eq_false_iff_ne]; omega
    have q45 : ((n : Int) == 45) = false := by rw [beq_eq_false_iff_ne]; omega
    clear h
    go_enter Tryz.func23, Tryz.ntmps23
    go_wp2_with fail
    go_ret
    exact ⟨rfl, rfl⟩
  · have HN : plainN n = false := plainN_no (by omega)
    rw [HN]
    clear HN
    have p0 : (n : Int) < 97 := by omega
    have d0 : decide (97 ≤ (n : Int)) = false := decide_eq_false (by omega)
    have p1 : (n : Int) ≤ 122 := by omega
    have d1 : decide ((n : Int) ≤ 122) = true := decide_eq_true (by omega)
    have p2 : (n : Int) < 65 := by omega
    have d2 : decide (65 ≤ (n : Int)) = false := decide_eq_false (by omega)
    have p3 : (n : Int) ≤ 90 := by omega
    have d3 : decide ((n : Int) ≤ 90) = true := decide_eq_true (by omega)
    have p4 : 48 ≤ (n : Int) := by omega
    have d4 : decide (48 ≤ (n : Int)) = true := decide_eq_true (by omega)
    have p5 : 57 < (n : Int) := by omega
    have d5 : decide ((n : Int) ≤ 57) = false := decide_eq_false (by omega)
    have q43 : ((n : Int) == 43) = false := by rw [beq_eq_false_iff_ne]; omega
    have q45 : ((n : Int) == 45) = false := by rw [beq_eq_false_iff_ne]; omega
    clear h
    go_enter Tryz.func23, Tryz.ntmps23
    go_wp2_with fail
    go_ret
    exact ⟨rfl, rfl⟩
  · have HN : plainN n = true := plainN_yes (by omega)
    rw [HN]
    clear HN
    have p0 : (n : Int) < 97 := by omega
    have d0 : decide (97 ≤ (n : Int)) = false := decide_eq_false (by omega)
    have p1 : (n : Int) ≤ 122 := by omega
    have d1 : decide ((n : Int) ≤ 122) = true := decide_eq_true (by omega)
    have p2 : 65 ≤ (n : Int) := by omega
    have d2 : decide (65 ≤ (n : Int)) = true := decide_eq_true (by omega)
    have p3 : (n : Int) ≤ 90 := by omega
    have d3 : decide ((n : Int) ≤ 90) = true := decide_eq_true (by omega)
    have p4 : 48 ≤ (n : Int) := by omega
    have d4 : decide (48 ≤ (n : Int)) = true := decide_eq_true (by omega)
    have p5 : 57 < (n : Int) := by omega
    have d5 : decide ((n : Int) ≤ 57) = false := decide_eq_false (by omega)
    have q43 : ((n : Int) == 43) = false := by rw [beq_eq_false_iff_ne]; omega
    have q45 : ((n : Int) == 45) = false := by rw [beq_eq_false_iff_ne]; omega
    clear h
    go_enter Tryz.func23, Tryz.ntmps23
    go_wp2_with fail
    go_ret
    exact ⟨rfl, rfl⟩
  · have HN : plainN n = false := plainN_no (by omega)
    rw [HN]
    clear HN
    have p0 : (n : Int) < 97 := by omega
    have d0 : decide (97 ≤ (n : Int)) = false := decide_eq_false (by omega)
    have p1 : (n : Int) ≤ 122 := by omega
    have d1 : decide ((n : Int) ≤ 122) = true := decide_eq_true (by omega)
    have p2 : 65 ≤ (n : Int) := by omega
    have d2 : decide (65 ≤ (n : Int)) = true := decide_eq_true (by omega)
    have p3 : 90 < (n : Int) := by omega
    have d3 : decide ((n : Int) ≤ 90) = false := decide_eq_false (by omega)
    have p4 : 48 ≤ (n : Int) := by omega
    have d4 : decide (48 ≤ (n : Int)) = true := decide_eq_true (by omega)
    have p5 : 57 < (n : Int) := by omega
    have d5 : decide ((n : Int) ≤ 57) = false := decide_eq_false (by omega)
    have q43 : ((n : Int) == 43) = false := by rw [beq_eq_false_iff_ne]; omega
    have q45 : ((n : Int) == 45) = false := by rw [beq_eq_false_iff_ne]; omega
    clear h
    go_enter Tryz.func23, Tryz.ntmps23
    go_wp2_with fail
    go_ret
    exact ⟨rfl, rfl⟩
  · have HN : plainN n = true := plainN_yes (by omega)
    rw [HN]
    clear HN
    have p0 : 97 ≤ (n : Int) := by omega
    have d0 : decide (97 ≤ (n : Int)) = true := decide_eq_true (by omega)
    have p1 : (n : Int) ≤ 122 := by omega
    have d1 : decide ((n : Int) ≤ 122) = true := decide_eq_true (by omega)
    have p2 : 65 ≤ (n : Int) := by omega
    have d2 : decide (65 ≤ (n : Int)) = true := decide_eq_true (by omega)
    have p3 : 90 < (n : Int) := by omega
    have d3 : decide ((n : Int) ≤ 90) = false := decide_eq_false (by omega)
    have p4 : 48 ≤ (n : Int) := by omega
    have d4 : decide (48 ≤ (n : Int)) = true := decide_eq_true (by omega)
    have p5 : 57 < (n : Int) := by omega
    have d5 : decide ((n : Int) ≤ 57) = false := decide_eq_false (by omega)
    have q43 : ((n : Int) == 43) = false := by rw [beq_eq_false_iff_ne]; omega
    have q45 : ((n : Int) == 45) = false := by rw [beq_eq_false_iff_ne]; omega
    clear h
    go_enter Tryz.func23, Tryz.ntmps23
    go_wp2_with fail
    go_ret
    exact ⟨rfl, rfl⟩
  · have HN : plainN n = false := plainN_no (by omega)
    rw [HN]
    clear HN
    have p0 : 97 ≤ (n : Int) := by omega
    have d0 : decide (97 ≤ (n : Int)) = true := decide_eq_true (by omega)
    have p1 : 122 < (n : Int) := by omega
    have d1 : decide ((n : Int) ≤ 122) = false := decide_eq_false (by omega)
    have p2 : 65 ≤ (n : Int) := by omega
    have d2 : decide (65 ≤ (n : Int)) = true := decide_eq_true (by omega)
    have p3 : 90 < (n : Int) := by omega
    have d3 : decide ((n : Int) ≤ 90) = false := decide_eq_false (by omega)
    have p4 : 48 ≤ (n : Int) := by omega
    have d4 : decide (48 ≤ (n : Int)) = true := decide_eq_true (by omega)
    have p5 : 57 < (n : Int) := by omega
    have d5 : decide ((n : Int) ≤ 57) = false := decide_eq_false (by omega)
    have q43 : ((n : Int) == 43) = false := by rw [beq_eq_false_iff_ne]; omega
    have q45 : ((n : Int) == 45) = false := by rw [beq_eq_false_iff_ne]; omega
    clear h
    go_enter Tryz.func23, Tryz.ntmps23
    go_wp2_with fail
    go_ret
    exact ⟨rfl, rfl⟩
set_option maxHeartbeats 3200000 in
theorem f16PlainW (s : Bs) (w : World) (hs : s.length ≤ 1000000) : Calls Tryz.prog 11 #[strV s] w fun e w' => e = .returned (.bool (plainB s)) ∧ w' = w := by
  by_cases hl : 3 ≤ s.length ∧ s.length ≤ 6
  · have HGd := Lib.hid (plain_good hl)
    go_enter Tryz.func11, Tryz.ntmps11
    obtain ⟨l1, l2⟩ := hl
    go_wp2_with fail
    go_loopg [3, 14] s.length (fun g _ v14 wr => ∃ i : Nat, v14 = intV i ∧ i + g = s.length ∧ (∀ (j : Nat) (c : UInt8), j < i → s[j]? = some c → plainN c.toNat = true) ∧ wr = w)
    case atStart => exact ⟨0, rfl, by omega, fun k c hk => by omega, rfl⟩
    case round =>
      obtain ⟨i, rfl, hg, hno, rfl⟩ := hrel
      have HNo := Lib.hid hno
      clear hno
      by_cases hlt : i < s.length
      · have i0 : (i : Int) < (s.length : Int) := by omega
        obtain ⟨c, hc⟩ : ∃ c, s[i]? = some c := ⟨s[i], List.getElem?_eq_getElem hlt⟩
        have HI := fun w => sl_idx (P := Tryz.prog) w 9 Tryz.underlying9 s i c hc
        have HBd := Lib.hid (plain_bad hc)
        have HSt := Lib.hid (fun (h : plainN c.toNat = true) (j : Nat) (x : UInt8) (hj : j < i + 1) (hx : s[j]? = some x) => (show plainN x.toNat = true by
          by_cases e : j = i
          · subst e
            rw [hc] at hx
            cases hx
            exact h
          · exact HNo.out j x (by omega) hx))
        have HF := Lib.hid (fun w => f16fits_any c.toNat c.toNat_lt w)
        generalize c.toNat = n at *
        clear hc
        generalize plainN n = b at *
        cases b with
        | true =>
          have HN := Lib.hid (HSt.out rfl)
          clear HBd HSt
          go_wp2_with fail
          refine (HF.out _).mono ?_
          rintro e w1 ⟨rfl, rfl⟩
          go_wp2_with fail
          clear HI
          go_roundg (s.length - (i + 1))
          case measure => omega
          case rel => exact ⟨i + 1, by go_num, by omega, HN.out, rfl⟩
        | false =>
          have HR := Lib.hid (HBd.out rfl)
          clear HBd HSt
          go_wp2_with fail
          refine (HF.out _).mono ?_
          rintro e w1 ⟨rfl, rfl⟩
          go_wp2_with fail
          go_ret
          exact ⟨by rw [HR.out]; rfl, rfl⟩
      · have HR := Lib.hid (HGd.out (fun j c hj hc => HNo.out j c (by omega) hc))
        have i0 : ¬ (i : Int) < (s.length : Int) := by omega
        go_wp2_with fail
        go_ret
        exact ⟨by rw [HR.out]; rfl, rfl⟩
  · have HR := Lib.hid (plain_len hl)
    by_cases h3 : s.length < 3
    · have h3 : (s.length : Int) < 3 := by omega
      clear hl
      go_enter Tryz.func11, Tryz.ntmps11
      go_wp2_with fail
      go_ret
      exact ⟨by rw [HR.out]; rfl, rfl⟩
    · have h4 : 6 < (s.length : Int) := by omega
      have h3 : ¬ (s.length : Int) < 3 := by omega
      clear hl
      go_enter Tryz.func11, Tryz.ntmps11
      go_wp2_with fail
      go_ret
      exact ⟨by rw [HR.out]; rfl, rfl⟩
theorem f16Plain_any (s : Bs) (w : World) (hs : s.length ≤ 1000000) : Calls Tryz.prog 11 #[strV s] w fun e w' => e = .returned (.bool (plainB s)) ∧ Fr w w' (fun _ => False) :=
  (f16PlainW s w hs).mono (by rintro e w' ⟨rfl, rfl⟩; exact ⟨rfl, Fr.refl _ _⟩)
end Go.Proofs.YtghcfmoagkimaaaGreatDoor
/- strings.Builder in a block of any type that is laid out as one -/
namespace Go.Proofs.YtghcfmoagkimaaaGreatDoor
open Go.RowKit Go.Mem Go.Lin

theorem b16_u8 : (Tryz.prog.info? 5).map (fun i => (i.zero, i.size, i.bytes)) = some (some (.int .u8 0), 1, 1) := by kernel_rfl
theorem b16_sb : (Tryz.prog.info? 109).map (fun i => i.size) = some 2 := by kernel_rfl

/-- block b, of type T, is a Builder that holds the bytes l -/
def IsT (T : TypeId) (w : World) (b : Nat) (l : Bs) : Prop := Lib.IsBuilderF T 5 b b (Lib.byteCells l) w
/-- a variable of type T begins with a Builder -/
def LieT (T : TypeId) : Prop := liesAt Tryz.prog Tryz.prog.depth T (2 / Tryz.prog.cellsOf T) 0 109 1 = true ∧ T ≠ 5
theorem IsT.lt {T : TypeId} {w : World} {b : Nat} {l : Bs} (h : IsT T w b l) : b < w.heap.size := h.elim (fun x => x.lt) (fun x => x.lt)
theorem IsT.fr {T : TypeId} {w w' : World} {b : Nat} {l : Bs} {S : Nat → Prop} (h : IsT T w b l) (hf : Fr w w' S) (hs : ∀ k, b ≤ k → ¬ S k) : IsT T w' b l := by
  have each : ∀ p, Lib.BuilderAtF T 5 b b p (Lib.byteCells l) w → Lib.BuilderAtF T 5 b b p (Lib.byteCells l) w' := by
    rintro p ⟨hB, v, hb, hown, hne⟩
    refine ⟨hB, v, (hf.block b (Array.getElem?_eq_some_iff.1 hb).1 (hs b (Nat.le_refl _))).trans hb, ?_, hne⟩
    refine ⟨hown.1, ?_⟩
    rcases hown.2 with hn | ⟨g, cap, cur, fz, rfl, hbg, hgg, rest⟩
    · exact .inl hn
    · exact .inr ⟨g, cap, cur, fz, rfl, hbg, (hf.block g (Array.getElem?_eq_some_iff.1 hgg).1 (hs g hbg)).trans hgg, rest⟩
  exact h.imp (each _) (each _)
theorem isT_new (T : TypeId) (w : World) : IsT T (w.alloc (.cells #[.pointer none, .slice none 0 0] T)) w.heap.size [] :=
  .inl ⟨Nat.le_refl _, _, heap_alloc_new w _, ⟨rfl, .inl ⟨rfl, rfl⟩⟩, by simp [Value.ownBlock]⟩

theorem checkT_any (T : TypeId) (hT : LieT T) (B b : Nat) (bs : List Value) (w : World) (h : Lib.IsBuilderF T 5 B b bs w) :
    Calls Tryz.prog 95 #[.pointer (some ⟨b, 0, none⟩)] w fun e w' => e = .returned (.tuple #[]) ∧ (Lib.BuilderAtF T 5 B b (.pointer (some ⟨b, 0, none⟩)) bs w' ∧ Below B w w') := by
  obtain ⟨j, hj, hjs⟩ : ∃ j, Tryz.prog.info? 109 = some j ∧ j.size = 2 := by
    have := b16_sb
    cases hi : Tryz.prog.info? 109 with
    | none => rw [hi] at this; cases this
    | some j => rw [hi] at this; exact ⟨j, rfl, by simpa using this⟩
  rcases h with h | h
  · have c0 := h.cell0
    have f0 := h.frozen0
    have hsh := h.shape
    have he : ∀ w, (binOp .eql 106 (.pointer none) (.pointer none)).run Tryz.prog w = .ok (.bool true) w := fun w => by kernel_rfl
    have hto := Lib.run_to_unsafe (P := Tryz.prog) w (src := 106) (dst := 176) ⟨b, 0, none⟩ Tryz.underlying106 Tryz.underlying176 hj (by omega) hsh (by show (0 : Nat) < 2; decide)
    have hfrom := Lib.run_from_unsafe (P := Tryz.prog) w (src := 176) (dst := 106) ⟨b, 0, none⟩ Tryz.underlying176 Tryz.underlying106 hj hsh hT.1
    have hne : ∀ w, (callFunc 128 #[.pointer (some ⟨b, 0, none⟩)]).run Tryz.prog w = .ok (.value (.pointer (some ⟨b, 0, none⟩))) w := fun w => by kernel_rfl
    have hb2 := h.used (.pointer (some ⟨b, 0, none⟩))
    have c2 := hb2.cell0
    have hs2 := fun (w : World) => Lib.run_neq_ptr_same (P := Tryz.prog) w (tp := 106) ⟨b, 0, none⟩ Tryz.underlying106 hj
    have HX := Lib.hid hb2
    have HB := Lib.hid h.1
    clear hb2 h
    go_enter Tryz.func95, Tryz.ntmps95
    go_wp2
    go_end0
    exact ⟨rfl, HX.out, (Below.refl B w).setCell (p := ⟨b, 0, none⟩) HB.out _⟩
  · have c0 := h.cell0
    have hs2 := fun (w : World) => Lib.run_neq_ptr_same (P := Tryz.prog) w (tp := 106) ⟨b, 0, none⟩ Tryz.underlying106 hj
    have he : ∀ w, (binOp .eql 106 (.pointer (some ⟨b, 0, none⟩)) (.pointer none)).run Tryz.prog w = .ok (.bool false) w := fun w => by kernel_rfl
    have HX := Lib.hid h
    clear h
    go_enter Tryz.func95, Tryz.ntmps95
    go_wp2
    go_end0
    exact ⟨rfl, HX.out, Below.refl B _⟩

set_option maxHeartbeats 400000 in
theorem byteT_any (T : TypeId) (hT : LieT T) (b : Nat) (l : Bs) (c : UInt8) (n : Int) (w : World) (h : IsT T w b l) (hlen : l.length ≤ 1000000) (hn : n = (c.toNat : Int)) :
    Calls Tryz.prog 98 #[.pointer (some ⟨b, 0, none⟩), .int .u8 n] w fun e w' => e = .returned .nilIface ∧ IsT T w' b (l ++ [c]) ∧ Fr w w' (fun k => b ≤ k) := by
  subst hn
  obtain ⟨i0, hi, hz0, hz1, hz2⟩ := info_parts b16_u8
  have hl : (Lib.byteCells l).length = l.length := by simp [Lib.byteCells]
  have HBC := Lib.hid (show Lib.byteCells (l ++ [c]) = Lib.byteCells l ++ [.int .u8 c.toNat] by simp [Lib.byteCells])
  have hlt := h.lt
  have h' : Lib.IsBuilderF T 5 b b (Lib.byteCells l) w := h
  clear h
  generalize Lib.byteCells l = bs at h' hl HBC
  rw [← hl] at hlen
  have HL := Lib.hid hl
  clear hl
  go_enter Tryz.func98, Tryz.ntmps98
  go_wp2_with fail
  refine (checkT_any T hT b b bs w h').mono ?_
  rintro e w1 ⟨rfl, h1, hb1⟩
  obtain ⟨hB, v, hbk, hown, hne⟩ := h1
  have c1 : w1.cell? ⟨b, 1, none⟩ = some v := by rw [Lib.cell_of_heap hbk]; rfl
  have hsz := hb1.size
  go_wp2_with (at_builtin; refine wpList_append_ownF _ rfl _ _ 107 rfl b 5 i0 (.int .u8 0) 1 1 Tryz.underlying107 hi hz0 hz1 hz2 rfl (by decide) _ _ _ rfl (hown.alloc _) ⟨w1.heap.size, 0, none⟩ 1 1 [.int .u8 c.toNat] rfl rfl ?c1 ?c2 ?c3 ?c4 ?c5 ?_)
  case c1 =>
    intro j u hj
    match j, hj with
    | 0, hj => simp at hj; subst hj; simp [Addr.add]
  case c2 => intro u hu; simp at hu; subst hu; rfl
  case c3 => unfold maxLen; omega
  case c4 => omega
  case c5 => simp; omega
  intro v' w2 hown' hgrow _
  have hlt1 : b < w1.heap.size := by omega
  have hb2 : w2.heap[b]? = some (.cells #[.pointer (some ⟨b, 0, none⟩), v] T (0, 0)) := by
    rw [hgrow.block b (by simp; omega) (fun e => hne e.symm), Lib.alloc_old w1 _ b hlt1]
    exact hbk
  have d0 : w2.cell? ⟨b, 0, none⟩ = some (.pointer (some ⟨b, 0, none⟩)) := by rw [Lib.cell_of_heap hb2]; rfl
  have d1 : w2.cell? ⟨b, 1, none⟩ = some v := by rw [Lib.cell_of_heap hb2]; rfl
  have f1 : w2.frozen? ⟨b, 1, none⟩ = false := Lib.frozen_of_heap hb2 1
  obtain ⟨g, cap, rfl⟩ : ∃ g cap, v' = .slice (some ⟨g, 0, none⟩) (bs.length + 1) cap := by
    rcases hown'.2 with ⟨_, h0⟩ | ⟨g, cap, cur, fz, hv, _⟩
    · omega
    · exact ⟨g, cap, hv⟩
  go_wp2
  go_ret
  refine ⟨rfl, ?_, ?_⟩
  · exact .inr (HBC.out ▸ Lib.BuilderAtF.put (T := T) (e := 5) hB hb2 (bs' := bs ++ [.int .u8 c.toNat]) (by simpa using hown') hT.2)
  · exact Fr.ofBelow (((hb1.alloc (by omega) _).grown hgrow (by simp; omega) (fun k hk => (hown.lt k hk).1)).setCell (p := ⟨b, 1, none⟩) hB _)

set_option maxHeartbeats 1000000 in
set_option maxRecDepth 100000 in
/-- the text of a builder that holds a byte -/
theorem stringT_any (T : TypeId) (b : Nat) (l : Bs) (w : World) (h : IsT T w b l) (h0 : l ≠ []) :
    Calls Tryz.prog 66 #[.pointer (some ⟨b, 0, none⟩)] w fun e w' => e = .returned (strV l) ∧ Fr w w' (fun k => b ≤ k) := by
  obtain ⟨p, hp, hAt⟩ : ∃ p, (p = .pointer none ∨ p = .pointer (some ⟨b, 0, none⟩)) ∧ Lib.BuilderAtF T 5 b b p (Lib.byteCells l) w := by
    rcases h with h | h
    · exact ⟨_, .inl rfl, h⟩
    · exact ⟨_, .inr rfl, h⟩
  obtain ⟨hB, v, hbk, hown, hne⟩ := hAt
  have hl0 : l.length ≠ 0 := by simpa using h0
  rw [Lib.byteCells_length] at hown
  obtain ⟨g, cap, cur, fz, rfl, hbg, hg, hfz, hnc, hcm, hcs, htake⟩ : ∃ g cap cur fz, v = .slice (some ⟨g, 0, none⟩) l.length cap ∧ b ≤ g ∧ w.heap[g]? = some (.cells cur 5 fz) ∧ fz.2 ≤ l.length * 1 ∧ l.length ≤ cap ∧ cap ≤ maxLen ∧ cur.size = cap * 1 ∧ cur.toList.take (l.length * 1) = Lib.byteCells l := by
    rcases hown.2 with ⟨_, hz⟩ | ⟨g, cap, cur, fz, hv, r⟩
    · exact absurd hz hl0
    · exact ⟨g, cap, cur, fz, hv, r⟩
  have c1 : w.drew.cell? ⟨b, 1, none⟩ = some (.slice (some ⟨g, 0, none⟩) l.length cap) := by
    have : w.drew.heap[b]? = some (.cells #[p, .slice (some ⟨g, 0, none⟩) l.length cap] T (0, 0)) := hbk
    rw [Lib.cell_of_heap this]; rfl
  have hSD : (Builtin.unsafeSliceData_ #[107] 150 #[.slice (some ⟨g, 0, none⟩) l.length cap]).run Tryz.prog w.drew = .ok (.pointer (some ⟨g, 0, none⟩)) w.drew :=
    Lib.run_unsafeSliceData_row _ _ _ _ _ _ (by omega)
  have hUS : (Builtin.unsafeString_ #[150, 3] 9 #[.pointer (some ⟨g, 0, none⟩), .int .i64 l.length]).run Tryz.prog w.drew = .ok (.string ⟨l.toArray⟩) (w.drew.freeze ⟨g, 0, none⟩ l.length) := by
    refine Lib.run_unsafeString_row w.drew 150 3 9 5 Tryz.underlying150 (by kernel_rfl) g cur.size (by have hg' : w.drew.heap[g]? = some (.cells cur 5 fz) := hg; simp [World.shape?, hg']) l h0 (by omega) (by unfold maxLen at hcm; omega) ?_
    intro j x hx
    have := hown.cells (g := g) rfl j (.int .u8 x.toNat) (by simp [Lib.byteCells, hx])
    exact this
  have hmx : Tryz.prog.follows .mixedOrders = true := by kernel_rfl
  have HBG := Lib.hid hbg
  clear h hbk hown hne hg hfz hnc hcm hcs htake hp hB hbg
  go_enter Tryz.func66, Tryz.ntmps66
  go_wp2
  go_region_o
  all_goals (go_wp2; go_ret; exact ⟨rfl, Fr.ofBelow (Lib.below_freeze (Below.drew (Below.refl b w)) (p := ⟨g, 0, none⟩) HBG.out _)⟩)
end Go.Proofs.YtghcfmoagkimaaaGreatDoor
namespace Go.Proofs.YtghcfmoagkimaaaGreatDoor
open Go.RowKit Go.Mem Go.Lin Go.Fmx

theorem lie_bld : LieT 121 := ⟨by kernel_rfl, by decide⟩
theorem chr16 {n : Nat} (h : n < 10) : ((48 + n : Nat) : Int) = ((Go.Clk.chr n).toNat : Int) := by
  have : ∀ n : Fin 10, ((48 + n.1 : Nat) : Int) = ((Go.Clk.chr n.1).toNat : Int) := by decide
  exact this ⟨n, h⟩
theorem f16sign_any (b : Nat) (l : Bs) (n : Int) (c : UInt8) (hc : c = if n < 0 then 45 else 43) (w : World) (h : IsT 121 w b l) (hl : l.length ≤ 1000) :
    Calls Tryz.prog 67 #[.pointer (some ⟨b, 0, none⟩), intV n] w fun e w' => e = .returned (.tuple #[]) ∧ IsT 121 w' b (l ++ [c]) ∧ Fr w w' (fun k => b ≤ k) := by
  by_cases hn : n < 0
  · rw [if_pos hn] at hc
    subst hc
    have HB := Lib.hid (fun w h => byteT_any 121 lie_bld b l 45 45 w h (by omega) rfl)
    have HH := Lib.hid h
    clear h hl
    go_enter Tryz.func67, Tryz.ntmps67
    go_wp2_with fail
    refine (HB.out _ HH.out).mono ?_
    rintro e w2 ⟨rfl, h2, hf2⟩
    have H2 := Lib.hid (And.intro h2 hf2)
    clear h2 hf2
    go_wp2_with fail
    refine bodyPost_ret (results_none rfl _ _ _) rfl ?_
    exact ⟨rfl, H2.out⟩
  · rw [if_neg hn] at hc
    subst hc
    have HB := Lib.hid (fun w h => byteT_any 121 lie_bld b l 43 43 w h (by omega) rfl)
    have HH := Lib.hid h
    clear h hl
    go_enter Tryz.func67, Tryz.ntmps67
    go_wp2_with fail
    refine (HB.out _ HH.out).mono ?_
    rintro e w2 ⟨rfl, h2, hf2⟩
    have H2 := Lib.hid (And.intro h2 hf2)
    clear h2 hf2
    go_wp2_with fail
    go_end0
    exact ⟨rfl, H2.out⟩
theorem f16pair_any (b : Nat) (l : Bs) (a : Nat) (n : Int) (hn : n = (a : Int)) (ha : a < 100) (w : World) (h : IsT 121 w b l) (hl : l.length ≤ 1000) :
    Calls Tryz.prog 68 #[.pointer (some ⟨b, 0, none⟩), .int .i64 n] w fun e w' => e = .returned (.tuple #[]) ∧ IsT 121 w' b (l ++ Go.Clk.twoL a) ∧ Fr w w' (fun k => b ≤ k) := by
  have H1 := Lib.hid (fun w h => byteT_any 121 lie_bld b l (Go.Clk.chr (a / 10)) (48 + n / 10) w h (by omega) ((show 48 + n / 10 = ((48 + a / 10 : Nat) : Int) by omega).trans (chr16 (by omega))))
  have H2 := Lib.hid (fun w h => byteT_any 121 lie_bld b (l ++ [Go.Clk.chr (a / 10)]) (Go.Clk.chr (a % 10)) (48 + n % 10) w h (by simp; omega) ((show 48 + n % 10 = ((48 + a % 10 : Nat) : Int) by omega).trans (chr16 (by omega))))
  have HH := Lib.hid h
  have HT := Lib.hid (show (l ++ [Go.Clk.chr (a / 10)]) ++ [Go.Clk.chr (a % 10)] = l ++ Go.Clk.twoL a by rw [List.append_assoc]; rfl)
  have b1 : 0 ≤ n := by omega
  have b2 : n < 100 := by omega
  clear h hl hn ha
  go_enter Tryz.func68, Tryz.ntmps68
  go_wp2_with fail
  refine (H1.out _ HH.out).mono ?_
  rintro e w2 ⟨rfl, h2, hf2⟩
  have K2 := Lib.hid h2
  have F2 := Lib.hid hf2
  clear h2 hf2
  go_wp2_with fail
  refine (H2.out _ K2.out).mono ?_
  rintro e w3 ⟨rfl, h3, hf3⟩
  have K3 := Lib.hid h3
  have F3 := Lib.hid (F2.out.trans hf3 (fun _ _ h => h) (fun _ _ h => h))
  clear h3 hf3
  go_wp2_with fail
  go_end0
  exact ⟨rfl, HT.out ▸ K3.out, F3.out⟩
theorem f16told_any (x0 x1 x2 : Int) (k : Nat) (hk : k = 3 ∧ x2 ≠ 0 ∨ k = 2 ∧ x2 = 0 ∧ x1 ≠ 0 ∨ k = 1 ∧ x2 = 0 ∧ x1 = 0) (w : World) :
    Calls Tryz.prog 69 #[.agg #[intV x0, intV x1, intV x2]] w fun e w' => e = .returned (intV (k : Int)) ∧ Fr w w' (fun _ => False) := by
  have HB := Blk.made w 118 #[intV x0, intV x1, intV x2]
  have HF := Fr.new w (.cells #[intV x0, intV x1, intV x2] 118) (fun _ => False)
  have e2 : w.alloc (.cells #[.int .i64 x0, .int .i64 x1, .int .i64 x2] 118) = w.alloc (.cells #[intV x0, intV x1, intV x2] 118) := rfl
  obtain ⟨w2, hw2⟩ : ∃ w2, w.alloc (.cells #[intV x0, intV x1, intV x2] 118) = w2 := ⟨_, rfl⟩
  rw [hw2] at e2 HB HF
  have c1 : w2.cell? ⟨w.heap.size, 1, none⟩ = some (.int .i64 x1) := blkc HB 1 _ rfl
  have c2 : w2.cell? ⟨w.heap.size, 2, none⟩ = some (.int .i64 x2) := blkc HB 2 _ rfl
  have HK := Lib.hid hk
  have HF2 := Lib.hid HF
  clear HB HF hk
  go_enter Tryz.func69, Tryz.ntmps69
  go_wp2_with fail
  go_loop [3] (fun v3 => v3 = .int .i64 3 ∨ (v3 = .int .i64 2 ∧ x2 = 0) ∨ (v3 = .int .i64 1 ∧ x2 = 0 ∧ x1 = 0)) (fun v3 => (intOf v3).toNat)
  case atStart => exact .inl rfl
  case round =>
    rcases hrel with rfl | ⟨rfl, h2⟩ | ⟨rfl, h2, h1⟩
    · by_cases h2 : x2 = 0
      · have t2 : (x2 == 0) = true := by rw [beq_iff_eq]; exact h2
        have H2 := Lib.hid h2
        clear h2
        go_wp2_with fail
        go_round
        case measure => simp [intOf]
        case rel => exact .inr (.inl ⟨rfl, H2.out⟩)
      · have t2 : (x2 == 0) = false := by rw [beq_eq_false_iff_ne]; exact h2
        have HE := Lib.hid (show k = 3 by have := HK.out; omega)
        clear h2
        go_wp2_with fail
        go_ret
        exact ⟨by rw [HE.out]; rfl, HF2.out⟩
    · have H2 := Lib.hid h2
      clear h2
      by_cases h1 : x1 = 0
      · have t1 : (x1 == 0) = true := by rw [beq_iff_eq]; exact h1
        have H1 := Lib.hid h1
        clear h1
        go_wp2_with fail
        go_round
        case measure => simp [intOf]
        case rel => exact .inr (.inr ⟨rfl, H2.out, H1.out⟩)
      · have t1 : (x1 == 0) = false := by rw [beq_eq_false_iff_ne]; exact h1
        have HE := Lib.hid (show k = 2 by have := HK.out; have := H2.out; omega)
        clear h1
        go_wp2_with fail
        go_ret
        exact ⟨by rw [HE.out]; rfl, HF2.out⟩
    · have HE := Lib.hid (show k = 1 by have := HK.out; omega)
      clear h1 h2
      go_wp2_with fail
      go_ret
      exact ⟨by rw [HE.out]; rfl, HF2.out⟩
/-- the digits of so many parts -/
def partsL (p0 p1 p2 k : Nat) : Bs := (([p0, p1, p2].take k).map Go.Clk.twoL).flatten
theorem parts_next0 (p0 p1 p2 : Nat) : partsL p0 p1 p2 1 = partsL p0 p1 p2 0 ++ Go.Clk.twoL p0 := by simp [partsL]
theorem parts_next1 (p0 p1 p2 : Nat) : partsL p0 p1 p2 2 = partsL p0 p1 p2 1 ++ Go.Clk.twoL p1 := by simp [partsL]
theorem parts_next2 (p0 p1 p2 : Nat) : partsL p0 p1 p2 3 = partsL p0 p1 p2 2 ++ Go.Clk.twoL p2 := by simp [partsL]
theorem parts_dig (a k : Nat) (hk : k = 3 ∧ a % 60 ≠ 0 ∨ k = 2 ∧ a % 60 = 0 ∧ a % 3600 / 60 ≠ 0 ∨ k = 1 ∧ a % 60 = 0 ∧ a % 3600 / 60 = 0) : partsL (a / 3600) (a % 3600 / 60) (a % 60) k = digN a := by
  have e : a % 3600 / 60 = a / 60 % 60 := by omega
  rcases hk with ⟨rfl, h⟩ | ⟨rfl, h, h1⟩ | ⟨rfl, h, h1⟩
  · rw [digN_2 (by omega) h, e]
    simp [partsL]
  · rw [digN_1 (by omega) h, e]
    simp [partsL]
  · rw [digN_0 (by omega)]
    simp [partsL]
theorem parts_len (p0 p1 p2 k : Nat) : (partsL p0 p1 p2 k).length ≤ 6 := by
  have l2 : ∀ x, (Go.Clk.twoL x).length = 2 := fun _ => rfl
  match k with
  | 0 => simp [partsL]
  | 1 => simp [partsL, l2]
  | 2 => simp [partsL, l2]
  | k + 3 => simp [partsL, l2]
end Go.Proofs.YtghcfmoagkimaaaGreatDoor
namespace Go.Proofs.YtghcfmoagkimaaaGreatDoor
open Go.RowKit Go.Mem Go.Lin Go.Fmx

def DigRel (w : World) (c : UInt8) (p0 p1 p2 k : Nat) (g : Nat) (_ v32 : Value) (wr : World) : Prop :=
  ∃ i : Nat, v32 = intV i ∧ i + g = k ∧ Fr w wr (fun _ => False) ∧ Blk wr w.heap.size 118 #[intV p0, intV p1, intV p2] ∧ IsT 121 wr (w.heap.size + 1) (c :: partsL p0 p1 p2 i)
set_option maxHeartbeats 6400000 in
set_option maxRecDepth 100000 in
theorem f16digits_any (n : Int) (h1 : -180000 ≤ n) (h2 : n ≤ 180000) (w : World) : Calls Tryz.prog 40 #[.int .i64 n] w fun e w' => e = .returned (strV (digD n)) ∧ Fr w w' (fun _ => False) := by
  have hmf : ∀ (fn : Fn) (first cap : Array Value) (w : World), (Instr.makeFunc fn first cap).run Tryz.prog w = .ok (.func fn first cap) w := fun _ _ _ _ => rfl
  obtain ⟨a, ha⟩ : ∃ a, n.natAbs = a := ⟨_, rfl⟩
  obtain ⟨c, hc⟩ : ∃ c : UInt8, c = if n < 0 then 45 else 43 := ⟨_, rfl⟩
  have hD : digD n = c :: digN a := by unfold digD; rw [← hc, ha]
  have hmax : max n (-n) = (a : Int) := by omega
  have hwn : IntKind.i64.wrap (-n) = -n := by rw [IntKind.wrap_i64]; omega
  obtain ⟨p0, hp0⟩ : ∃ p, a / 3600 = p := ⟨_, rfl⟩
  obtain ⟨p1, hp1⟩ : ∃ p, a % 3600 / 60 = p := ⟨_, rfl⟩
  obtain ⟨p2, hp2⟩ : ∃ p, a % 60 = p := ⟨_, rfl⟩
  have e0 : (a : Int) / 3600 = (p0 : Int) := by omega
  have e1 : (a : Int) % 3600 / 60 = (p1 : Int) := by omega
  have e2 : (a : Int) % 60 = (p2 : Int) := by omega
  obtain ⟨k, hk⟩ : ∃ k : Nat, k = 3 ∧ p2 ≠ 0 ∨ k = 2 ∧ p2 = 0 ∧ p1 ≠ 0 ∨ k = 1 ∧ p2 = 0 ∧ p1 = 0 := by
    by_cases x : p2 = 0
    · by_cases y : p1 = 0
      · exact ⟨1, .inr (.inr ⟨rfl, x, y⟩)⟩
      · exact ⟨2, .inr (.inl ⟨rfl, x, y⟩)⟩
    · exact ⟨3, .inl ⟨rfl, x⟩⟩
  have hPD := parts_dig a k (by rw [hp1, hp2]; exact hk)
  rw [hp0, hp1, hp2] at hPD
  rw [hD, ← hPD]
  have HT := Lib.hid (fun w => f16told_any (p0 : Int) p1 p2 k (by omega) w)
  have k1 : 1 ≤ (k : Int) := by omega
  have k3 : (k : Int) ≤ 3 := by omega
  have q0 : p0 < 100 := by omega
  have q1 : p1 < 100 := by omega
  have q2 : p2 < 100 := by omega
  have Q := Lib.hid (And.intro q0 (And.intro q1 q2))
  have a0 : (0 : Int) ≤ (a : Int) := by omega
  have a9 : (a : Int) ≤ 180000 := by omega
  -- the memory
  obtain ⟨wa, hwa⟩ : ∃ x, w.alloc (.cells #[.int .i64 (p0 : Int), .int .i64 (p1 : Int), .int .i64 (p2 : Int)] 118) = x := ⟨_, rfl⟩
  obtain ⟨wb, hwb⟩ : ∃ x, wa.alloc (.cells #[.pointer none, .slice none 0 0] 121) = x := ⟨_, rfl⟩
  have hza : wa.heap.size = w.heap.size + 1 := by rw [← hwa]; simp
  have F1 : Fr w wb (fun _ => False) := ff4 (show Fr w wa _ by rw [← hwa]; exact Fr.new _ _ _) (show Fr wa wb _ by rw [← hwb]; exact Fr.new _ _ _)
  have B1 : Blk wb w.heap.size 118 #[intV p0, intV p1, intV p2] := by
    rw [← hwb]
    exact (Fr.new wa _ (fun _ => False)).blk (by rw [← hwa]; exact Blk.made w _ _) (fun h => h)
  have I1 : IsT 121 wb (w.heap.size + 1) [] := by rw [← hwb, ← hza]; exact isT_new _ _
  have hE : (w.alloc (.cells #[.int .i64 (p0 : Int), .int .i64 (p1 : Int), .int .i64 (p2 : Int)] 118)).alloc (.cells #[.pointer none, .slice none 0 0] 121) = wb := by rw [hwa, hwb]
  have HF1 := Lib.hid F1
  have HB1 := Lib.hid B1
  have HI1 := Lib.hid I1
  have HSg := Lib.hid (fun b w h => f16sign_any b [] n c hc w h (by simp))
  have HPr := Lib.hid (fun b l p (hp : p < 100) w h hl => f16pair_any b l p (p : Int) rfl hp w h hl)
  have HL := Lib.hid (parts_len p0 p1 p2)
  clear hD hPD hc ha hp0 hp1 hp2 hk q0 q1 q2 hwa hwb hza F1 B1 I1
  go_enter Tryz.func40, Tryz.ntmps40
  go_wp2_with fail
  refine (HSg.out (w.heap.size + 1) _ HI1.out).mono ?_
  rintro e w3 ⟨rfl, i3, f3⟩
  have b3 := f3.blk HB1.out (by omega)
  have HF3 := Lib.hid (HF1.out.fresh f3 (fun i e => by omega))
  have HB3 := Lib.hid b3
  have HI3 := Lib.hid i3
  have c0 : w3.cell? ⟨w.heap.size, 0, none⟩ = some (.int .i64 p0) := blkc b3 0 _ rfl
  have c1 : w3.cell? ⟨w.heap.size, 1, none⟩ = some (.int .i64 p1) := blkc b3 1 _ rfl
  have c2 : w3.cell? ⟨w.heap.size, 2, none⟩ = some (.int .i64 p2) := blkc b3 2 _ rfl
  clear i3 f3 b3 hE
  go_wp2_with fail
  refine (HT.out _).mono ?_
  rintro e w4 ⟨rfl, f4⟩
  have HF4 := Lib.hid (ff4 HF3.out f4)
  have HB4 := Lib.hid (f4.blk HB3.out (fun h => h))
  have HI4 := Lib.hid (HI3.out.fr f4 (fun _ _ h => h))
  clear f4 c0 c1 c2
  go_wp2_with fail
  go_loopg [8, 32] k (DigRel w c p0 p1 p2 k)
  case atStart => exact ⟨0, rfl, Nat.zero_add _, HF4.out, HB4.out, HI4.out⟩
  case round =>
    obtain ⟨i, rfl, hg, f5, b5, i5⟩ := hrel
    have HF5 := Lib.hid f5
    have HI5 := Lib.hid i5
    have HB5 := Lib.hid b5
    by_cases hik : i < k
    · have hi2 : i = 0 ∨ i = 1 ∨ i = 2 := by omega
      have c0 : wr.cell? ⟨w.heap.size, 0, none⟩ = some (.int .i64 p0) := blkc b5 0 _ rfl
      have c1 : wr.cell? ⟨w.heap.size, 1, none⟩ = some (.int .i64 p1) := blkc b5 1 _ rfl
      have c2 : wr.cell? ⟨w.heap.size, 2, none⟩ = some (.int .i64 p2) := blkc b5 2 _ rfl
      clear f5 b5 i5
      rcases hi2 with rfl | rfl | rfl
      · have k0 : (0 : Int) < (k : Int) := by omega
        have HX := Lib.hid (HPr.out (w.heap.size + 1) (c :: partsL p0 p1 p2 0) p0 Q.out.1 wr HI5.out (by have := HL.out 0; rw [List.length_cons]; omega))
        have hg := hg
        simp only [Int.cast_ofNat_Int] at *
        go_wp2_with fail
        refine HX.out.mono ?_
        rintro e w6 ⟨rfl, i6, f6⟩
        have HR := Lib.hid (show DigRel w c p0 p1 p2 k (k - (0 + 1)) (intV 0) (intV (1 : Int)) w6 from ⟨1, rfl, by omega, HF5.out.fresh f6 (fun j hj => by omega), f6.blk HB5.out (by omega), by rw [parts_next0]; exact i6⟩)
        clear i6 f6 c0 c1 c2
        go_wp2_with fail
        go_roundg (k - (0 + 1))
        case measure => omega
        case rel => exact HR.out
      · have k0 : (1 : Int) < (k : Int) := by omega
        have HX := Lib.hid (HPr.out (w.heap.size + 1) (c :: partsL p0 p1 p2 1) p1 Q.out.2.1 wr HI5.out (by have := HL.out 1; rw [List.length_cons]; omega))
        have hg := hg
        simp only [Int.cast_ofNat_Int] at *
        go_wp2_with fail
        refine HX.out.mono ?_
        rintro e w6 ⟨rfl, i6, f6⟩
        have HR := Lib.hid (show DigRel w c p0 p1 p2 k (k - (1 + 1)) (intV 0) (intV (2 : Int)) w6 from ⟨2, rfl, by omega, HF5.out.fresh f6 (fun j hj => by omega), f6.blk HB5.out (by omega), by rw [parts_next1]; exact i6⟩)
        clear i6 f6 c0 c1 c2
        go_wp2_with fail
        go_roundg (k - (1 + 1))
        case measure => omega
        case rel => exact HR.out
      · have k0 : (2 : Int) < (k : Int) := by omega
        have HX := Lib.hid (HPr.out (w.heap.size + 1) (c :: partsL p0 p1 p2 2) p2 Q.out.2.2 wr HI5.out (by have := HL.out 2; rw [List.length_cons]; omega))
        have hg := hg
        simp only [Int.cast_ofNat_Int] at *
        go_wp2_with fail
        refine HX.out.mono ?_
        rintro e w6 ⟨rfl, i6, f6⟩
        have HR := Lib.hid (show DigRel w c p0 p1 p2 k (k - (2 + 1)) (intV 0) (intV (3 : Int)) w6 from ⟨3, rfl, by omega, HF5.out.fresh f6 (fun j hj => by omega), f6.blk HB5.out (by omega), by rw [parts_next2]; exact i6⟩)
        clear i6 f6 c0 c1 c2
        go_wp2_with fail
        go_roundg (k - (2 + 1))
        case measure => omega
        case rel => exact HR.out
    · have e : i = k := by omega
      subst e
      have k0 : ¬ (i : Int) < (i : Int) := by omega
      have HS := Lib.hid (stringT_any 121 (w.heap.size + 1) (c :: partsL p0 p1 p2 i) wr i5 (by simp))
      clear f5 b5 i5
      go_wp2_with fail
      refine HS.out.mono ?_
      rintro e w6 ⟨rfl, f6⟩
      have HF6 := Lib.hid (HF5.out.fresh f6 (fun j hj => by omega))
      clear f6
      go_wp2_with fail
      go_ret
      exact ⟨rfl, HF6.out⟩
end Go.Proofs.YtghcfmoagkimaaaGreatDoor
namespace Go.Proofs.YtghcfmoagkimaaaGreatDoor
open Go.RowKit Go.Mem Go.Lin Go.Fmx

theorem f16side_any (f : Bs) (dst : Bool) (i : Nat) (hf : f.length ≤ 1000) (h : findD f [47] = some i) (w : World) (hw : MOk w) : Calls Tryz.prog 41 #[strV f, .bool dst] w fun e w' => e = .returned (strV (if dst = true then f.drop (i + 1) else f.take i)) ∧ Fr w w' (fun _ => False) := by
  have HC := Lib.hid (cut16_any f [47] i (by omega) (by decide) h w hw)
  clear hf h hw
  cases dst with
  | true =>
    rw [if_pos rfl]
    go_enter Tryz.func41, Tryz.ntmps41
    go_wp2_with fail
    refine HC.out.mono ?_
    rintro e w1 ⟨rfl, f1⟩
    have F1 := Lib.hid f1
    clear f1
    go_wp2_with fail
    go_ret
    exact ⟨rfl, F1.out⟩
  | false =>
    rw [if_neg (by decide)]
    go_enter Tryz.func41, Tryz.ntmps41
    go_wp2_with fail
    refine HC.out.mono ?_
    rintro e w1 ⟨rfl, f1⟩
    have F1 := Lib.hid f1
    clear f1
    go_wp2_with fail
    go_ret
    exact ⟨rfl, F1.out⟩
theorem f16fill_any (f letter : Bs) (off : Int) (dst : Bool) (ho : -180000 ≤ off ∧ off ≤ 180000) (hf : f.length ≤ 1000) (hl : letter.length ≤ 1000) (w : World) (hw : MOk w) : Calls Tryz.prog 24 #[strV f, strV letter, intV off, .bool dst] w fun e w' => e = .returned (strV (abbrT f letter off dst)) ∧ Fr w w' (fun _ => False) := by
  have HM := Lib.hid (fun W (g : Fr w W (fun _ => False)) => hw.fr g)
  have HS := contains16_any f [37, 115] (by omega) (by decide) w hw
  have HZ := contains16_any f [37, 122] (by omega) (by decide) w hw
  have HD := contains16_any f [47] (by omega) (by decide) w hw
  have HG := Lib.hid (f16digits_any off ho.1 ho.2 w)
  have n3 := digD_len off
  cases hs : findD f [37, 115] with
  | some i =>
    rw [hs] at HS
    have HR := replace16_any f [37, 115] letter i hf hl (by decide) hs w hw
    have eT : f.take i ++ letter ++ f.drop (i + ([37, 115] : Bs).length) = abbrT f letter off dst := (abbrT_s hs).symm
    rw [eT] at HR
    clear eT
    generalize abbrT f letter off dst = T at *
    have HR := Lib.hid HR
    have HS := Lib.hid HS
    clear HZ HD HG hs ho hf hl hw n3
    go_enter Tryz.func24, Tryz.ntmps24
    go_wp2_with fail
    refine HS.out.mono ?_
    rintro e w1 ⟨rfl, rfl⟩
    go_wp2_with fail
    refine HR.out.mono ?_
    rintro e w2 ⟨rfl, f2⟩
    have F2 := Lib.hid f2
    clear f2
    go_wp2_with fail
    go_ret
    exact ⟨rfl, F2.out⟩
  | none =>
    rw [hs] at HS
    have HS := Lib.hid HS
    cases hz : findD f [37, 122] with
    | some i =>
      rw [hz] at HZ
      have HR := fun W (g : Fr w W (fun _ => False)) => replace16_any f [37, 122] (digD off) i hf (by omega) (by decide) hz W (hw.fr g)
      have eT : f.take i ++ digD off ++ f.drop (i + ([37, 122] : Bs).length) = abbrT f letter off dst := (abbrT_z hs hz).symm
      simp only [eT] at HR
      clear eT
      generalize abbrT f letter off dst = T at *
      have HR := Lib.hid HR
      have HZ := Lib.hid HZ
      clear HD hs hz ho hf hl hw n3
      go_enter Tryz.func24, Tryz.ntmps24
      go_wp2_with fail
      refine HS.out.mono ?_
      rintro e w1 ⟨rfl, rfl⟩
      go_wp2_with fail
      refine HZ.out.mono ?_
      rintro e w2 ⟨rfl, rfl⟩
      go_wp2_with fail
      refine HG.out.mono ?_
      rintro e w3 ⟨rfl, f3⟩
      have F3 := Lib.hid f3
      clear f3
      go_wp2_with fail
      refine (HR.out _ F3.out).mono ?_
      rintro e w4 ⟨rfl, f4⟩
      have F4 := Lib.hid (ff4 F3.out f4)
      clear f4
      go_wp2_with fail
      go_ret
      exact ⟨rfl, F4.out⟩
    | none =>
      rw [hz] at HZ
      have HZ := Lib.hid HZ
      cases hd : findD f [47] with
      | some i =>
        have hT : abbrT f letter off dst = if dst = true then f.drop (i + 1) else f.take i := by
          cases dst with
          | true => rw [abbrT_d hs hz hd, if_pos rfl]
          | false => rw [abbrT_w hs hz hd, if_neg (by decide)]
        rw [hT]
        rw [hd] at HD
        have HR := Lib.hid (f16side_any f dst i hf hd w hw)
        have HD := Lib.hid HD
        obtain ⟨T, hT2⟩ : ∃ T, (if dst = true then f.drop (i + 1) else f.take i) = T := ⟨_, rfl⟩
        rw [hT2] at HR ⊢
        clear HG hs hz hd ho hf hl hw n3 hT hT2
        go_enter Tryz.func24, Tryz.ntmps24
        go_wp2_with fail
        refine HS.out.mono ?_
        rintro e w1 ⟨rfl, rfl⟩
        go_wp2_with fail
        refine HZ.out.mono ?_
        rintro e w2 ⟨rfl, rfl⟩
        go_wp2_with fail
        refine HD.out.mono ?_
        rintro e w3 ⟨rfl, rfl⟩
        go_wp2_with fail
        refine HR.out.mono ?_
        rintro e w4 ⟨rfl, f4⟩
        have F4 := Lib.hid f4
        clear f4
        go_wp2_with fail
        go_ret
        exact ⟨rfl, F4.out⟩
      | none =>
        rw [abbrT_n hs hz hd]
        rw [hd] at HD
        have HD := Lib.hid HD
        clear HG hs hz hd ho hf hl hw n3
        go_enter Tryz.func24, Tryz.ntmps24
        go_wp2_with fail
        refine HS.out.mono ?_
        rintro e w1 ⟨rfl, rfl⟩
        go_wp2_with fail
        refine HZ.out.mono ?_
        rintro e w2 ⟨rfl, rfl⟩
        go_wp2_with fail
        refine HD.out.mono ?_
        rintro e w3 ⟨rfl, rfl⟩
        go_wp2_with fail
        go_ret
        exact ⟨rfl, Fr.refl _ _⟩
theorem abbrT_len (f letter : Bs) (off : Int) (dst : Bool) (hf : f.length ≤ 1000) (hl : letter.length ≤ 1000) : (abbrT f letter off dst).length ≤ 3000 := by
  have := digD_len off
  unfold abbrT
  cases findD f [37, 115] with
  | some i => simp; omega
  | none =>
    cases findD f [37, 122] with
    | some i => simp; omega
    | none =>
      cases findD f [47] with
      | some i => dsimp only; split <;> simp <;> omega
      | none => dsimp only; omega
theorem f16Abbr_any (f letter : Bs) (off : Int) (dst : Bool) (w : World) (hw : MOk w) (hf : f.length ≤ 1000) (hl : letter.length ≤ 1000) : Calls Tryz.prog 13 #[strV f, strV letter, intV off, .bool dst] w fun e w' => e = .returned (.tuple #[strV (abbrD f letter off dst).1, intV (abbrD f letter off dst).2]) ∧ Fr w w' (fun _ => False) := by
  by_cases ho : off < -180000 ∨ 180000 < off
  · have HA := Lib.hid (abbr_arg (f := f) (letter := letter) (dst := dst) ho)
    clear hw
    rcases ho with ho | ho
    · go_enter Tryz.func13, Tryz.ntmps13
      go_wp2_with fail
      go_ret2
      exact ⟨by rw [HA.out]; rfl, Fr.refl _ _⟩
    · have ho2 : -180000 ≤ off := by omega
      go_enter Tryz.func13, Tryz.ntmps13
      go_wp2_with fail
      go_ret2
      exact ⟨by rw [HA.out]; rfl, Fr.refl _ _⟩
  · have HY := abbr_yes (f := f) (letter := letter) (dst := dst) ho
    have HN := abbr_no (f := f) (letter := letter) (dst := dst) ho
    have o1 : -180000 ≤ off := by omega
    have o2 : off ≤ 180000 := by omega
    have HF := Lib.hid (f16fill_any f letter off dst ⟨o1, o2⟩ hf hl w hw)
    have hT := abbrT_len f letter off dst hf hl
    have HP := Lib.hid (fun w => f16PlainW (abbrT f letter off dst) w (by omega))
    clear ho hw hf hl hT
    generalize abbrT f letter off dst = T at *
    cases hp : plainB T with
    | true =>
      rw [HY hp]
      rw [hp] at HP
      clear HY HN hp
      go_enter Tryz.func13, Tryz.ntmps13
      go_wp2_with fail
      refine HF.out.mono ?_
      rintro e w1 ⟨rfl, f1⟩
      have F1 := Lib.hid f1
      clear f1
      go_wp2_with fail
      refine (HP.out _).mono ?_
      rintro e w2 ⟨rfl, rfl⟩
      go_wp2_with fail
      go_ret2
      exact ⟨rfl, F1.out⟩
    | false =>
      rw [HN hp]
      rw [hp] at HP
      clear HY HN hp
      go_enter Tryz.func13, Tryz.ntmps13
      go_wp2_with fail
      refine HF.out.mono ?_
      rintro e w1 ⟨rfl, f1⟩
      have F1 := Lib.hid f1
      clear f1
      go_wp2_with fail
      refine (HP.out _).mono ?_
      rintro e w2 ⟨rfl, rfl⟩
      go_wp2_with fail
      go_ret2
      exact ⟨rfl, F1.out⟩
end Go.Proofs.YtghcfmoagkimaaaGreatDoor
namespace Go.Proofs.YtghcfmoagkimaaaGreatDoor
open Go.RowKit Go.Mem Go.Lin Go.Fmx

theorem f16bounded_any (n : Int) (w : World) : Calls Tryz.prog 42 #[intV n] w fun e w' => e = .returned (intV (max (-180001) (min n 180001))) ∧ w' = w := by
  go_enter Tryz.func42, Tryz.ntmps42
  go_wp2_with fail
  go_ret
  exact ⟨rfl, rfl⟩
/-- beyond what an abbreviation can be asked for -/
def Beyond (n : Int) : Prop := n < -180000 ∨ 180000 < n
theorem f16together_any (a b : Int) (ha : -1000000 ≤ a ∧ a ≤ 1000000) (hb : -1000000 ≤ b ∧ b ≤ 1000000) : ∃ r, (r = a + b ∨ Beyond r ∧ Beyond (a + b)) ∧ ∀ w : World, Calls Tryz.prog 25 #[intV a, intV b] w fun e w' => e = .returned (intV r) ∧ w' = w := by
  obtain ⟨a1, a2⟩ := ha
  obtain ⟨b1, b2⟩ := hb
  by_cases hs : (a < 0) = (b < 0)
  · obtain ⟨x, hx⟩ : ∃ x, max (-180001) (min a 180001) = x := ⟨_, rfl⟩
    obtain ⟨y, hy⟩ : ∃ y, max (-180001) (min b 180001) = y := ⟨_, rfl⟩
    have HX := f16bounded_any a
    have HY := f16bounded_any b
    rw [hx] at HX
    rw [hy] at HY
    have HX := Lib.hid HX
    have HY := Lib.hid HY
    have x1 : -180001 ≤ x ∧ x ≤ 180001 := by omega
    have y1 : -180001 ≤ y ∧ y ≤ 180001 := by omega
    refine ⟨x + y, ?_, ?_⟩
    · have hs2 : a < 0 ↔ b < 0 := by rw [hs]
      unfold Beyond
      omega
    · obtain ⟨x1, x2⟩ := x1
      obtain ⟨y1, y2⟩ := y1
      have t1 : (decide (a < 0) == decide (b < 0)) = true := by
        rw [beq_iff_eq]
        exact decide_eq_decide.2 (by rw [hs])
      clear hx hy hs
      intro w
      go_enter Tryz.func25, Tryz.ntmps25
      go_wp2_with fail
      refine (HX.out _).mono ?_
      rintro e w1 ⟨rfl, rfl⟩
      go_wp2_with fail
      refine (HY.out _).mono ?_
      rintro e w1 ⟨rfl, rfl⟩
      go_wp2_with fail
      go_ret
      exact ⟨rfl, rfl⟩
  · refine ⟨a + b, .inl rfl, ?_⟩
    have t1 : (decide (a < 0) == decide (b < 0)) = false := by
      rw [beq_eq_false_iff_ne]
      exact fun h => hs (propext (decide_eq_decide.1 h))
    clear hs
    intro w
    go_enter Tryz.func25, Tryz.ntmps25
    go_wp2_with fail
    go_ret
    exact ⟨rfl, rfl⟩
theorem abbr_beyond {f l : Bs} {r s : Int} {d : Bool} (h : r = s ∨ Beyond r ∧ Beyond s) : abbrD f l r d = abbrD f l s d := by
  rcases h with rfl | ⟨h1, h2⟩
  · rfl
  · rw [abbr_arg h1, abbr_arg h2]
theorem abbr_ok {f l : Bs} {r : Int} {d : Bool} {a : Bs} (h : abbrD f l r d = (a, 0)) : ¬ Beyond r := by
  intro hb
  rw [abbr_arg hb] at h
  cases h
end Go.Proofs.YtghcfmoagkimaaaGreatDoor
