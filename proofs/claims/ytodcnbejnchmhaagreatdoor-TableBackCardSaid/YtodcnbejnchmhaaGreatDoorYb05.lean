import Derived.Test.YtodcnbejnchmhaaGreatDoorYb04
import Derived.Lib.SplitLaws
namespace Go.Kwd
open Go.Lib

theorem split_nil : split [] [47] = [[]] := by
  rw [split, count_miss (by simp [index])]
  rfl
theorem split_eq (l : Bs) : split (47 :: l) [47] = [] :: split l [47] := by
  have hix : index (47 :: l) [47] = ((0 : Nat) : Int) := by rw [index]; simp [List.isPrefixOf]
  rw [split, count_cons_eq, Nat.add_comm, splitK, hix]
  simp [split]
theorem split_one (c : UInt8) (l : Bs) (h : c ≠ 47) : ∃ p ps, split l [47] = p :: ps ∧ split (c :: l) [47] = (c :: p) :: ps := by
  have hp : ([47] : List UInt8).isPrefixOf (c :: l) = false := by simp [List.isPrefixOf, Ne.symm h]
  have hix : index (c :: l) [47] = if index l [47] == -1 then -1 else index l [47] + 1 := by rw [index, hp]; simp
  unfold split
  rw [count_cons_ne c 47 l h]
  by_cases hm : index l [47] = -1
  · rw [count_miss hm]
    exact ⟨l, [], rfl, rfl⟩
  · have hge := index_ge l [47]
    obtain ⟨j, hj⟩ : ∃ j : Nat, index l [47] = j := ⟨(index l [47]).toNat, by omega⟩
    have hix' : index (c :: l) [47] = ((j + 1 : Nat) : Int) := by rw [hix, if_neg (fun e => hm (beq_iff_eq.1 e)), hj]; omega
    rw [count_hit (by simp) hj, Nat.add_comm, splitK, splitK, if_neg (fun e => hm (beq_iff_eq.1 e)), if_neg (by rw [hix']; intro e; have := beq_iff_eq.1 e; omega), hj, hix']
    exact ⟨_, _, rfl, by simp⟩
theorem split_ne : ∀ l : Bs, ∃ p ps, split l [47] = p :: ps
  | [] => ⟨[], [], split_nil⟩
  | c :: l => by
    by_cases h : c = 47
    · subst h
      exact ⟨_, _, split_eq l⟩
    · obtain ⟨p, ps, _, h2⟩ := split_one c l h
      exact ⟨_, _, h2⟩
/-- may a part of a zone's name be so? -/
def allM : Bool → Bs → Bool
  | b, [] => !b
  | b, c :: r => zoneB b c && allM false r
theorem zone_split : ∀ (l : Bs) (b : Bool) (p : Bs) (ps : List Bs), split l [47] = p :: ps → zoneM b l = (allM b p && ps.all (allM true))
  | [], b, p, ps, h => by
    rw [split_nil] at h
    obtain ⟨rfl, rfl⟩ := List.cons.inj h
    simp [zoneM, allM]
  | c :: l, b, p, ps, h => by
    by_cases hc : c = 47
    · subst hc
      rw [split_eq] at h
      obtain ⟨rfl, rfl⟩ := List.cons.inj h
      obtain ⟨q, qs, hq⟩ := split_ne l
      rw [hq, zoneM, if_pos rfl, zone_split l true q qs hq]
      rfl
    · obtain ⟨q, qs, h1, h2⟩ := split_one c l hc
      rw [h2] at h
      obtain ⟨rfl, rfl⟩ := List.cons.inj h
      rw [zoneM, if_neg hc, zone_split l false q qs h1, allM, Bool.and_assoc]
/-- one byte of a part, wherever it stands -/
def partC (c : UInt8) : Bool := ruleB c || c == 43
def partB (p : Bs) : Bool := !p.isEmpty && p.head? != some 45 && p.all partC
theorem zone_b (c : UInt8) : zoneB false c = partC c ∧ zoneB true c = (partC c && c != 45) := by
  have H : ∀ k : Fin 256, zoneB false (UInt8.ofNat k.val) = partC (UInt8.ofNat k.val) ∧ zoneB true (UInt8.ofNat k.val) = (partC (UInt8.ofNat k.val) && UInt8.ofNat k.val != 45) := by decide +kernel
  have := H ⟨c.toNat, c.toNat_lt⟩
  simp only [UInt8.ofNat_toNat] at this
  exact this
theorem all_false : ∀ r : Bs, allM false r = r.all partC
  | [] => rfl
  | c :: r => by rw [allM, all_false r, (zone_b c).1]; rfl
theorem all_part (p : Bs) : allM true p = partB p := by
  cases p with
  | nil => rfl
  | cons c r =>
    rw [allM, all_false, (zone_b c).2, partB]
    rw [Bool.eq_iff_iff]
    simp
    constructor
    · rintro ⟨⟨h1, h2⟩, h3⟩; exact ⟨h2, h1, h3⟩
    · rintro ⟨h2, h1, h3⟩; exact ⟨⟨h1, h2⟩, h3⟩
/-- what the program's Zone says -/
theorem zone_prog (l : Bs) (h : l.length ≤ 30) : zoneD l = (split l [47]).all partB := by
  obtain ⟨p, ps, hp⟩ := split_ne l
  have hz : zoneM true l = (split l [47]).all partB := by
    rw [zone_split l true p ps hp, hp, List.all_cons, all_part, show allM true = partB from funext all_part]
  unfold zoneD
  rw [hz]
  cases l with
  | nil => rw [split_nil]; rfl
  | cons c r =>
    have hl : decide (1 ≤ (c :: r).length) = true := by simp
    rw [hl, decide_eq_true h]
    rfl
end Go.Kwd
