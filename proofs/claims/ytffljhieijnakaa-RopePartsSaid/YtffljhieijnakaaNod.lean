import Derived.Test.YtffljhieijnakaaProg
import Derived.Test.YtffljhieijnakaaMem
import Derived.Test.YtffljhieijnakaaPlain
import Derived.Lib.Hide
import Derived.BigQuiet
import Derived.Deep.QuietTactic
import Derived.WalkLawsBesides
import Derived.IntWalk
namespace Go.Proofs.Ytffljhieijnakaa
open Go.RowKit Go.Mem Go.Rope

abbrev strV (l : Bs) : Value := .string ⟨l.toArray⟩
abbrev ptr (g : Nat) : Value := .pointer (some ⟨g, 0, none⟩)
/-- the value v is a node (none: nil) in blocks below B: its bytes are s, its height is h -/
inductive NodeAt (w : World) (B : Nat) : Value → Bs → Nat → Prop
  | empty : NodeAt w B (.pointer none) [] 0
  | leaf {g : Nat} {s : Bs} (hg : g < B) (hk : Blk w g 68 #[.pointer none, .pointer none, strV s, .int .i64 (s.length : Int), .int .i64 (feeds s : Int), .int .i64 1])
      (h0 : s ≠ []) (h1 : s.length ≤ 128) : NodeAt w B (ptr g) s 1
  | pair {g : Nat} {va vb : Value} {sa sb : Bs} {ha hb : Nat} (hg : g < B)
      (hk : Blk w g 68 #[va, vb, strV [], .int .i64 ((sa.length + sb.length : Nat) : Int), .int .i64 ((feeds sa + feeds sb : Nat) : Int), .int .i64 ((1 + max ha hb : Nat) : Int)])
      (na : NodeAt w B va sa ha) (nb : NodeAt w B vb sb hb) (h1 : 1 ≤ ha) (h2 : 1 ≤ hb) (h3 : ha ≤ hb + 1) (h4 : hb ≤ ha + 1) : NodeAt w B (ptr g) (sa ++ sb) (1 + max ha hb)

theorem NodeAt.fr {w w' : World} {B B' : Nat} {v : Value} {s : Bs} {h : Nat} {S : Nat → Prop} (n : NodeAt w B v s h) (hf : Fr w w' S) (hS : ∀ k, k < B → ¬ S k) (hB : B ≤ B') : NodeAt w' B' v s h := by
  induction n with
  | empty => exact .empty
  | leaf hg hk h0 h1 => exact .leaf (by omega) (hf.blk hk (hS _ hg)) h0 h1
  | pair hg hk na nb h1 h2 h3 h4 iha ihb => exact .pair (by omega) (hf.blk hk (hS _ hg)) iha ihb h1 h2 h3 h4
theorem NodeAt.mono {w : World} {B B' : Nat} {v : Value} {s : Bs} {h : Nat} (n : NodeAt w B v s h) (hB : B ≤ B') : NodeAt w B' v s h := n.fr (Fr.refl w (fun _ => False)) (fun _ _ x => x) hB
theorem NodeAt.keep {w w' : World} {B : Nat} {v : Value} {s : Bs} {h : Nat} (n : NodeAt w B v s h) (hf : Fr w w' (fun _ => False)) : NodeAt w' B v s h := n.fr hf (fun _ _ x => x) (Nat.le_refl _)
/-- a node's height, and its bytes -/
theorem NodeAt.few {w : World} {B : Nat} {v : Value} {s : Bs} {h : Nat} (n : NodeAt w B v s h) : (h = 0 → s = []) ∧ (1 ≤ h → least h ≤ s.length) := by
  induction n with
  | empty => exact ⟨fun _ => rfl, fun h => by omega⟩
  | leaf hg hk h0 h1 => exact ⟨fun h => by omega, fun _ => List.length_pos_iff.2 h0⟩
  | pair hg hk na nb h1 h2 h3 h4 iha ihb =>
    refine ⟨fun h => by omega, fun _ => ?_⟩
    rw [List.length_append]
    exact least_pair h1 h2 h3 h4 (iha.2 h1) (ihb.2 h2)
theorem NodeAt.zero {w : World} {B : Nat} {v : Value} {s : Bs} {h : Nat} (n : NodeAt w B v s h) : (h = 0 ↔ s = []) := by
  refine ⟨n.few.1, fun e => ?_⟩
  rcases Nat.eq_zero_or_pos h with h0 | h0
  · exact h0
  · have h1 := n.few.2 h0
    have h2 := least_mono (show 0 ≤ h by omega)
    have e0 : least 0 = 1 := rfl
    rw [e, List.length_nil] at h1
    omega
theorem NodeAt.height_le {w : World} {B : Nat} {v : Value} {s : Bs} {h : Nat} (n : NodeAt w B v s h) (hs : s.length ≤ 20000) : h ≤ 21 := by
  rcases Nat.eq_zero_or_pos h with h0 | h0
  · omega
  · exact least_small (n.few.2 h0) hs
/-- any node that is there has its height, its bytes and its feeds in its block -/
theorem NodeAt.block {w : World} {B : Nat} {v : Value} {s : Bs} {h : Nat} (n : NodeAt w B v s h) (h1 : 1 ≤ h) : ∃ g x y l, v = ptr g ∧ g < B ∧ Blk w g 68 #[x, y, l, .int .i64 (s.length : Int), .int .i64 (feeds s : Int), .int .i64 (h : Int)] := by
  cases n with
  | empty => omega
  | leaf hg hk h0 h1 => exact ⟨_, _, _, _, rfl, hg, hk⟩
  | pair hg hk na nb h1 h2 h3 h4 =>
    rw [← List.length_append, ← feeds_app] at hk
    exact ⟨_, _, _, _, rfl, hg, hk⟩
theorem NodeAt.nil {w : World} {B : Nat} {v : Value} {s : Bs} {h : Nat} (n : NodeAt w B v s h) (h0 : h = 0) : v = .pointer none ∧ s = [] := by
  cases n with
  | empty => exact ⟨rfl, rfl⟩
  | leaf => omega
  | pair => omega

theorem eq_nil_ptr (w : World) (g : Nat) : (binOp .eql 51 (ptr g) (.pointer none)).run Try.prog w = .ok (.bool false) w := by kernel_rfl
theorem bytes_any {w : World} {B : Nat} {v : Value} {s : Bs} {h : Nat} (n : NodeAt w B v s h) :
    Calls Try.prog 29 #[v] w fun e w' => e = .returned (.int .i64 (s.length : Int)) ∧ w = w' := by
  rcases Nat.eq_zero_or_pos h with h0 | h0
  · obtain ⟨rfl, rfl⟩ := n.nil h0
    clear n
    go_enter Try.func29, Try.ntmps29
    go_wp2_with fail
    go_ret
    exact ⟨rfl, rfl⟩
  · obtain ⟨g, x, y, l, rfl, hg, hb⟩ := n.block h0
    have c3 := cell_at hb 3
    simp at c3
    have hne := fun w => eq_nil_ptr w g
    clear hb n
    go_enter Try.func29, Try.ntmps29
    go_wp2_with fail
    go_ret
    exact ⟨rfl, rfl⟩
theorem breaks_any {w : World} {B : Nat} {v : Value} {s : Bs} {h : Nat} (n : NodeAt w B v s h) :
    Calls Try.prog 33 #[v] w fun e w' => e = .returned (.int .i64 (feeds s : Int)) ∧ w = w' := by
  rcases Nat.eq_zero_or_pos h with h0 | h0
  · obtain ⟨rfl, rfl⟩ := n.nil h0
    clear n
    go_enter Try.func33, Try.ntmps33
    go_wp2_with fail
    go_ret
    exact ⟨rfl, rfl⟩
  · obtain ⟨g, x, y, l, rfl, hg, hb⟩ := n.block h0
    have c3 := cell_at hb 4
    simp at c3
    have hne := fun w => eq_nil_ptr w g
    clear hb n
    go_enter Try.func33, Try.ntmps33
    go_wp2_with fail
    go_ret
    exact ⟨rfl, rfl⟩
theorem height_any {w : World} {B : Nat} {v : Value} {s : Bs} {h : Nat} (n : NodeAt w B v s h) :
    Calls Try.prog 38 #[v] w fun e w' => e = .returned (.int .i64 (h : Int)) ∧ w = w' := by
  rcases Nat.eq_zero_or_pos h with h0 | h0
  · obtain ⟨rfl, rfl⟩ := n.nil h0
    subst h0
    clear n
    go_enter Try.func38, Try.ntmps38
    go_wp2_with fail
    go_ret
    exact ⟨rfl, rfl⟩
  · obtain ⟨g, x, y, l, rfl, hg, hb⟩ := n.block h0
    have c3 := cell_at hb 5
    simp at c3
    have hne := fun w => eq_nil_ptr w g
    clear hb n
    go_enter Try.func38, Try.ntmps38
    go_wp2_with fail
    go_ret
    exact ⟨rfl, rfl⟩
end Go.Proofs.Ytffljhieijnakaa
