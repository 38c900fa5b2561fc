import Derived.Test.YtffljhieijnakaaBld
namespace Go.Proofs.Ytffljhieijnakaa
open Go.RowKit Go.Mem Go.Rope

set_option maxHeartbeats 2000000 in
theorem write_pair {m : Nat} (IH : WriteOk m) {w : World} {B b : Nat} {v : Value} {s acc : Bs} {h f t : Nat} (n : NodeAt w B v s h) (hB : B ≤ b) (hb : IsB w b acc) (h1 : f < t) (h2 : t ≤ s.length) (hl : acc.length + s.length ≤ 500000) (hh : 2 ≤ h) (hm : h ≤ m + 1) :
    Calls Try.prog 43 #[v, .pointer (some ⟨b, 0, none⟩), .int .i64 (f : Int), .int .i64 (t : Int)] w (Wrote b (acc ++ cut s f t) w) := by
  obtain ⟨g, gc, gd, sc, sd, hc, hd, rfl, rfl, e4, kg, nc, nd, i1, i2, i3, i4, hg⟩ := n.two hh
  obtain ⟨gc', xc, yc, lc, e1, hgc, kc⟩ := nc.block i1
  obtain rfl : gc = gc' := by injection e1 with e1; injection e1 with e1; injection e1
  rw [List.length_append] at h2 hl
  have c0 := cell_at kg 0
  have c1 := cell_at kg 1
  have c5 := cell_at kg 5
  have d3 := cell_at kc 3
  simp at c0 c1 c5 d3
  have c5' : w.cell? ⟨g, 5, none⟩ = some (.int .i64 (h : Int)) := by rw [c5, e4]; congr
  have t1 : ((f : Int) == (t : Int)) = false := by simp; omega
  have t2 : ((h : Int) == 1) = false := by simp; omega
  obtain ⟨q, hq⟩ : ∃ q : Nat, q = sc.length := ⟨_, rfl⟩
  rw [← hq] at h2 hl d3
  have HB := Lib.hid hb
  have HD := Lib.hid nd
  have HG := Lib.hid kg
  have HQ := Lib.hid hq
  rcases Nat.lt_or_ge q t with ht | ht
  · rcases Nat.lt_or_ge f q with hf | hf
    · -- both
      have HC : Hid (∀ x y : Int, x = (f : Int) → y = (q : Int) → Calls Try.prog 43 #[ptr gc, .pointer (some ⟨b, 0, none⟩), .int .i64 x, .int .i64 y] w (Wrote b (acc ++ cut sc f q) w)) := Lib.hid (by rintro x y rfl rfl; exact IH nc hB hb (by omega) (by omega) (by omega) (by omega))
      have HE : Hid (∀ (w2 : World) (x y : Int), x = 0 → y = ((t - q : Nat) : Int) → IsB w2 b (acc ++ cut sc f q) → Fr w w2 (fun k => b ≤ k) → Calls Try.prog 43 #[ptr gd, .pointer (some ⟨b, 0, none⟩), .int .i64 x, .int .i64 y] w2 (Wrote b ((acc ++ cut sc f q) ++ cut sd 0 (t - q)) w2)) := Lib.hid (by
        rintro w2 x y rfl rfl hb2 hf2
        exact IH (f := 0) (t := t - q) (nd.kept hf2 hB) hB hb2 (by omega) (by omega) (by rw [List.length_append, cut_len (by omega) (by omega)]; omega) (by omega))
      have HW := Lib.hid (show (acc ++ cut sc f q) ++ cut sd 0 (t - q) = acc ++ cut (sc ++ sd) f t by rw [cut_app (by omega) (by omega), ← hq, List.append_assoc])
      have a1 : f < q := hf
      have a2 : q < t := ht
      have a3 : ¬ (t < q) := by omega
      have a4 : ¬ (q < f) := by omega
      clear n hb kg nc nd kc e1 hq c5
      go_enter Try.func43, Try.ntmps43
      go_wp2_with fail
      refine (HC.out _ _ (by first | omega | (simp; omega)) (by first | omega | (simp; omega))).mono ?_
      rintro e w2 ⟨rfl, hb2, hf2⟩
      have HE2 := Lib.hid (fun x y hx hy => HE.out w2 x y hx hy hb2 hf2)
      have k0 := cell_at (hf2.blk HG.out (by omega)) 0
      have k1 := cell_at (hf2.blk HG.out (by omega)) 1
      simp at k0 k1
      have HF2 := Lib.hid hf2
      clear hf2 hb2
      go_wp2_with fail
      refine (HE2.out _ _ (by first | omega | (simp; omega)) (by first | omega | (simp; omega))).mono ?_
      rintro e w3 ⟨rfl, hb3, hf3⟩
      have HF3 := Lib.hid (bb HF2.out hf3)
      have HB3 := Lib.hid hb3
      clear hf3 hb3
      go_wp2_with fail
      go_end0
      exact ⟨rfl, HW.out ▸ HB3.out, HF3.out⟩
    · -- the right one alone
      have HE : Hid (∀ x y : Int, x = ((f - q : Nat) : Int) → y = ((t - q : Nat) : Int) → Calls Try.prog 43 #[ptr gd, .pointer (some ⟨b, 0, none⟩), .int .i64 x, .int .i64 y] w (Wrote b (acc ++ cut sd (f - q) (t - q)) w)) := Lib.hid (by rintro x y rfl rfl; exact IH nd hB hb (by omega) (by omega) (by omega) (by omega))
      have HW := Lib.hid (show acc ++ cut sd (f - q) (t - q) = acc ++ cut (sc ++ sd) f t by rw [cut_right (by omega), ← hq])
      have a1 : ¬ (f < q) := by omega
      have a2 : q < t := ht
      by_cases hfq : q < f
      all_goals
        clear n hb kg nc nd kc e1 hq c5
        go_enter Try.func43, Try.ntmps43
        go_wp2_with fail
        refine (HE.out _ _ (by first | omega | (simp; omega)) (by first | omega | (simp; omega))).mono ?_
        rintro e w3 ⟨rfl, hb3, hf3⟩
        have HF3 := Lib.hid hf3
        have HB3 := Lib.hid hb3
        clear hf3 hb3
        go_wp2_with fail
        go_end0
        exact ⟨rfl, HW.out ▸ HB3.out, HF3.out⟩
  · -- the left one alone
    have HC : Hid (∀ x y : Int, x = (f : Int) → y = (t : Int) → Calls Try.prog 43 #[ptr gc, .pointer (some ⟨b, 0, none⟩), .int .i64 x, .int .i64 y] w (Wrote b (acc ++ cut sc f t) w)) := Lib.hid (by rintro x y rfl rfl; exact IH nc hB hb (by omega) (by omega) (by omega) (by omega))
    have HW := Lib.hid (show acc ++ cut sc f t = acc ++ cut (sc ++ sd) f t by rw [cut_left (by omega)])
    have a1 : f < q := by omega
    have a2 : ¬ (q < t) := by omega
    by_cases htq : t < q
    all_goals
      clear n hb kg nc nd kc e1 hq c5
      go_enter Try.func43, Try.ntmps43
      go_wp2_with fail
      refine (HC.out _ _ (by first | omega | (simp; omega)) (by first | omega | (simp; omega))).mono ?_
      rintro e w3 ⟨rfl, hb3, hf3⟩
      have HF3 := Lib.hid hf3
      have HB3 := Lib.hid hb3
      clear hf3 hb3
      go_wp2_with fail
      go_end0
      exact ⟨rfl, HW.out ▸ HB3.out, HF3.out⟩

theorem write_ok : ∀ m, WriteOk m := by
  intro m
  induction m with
  | zero =>
    intro w B b v s acc h f t n hB hb h1 h2 hl hm
    obtain ⟨rfl, rfl⟩ := n.nil (by omega)
    obtain rfl : f = t := by simp at h2; omega
    exact write_none hb
  | succ m IH =>
    intro w B b v s acc h f t n hB hb h1 h2 hl hm
    rcases Nat.eq_or_lt_of_le h1 with e | h1
    · subst e
      exact write_none hb
    · have h0 : h ≠ 0 := fun e => by
        obtain ⟨-, rfl⟩ := n.nil e
        simp at h2
        omega
      by_cases hh : h = 1
      · exact write_leaf n hb h1 h2 hl hh
      · exact write_pair IH n hB hb h1 h2 hl (by omega) hm

theorem text_any {w : World} {B : Nat} {v : Value} {s : Bs} {h f t : Nat} (n : NodeAt w B v s h) (h1 : f ≤ t) (h2 : t ≤ s.length) (hl : s.length ≤ 100000) :
    Calls Try.prog 32 #[v, .int .i64 (f : Int), .int .i64 (t : Int)] w fun e w' => e = .returned (strV (cut s f t)) ∧ Fr w w' (fun _ => False) := by
  have HN := Lib.hid n.own
  have HG : Hid (∀ x : Int, x = ((t - f : Nat) : Int) → Calls Try.prog 42 #[.pointer (some ⟨w.heap.size, 0, none⟩), .int .i64 x] (w.alloc (.cells #[.pointer none, .slice none 0 0] 72)) fun e w' => e = .returned (.tuple #[]) ∧ IsB w' w.heap.size [] ∧ Fr w w' (fun _ => False)) := Lib.hid (by rintro x rfl; exact bgrow_any w (t - f) (by omega))
  clear n
  go_enter Try.func32, Try.ntmps32
  go_wp2_with fail
  refine (HG.out _ (by first | omega | (simp; omega))).mono ?_
  rintro e w2 ⟨rfl, hb2, hf2⟩
  have HW := Lib.hid (write_ok _ (HN.out.keep hf2) (Nat.le_refl _) hb2 h1 h2 (by simp; omega) (Nat.le_refl _))
  have HF2 := Lib.hid hf2
  clear hb2 hf2
  go_wp2_with fail
  refine HW.out.mono ?_
  rintro e w3 ⟨rfl, hb3, hf3⟩
  have HF3 := Lib.hid (HF2.out.fresh hf3 (fun k hk => hk))
  have HS := Lib.hid (bstring_any _ _ _ hb3)
  clear hb3 hf3
  go_wp2_with fail
  refine HS.out.mono ?_
  rintro e w4 ⟨rfl, hf4⟩
  have HF4 := Lib.hid (HF3.out.fresh hf4 (fun k hk => hk))
  clear hf4
  go_wp2_with fail
  go_ret
  exact ⟨by simp, HF4.out⟩
end Go.Proofs.Ytffljhieijnakaa
