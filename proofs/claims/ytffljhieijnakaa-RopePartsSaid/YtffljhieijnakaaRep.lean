import Derived.Test.YtffljhieijnakaaWri
namespace Go.Proofs.Ytffljhieijnakaa
open Go.RowKit Go.Mem Go.Rope

def repl (l : Bs) (f t : Nat) (s : Bs) : Bs := l.take f ++ s ++ l.drop t
theorem repl_len {l : Bs} {f t : Nat} (s : Bs) (h1 : f ≤ t) (h2 : t ≤ l.length) : (repl l f t s).length = l.length - (t - f) + s.length := by
  unfold repl
  rw [List.length_append, List.length_append, List.length_take, List.length_drop]
  omega
theorem repl_left {a b : Bs} {f t : Nat} (s : Bs) (h1 : f ≤ t) (h2 : t ≤ a.length) : repl a f t s ++ b = repl (a ++ b) f t s := by
  unfold repl
  rw [List.take_append_of_le_length (by omega), List.drop_append_of_le_length h2]
  simp
theorem repl_right {a b : Bs} {f t : Nat} (s : Bs) (h1 : a.length ≤ f) (h2 : f ≤ t) : a ++ repl b (f - a.length) (t - a.length) s = repl (a ++ b) f t s := by
  unfold repl
  rw [List.take_append, List.drop_append, List.take_of_length_le h1, List.drop_eq_nil_of_le (Nat.le_trans h1 h2)]
  simp
theorem repl_both {a b : Bs} {f t : Nat} (s : Bs) (h1 : f ≤ a.length) (h2 : a.length ≤ t) : repl a f a.length s ++ repl b 0 (t - a.length) [] = repl (a ++ b) f t s := by
  unfold repl
  rw [List.take_append_of_le_length h1, List.drop_append, List.drop_eq_nil_of_le h2]
  simp
theorem kp1 {w a b : World} {p1 o1 : Nat} {v1 : Value} (h : Fr w a (fun _ => False) ∧ a.cell? ⟨p1, o1, none⟩ = some v1) (hf : Fr a b (fun _ => False)) :
    Fr w b (fun _ => False) ∧ b.cell? ⟨p1, o1, none⟩ = some v1 := ⟨ff h.1 hf, hf.cell0 h.2⟩

set_option maxHeartbeats 1000000 in
theorem repl_leaf {w : World} {B : Nat} {v : Value} {l s : Bs} {h f t : Nat} (n : NodeAt w B v l h) (h1 : f ≤ t) (h2 : t ≤ l.length) (hl : l.length + s.length ≤ 90000) (hh : h ≤ 1) :
    Calls Try.prog 31 #[v, .int .i64 (f : Int), .int .i64 (t : Int), strV s] w (GivesN w (repl l f t s)) := by
  have HH := Lib.hid (height_any n)
  have HB := Lib.hid (bytes_any n)
  have HT := Lib.hid (text_any (f := 0) (t := l.length) n (by omega) (by omega) (by omega))
  rw [cut_all] at HT
  have hs := str_size s
  have hz := str_size l
  have e1 : ((⟨l.toArray⟩ : ByteArray).extract 0 f).size = f := by rw [str_ext, str_size, cut_len (by omega) (by omega)]; omega
  have e2 : ((⟨l.toArray⟩ : ByteArray).extract t l.length).size = l.length - t := by rw [str_ext, str_size, cut_len (by omega) (by omega)]
  have a1 := fun w => run_string_add_sum (P := Try.prog) w ((⟨l.toArray⟩ : ByteArray).extract 0 f) ⟨s.toArray⟩ (by rw [e1, hs]; omega)
  have a2 := fun w => run_string_add_sum (P := Try.prog) w ((⟨l.toArray⟩ : ByteArray).extract 0 f ++ ⟨s.toArray⟩) ((⟨l.toArray⟩ : ByteArray).extract t l.length) (by rw [ByteArray.size_append, e1, e2, hs]; omega)
  have HN := Lib.hid (fun w => nodeOf_any (repl l f t s) (by rw [repl_len s h1 h2]; omega) w)
  rw [show strV (repl l f t s) = .string ((⟨l.toArray⟩ : ByteArray).extract 0 f ++ ⟨s.toArray⟩ ++ (⟨l.toArray⟩ : ByteArray).extract t l.length) by rw [str_ext, str_ext, str_app, str_app]; simp [repl, cut]] at HN
  have i0 : (0 : Int) ≤ (f : Int) := by omega
  have i1 : (f : Int) ≤ (l.length : Int) := by omega
  have i2 : (0 : Int) ≤ (t : Int) := by omega
  have i3 : (t : Int) ≤ (l.length : Int) := by omega
  have i4 : (h : Int) ≤ 1 := by omega
  clear n e1 e2
  go_enter Try.func31, Try.ntmps31
  go_wp2_with fail
  refine HH.out.mono ?_
  rintro e w2 ⟨rfl, rfl⟩
  go_wp2_with fail
  refine HB.out.mono ?_
  rintro e w2 ⟨rfl, rfl⟩
  go_wp2_with fail
  refine HT.out.mono ?_
  rintro e w2 ⟨rfl, hf2⟩
  have HF2 := Lib.hid hf2
  clear hf2
  go_wp2_with fail
  go_region_held3 (fun w' => Fr w w' (fun _ => False))
    (first | with_reducible exact ff HF2.out (Fr.drew _ _) | with_reducible exact ff hS hf5 | with_reducible assumption)
    ((go_at_call 27; rename_i hS _ _; refine (HN.out _).mono ?_; rintro e w5 ⟨h5, hf5, v5, rfl, n5⟩))
  rename_i hS
  have HS := Lib.hid hS
  have HN5 := Lib.hid n5
  clear hS n5
  go_wp2_with fail
  go_ret
  exact ⟨h5, HS.out, _, rfl, HN5.out⟩

def ReplOk (m : Nat) : Prop := ∀ {w : World} {B : Nat} {v : Value} {l s : Bs} {h f t : Nat}, NodeAt w B v l h → f ≤ t → t ≤ l.length → l.length + s.length ≤ 90000 → h ≤ m →
    Calls Try.prog 31 #[v, .int .i64 (f : Int), .int .i64 (t : Int), strV s] w (GivesN w (repl l f t s))

set_option maxHeartbeats 2000000 in
theorem repl_pair {m : Nat} (IH : ReplOk m) {w : World} {B : Nat} {v : Value} {l s : Bs} {h f t : Nat} (n : NodeAt w B v l h) (h1 : f ≤ t) (h2 : t ≤ l.length) (hl : l.length + s.length ≤ 90000) (hh : 2 ≤ h) (hm : h ≤ m + 1) :
    Calls Try.prog 31 #[v, .int .i64 (f : Int), .int .i64 (t : Int), strV s] w (GivesN w (repl l f t s)) := by
  have HH := Lib.hid (height_any n)
  obtain ⟨g, gc, gd, sc, sd, hc, hd, rfl, rfl, e4, kg, nc, nd, i1, i2, i3, i4, hg⟩ := n.two hh
  obtain ⟨gc', xc, yc, lc, e1, hgc, kc⟩ := nc.block i1
  obtain rfl : gc = gc' := by injection e1 with e1; injection e1 with e1; injection e1
  rw [List.length_append] at h2 hl
  have c0 := cell_at kg 0
  have c1 := cell_at kg 1
  have d3 := cell_at kc 3
  simp at c0 c1 d3
  have t2 : ¬ ((h : Int) ≤ 1) := by omega
  obtain ⟨q, hq⟩ : ∃ q : Nat, q = sc.length := ⟨_, rfl⟩
  rw [← hq] at h2 hl d3
  have hcz := nc.height_le' (by omega)
  have hdz := nd.height_le' (by omega)
  have HC := Lib.hid nc
  have HD := Lib.hid nd
  have HQ := Lib.hid hq
  have HF0 := Lib.hid (fun k => Fr.drewN w k (fun _ => False))
  have hS1 : Hid (∀ k, Fr w (w.drewN k) (fun _ => False) ∧ (w.drewN k).cell? ⟨gc, 3, none⟩ = some (.int .i64 (q : Int))) := Lib.hid fun k => ⟨Fr.drewN _ _ _, d3⟩
  have hS2 : Hid (∀ j k, Fr w ((w.drewN j).drewN k) (fun _ => False) ∧ ((w.drewN j).drewN k).cell? ⟨gc, 3, none⟩ = some (.int .i64 (q : Int))) := Lib.hid fun j k => ⟨ff (Fr.drewN _ _ _) (Fr.drewN _ _ _), d3⟩
  rcases Nat.lt_or_ge q t with ht | ht
  · rcases Nat.lt_or_ge f q with hf | hf
    · -- both
      have a1 : ¬ ((t : Int) ≤ (q : Int)) := by omega
      have a2 : ¬ ((f : Int) ≥ (q : Int)) := by omega
      have a2' : ¬ (q ≤ f) := by omega
      have a3 : IntKind.i64.wrap ((t : Int) - (q : Int)) = ((t - q : Nat) : Int) := by rw [IntWalk.i64_in _ ⟨by omega, by omega⟩]; omega
      have HI1 := Lib.hid (fun (W : World) (hf : Fr w W (fun _ => False)) => IH (s := s) (f := f) (t := q) (nc.keep hf) (by omega) (by omega) (by omega) (by omega))
      have HI2 : Hid (∀ (W : World) (hf : Fr w W (fun _ => False)), Calls Try.prog 31 #[ptr gd, .int .i64 0, .int .i64 ((t - q : Nat) : Int), .string ⟨#[]⟩] W (GivesN W (repl sd 0 (t - q) []))) := Lib.hid (fun (W : World) (hf : Fr w W (fun _ => False)) => IH (s := []) (f := 0) (t := t - q) (nd.keep hf) (by omega) (by omega) (by simp; omega) (by omega))
      have z1 := repl_len (l := sc) (f := f) (t := q) s (by omega) (by omega)
      have z2 := repl_len (l := sd) (f := 0) (t := t - q) [] (by omega) (by omega)
      have HZ : Hid ((repl sc f q s).length + (repl sd 0 (t - q) []).length ≤ 100000 ∧ (repl sc f q s).length ≤ 100000 ∧ (repl sd 0 (t - q) []).length ≤ 100000) := Lib.hid (by rw [List.length_nil] at z2; omega)
      have HW := Lib.hid (show repl sc f q s ++ repl sd 0 (t - q) [] = repl (sc ++ sd) f t s by rw [hq]; exact repl_both s (by omega) (by omega))
      clear n kg nc nd kc e1 hq z1 z2 hcz hdz
      go_enter Try.func31, Try.ntmps31
      go_wp2_with fail
      refine HH.out.mono ?_
      rintro e w2 ⟨rfl, rfl⟩
      go_wp2_with fail
      go_quiet (fail)
      go_wp2_with fail
      go_region_held3 (fun w' => Fr w w' (fun _ => False) ∧ w'.cell? ⟨gc, 3, none⟩ = some (.int .i64 (q : Int)))
        (first | with_reducible exact kp1 (hS1.out _) (Fr.drew _ _) | with_reducible exact kp1 (hS2.out _ _) (Fr.drew _ _) | with_reducible exact kp1 hS hf7 | with_reducible exact kp1 hS hf6 | with_reducible exact kp1 hS hf5 | with_reducible exact kp1 (hS1.out _) hf5 | with_reducible assumption)
        ((first
          | (go_at_call 31; rename_i hS _ _; first
              | ((with_reducible refine (HI1.out _ hS.1).mono ?_); rintro e w5 ⟨h5, hf5, v5, rfl, n5⟩)
              | ((with_reducible refine (HI1.out _ (HF0.out _)).mono ?_); rintro e w5 ⟨h5, hf5, v5, rfl, n5⟩)
              | ((with_reducible refine (HI2.out _ hS.1).mono ?_); rintro e w6 ⟨h6, hf6, v6, rfl, n6⟩))
          | (go_at_call 39; rename_i hS _ _; refine (join_any (n5.keepo hf6) n6 HZ.out.1 (Nat.le_trans (n5.height_le' HZ.out.2.1) (by omega)) (Nat.le_trans (n6.height_le' HZ.out.2.2) (by omega))).mono ?_; rintro e w7 ⟨h7, l7, u7, hf7, v7, rfl, n7⟩)))
      rename_i hS
      have HS := Lib.hid hS.1
      have HN := Lib.hid n7
      clear hS n7
      go_wp2_with fail
      go_ret
      exact ⟨h7, HS.out, _, rfl, HN.out.cast HW.out⟩
    · -- the right one
      have a1 : ¬ ((t : Int) ≤ (q : Int)) := by omega
      have a2 : ((f : Int) ≥ (q : Int)) := by omega
      have a2' : q ≤ f := by omega
      have a3 : IntKind.i64.wrap ((t : Int) - (q : Int)) = ((t - q : Nat) : Int) := by rw [IntWalk.i64_in _ ⟨by omega, by omega⟩]; omega
      have a4 : IntKind.i64.wrap ((f : Int) - (q : Int)) = ((f - q : Nat) : Int) := by rw [IntWalk.i64_in _ ⟨by omega, by omega⟩]; omega
      have HI2 := Lib.hid (fun (W : World) (hf : Fr w W (fun _ => False)) => IH (s := s) (f := f - q) (t := t - q) (nd.keep hf) (by omega) (by omega) (by omega) (by omega))
      have z2 := repl_len (l := sd) (f := f - q) (t := t - q) s (by omega) (by omega)
      have HZ : Hid (sc.length + (repl sd (f - q) (t - q) s).length ≤ 100000 ∧ hc ≤ 400 ∧ (repl sd (f - q) (t - q) s).length ≤ 100000) := Lib.hid (by omega)
      have HW := Lib.hid (show sc ++ repl sd (f - q) (t - q) s = repl (sc ++ sd) f t s by rw [hq]; exact repl_right s (by omega) (by omega))
      clear n kg nc nd kc e1 hq z2 hcz hdz
      go_enter Try.func31, Try.ntmps31
      go_wp2_with fail
      refine HH.out.mono ?_
      rintro e w2 ⟨rfl, rfl⟩
      go_wp2_with fail
      go_quiet (fail)
      go_wp2_with fail
      go_region_held3 (fun w' => Fr w w' (fun _ => False) ∧ w'.cell? ⟨gc, 3, none⟩ = some (.int .i64 (q : Int)))
        (first | with_reducible exact kp1 (hS1.out _) (Fr.drew _ _) | with_reducible exact kp1 (hS2.out _ _) (Fr.drew _ _) | with_reducible exact kp1 hS hf7 | with_reducible exact kp1 hS hf6 | with_reducible exact kp1 (hS1.out _) hf6 | with_reducible assumption)
        ((first
          | (go_at_call 31; rename_i hS _ _; first
              | ((with_reducible refine (HI2.out _ hS.1).mono ?_); rintro e w6 ⟨h6, hf6, v6, rfl, n6⟩)
              | ((with_reducible refine (HI2.out _ (HF0.out _)).mono ?_); rintro e w6 ⟨h6, hf6, v6, rfl, n6⟩))
          | (go_at_call 39; rename_i hS _ _; refine (join_any (HC.out.keepo hS.1) n6 HZ.out.1 HZ.out.2.1 (Nat.le_trans (n6.height_le' HZ.out.2.2) (by omega))).mono ?_; rintro e w7 ⟨h7, l7, u7, hf7, v7, rfl, n7⟩)))
      rename_i hS
      have HS := Lib.hid hS.1
      have HN := Lib.hid n7
      clear hS n7
      go_wp2_with fail
      go_ret
      exact ⟨h7, HS.out, _, rfl, HN.out.cast HW.out⟩
  · -- the left one
    have a1 : ((t : Int) ≤ (q : Int)) := by omega
    have HI1 := Lib.hid (fun (W : World) (hf : Fr w W (fun _ => False)) => IH (s := s) (f := f) (t := t) (nc.keep hf) (by omega) (by omega) (by omega) (by omega))
    have z1 := repl_len (l := sc) (f := f) (t := t) s (by omega) (by omega)
    have HZ : Hid ((repl sc f t s).length + sd.length ≤ 100000 ∧ (repl sc f t s).length ≤ 100000 ∧ hd ≤ 400) := Lib.hid (by omega)
    have HW := Lib.hid (show repl sc f t s ++ sd = repl (sc ++ sd) f t s from repl_left s (by omega) (by omega))
    clear n kg nc nd kc e1 hq z1 hcz hdz
    go_enter Try.func31, Try.ntmps31
    go_wp2_with fail
    refine HH.out.mono ?_
    rintro e w2 ⟨rfl, rfl⟩
    go_wp2_with fail
    go_quiet (fail)
    go_wp2_with fail
    refine (HI1.out _ (HF0.out _)).mono ?_
    rintro e w5 ⟨h5, hf5, v5, rfl, n5⟩
    have HF5 := Lib.hid (ff (HF0.out _) hf5)
    have HN5 := Lib.hid n5
    clear hf5 n5
    go_wp2_with fail
    refine (join_any HN5.out (HD.out.keepo HF5.out) HZ.out.1 (Nat.le_trans (HN5.out.height_le' HZ.out.2.1) (by omega)) HZ.out.2.2).mono ?_
    rintro e w7 ⟨h7, l7, u7, hf7, v7, rfl, n7⟩
    have HF7 := Lib.hid (ff HF5.out hf7)
    have HN := Lib.hid n7
    clear hf7 n7
    go_wp2_with fail
    go_ret
    exact ⟨h7, HF7.out, _, rfl, HN.out.cast HW.out⟩

theorem repl_ok : ∀ m, ReplOk m := by
  intro m
  induction m with
  | zero => intro w B v l s h f t n h1 h2 hl hm; exact repl_leaf n h1 h2 hl (by omega)
  | succ m IH =>
    intro w B v l s h f t n h1 h2 hl hm
    rcases Nat.lt_or_ge h 2 with h0 | h0
    · exact repl_leaf n h1 h2 hl (by omega)
    · exact repl_pair IH n h1 h2 hl h0 hm
theorem replace_any {w : World} {B : Nat} {v : Value} {l : Bs} (s : Bs) {h f t : Nat} (n : NodeAt w B v l h) (h1 : f ≤ t) (h2 : t ≤ l.length) (hl : l.length + s.length ≤ 90000) :
    Calls Try.prog 31 #[v, .int .i64 (f : Int), .int .i64 (t : Int), strV s] w (GivesN w (repl l f t s)) := repl_ok _ n h1 h2 hl (Nat.le_refl _)
end Go.Proofs.Ytffljhieijnakaa
