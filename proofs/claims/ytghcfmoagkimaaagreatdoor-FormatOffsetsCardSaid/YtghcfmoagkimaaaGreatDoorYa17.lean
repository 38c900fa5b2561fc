import Derived.Test.YtghcfmoagkimaaaGreatDoorYa16
import Derived.Test.YtghcfmoagkimaaaGreatDoorYa13
import Derived.Deep.LoopGhost
import Derived.Lib.MinMax
import Derived.BigQuiet
import Derived.Test.YtghcfmoagkimaaaGreatDoorYa10
import Derived.Test.YtghcfmoagkimaaaGreatDoorYa15
import Derived.Great.BuildSlice
import Derived.Deep.QuietTactic
namespace Go.Proofs.YtghcfmoagkimaaaGreatDoor
open Go.RowKit Go.Mem Go.Lin Go.Xpd Go.Den

/-- what the reference's clock answers -/
def ClockR (u : UntilL) (w : World) (e : Ending) (w' : World) : Prop := ∃ (c : Int) (b : Bool), e = .returned (.tuple #[intV c, .bool b]) ∧ b = (clockD u).2 ∧ (b = true → c = (clockD u).1) ∧ Fr w w' (fun _ => False)
theorem clockD_none {u : UntilL} (h : numX u.on u.year u.month = none) : (clockD u).2 = false := by unfold clockD; rw [h]
theorem clockD_some {u : UntilL} {n : Int} (h : numX u.on u.year u.month = some n) : clockD u = (n * 86400 + u.at_.s, decide (1 ≤ u.year ∧ u.year ≤ 9999)) := by unfold clockD; rw [h]
set_option maxHeartbeats 1600000 in
set_option maxRecDepth 100000 in
theorem clock_any (u : UntilL) (w : World) (hs : -700000 ≤ u.at_.s ∧ u.at_.s ≤ 700000) : Calls Tryz.prog 44 #[.agg (tilC u)] w (ClockR u w) := by
  obtain ⟨n, j, hnj⟩ : ∃ n j, S6.ofD u.on.k u.on.d u.on.w u.year u.month = (n, j) := ⟨_, _, rfl⟩
  have HO := Lib.hid (fun W => S6.rOf4_any u.on.k u.on.d u.on.w u.year u.month W n j hnj)
  obtain ⟨N0, N1⟩ := num_of hnj
  have HB := Lib.hid (Blk.made w 46 (tilC u))
  have HF := Lib.hid (Fr.new w (.cells (tilC u) 46) (fun _ => False))
  have hb := HB.out
  have c1 : (w.alloc (.cells (tilC u) 46)).cell? ⟨w.heap.size, 1, none⟩ = some (.int .i64 u.year) := blkc hb 1 _ rfl
  have c2 : (w.alloc (.cells (tilC u) 46)).cell? ⟨w.heap.size, 2, none⟩ = some (.int .i64 u.month) := blkc hb 2 _ rfl
  have c3 : (w.alloc (.cells (tilC u) 46)).cell? ⟨w.heap.size, 3, none⟩ = some (.int .i64 u.on.k) := blkc hb 3 _ rfl
  have c4 : (w.alloc (.cells (tilC u) 46)).cell? ⟨w.heap.size, 4, none⟩ = some (.int .i64 u.on.d) := blkc hb 4 _ rfl
  have c5 : (w.alloc (.cells (tilC u) 46)).cell? ⟨w.heap.size, 5, none⟩ = some (.int .i64 u.on.w) := blkc hb 5 _ rfl
  have h4 : j ≠ 0 ∨ (j = 0 ∧ u.year < 1) ∨ (j = 0 ∧ 1 ≤ u.year ∧ 9999 < u.year) ∨ (j = 0 ∧ 1 ≤ u.year ∧ u.year ≤ 9999) := by omega
  clear hnj hb
  rcases h4 with hj | ⟨rfl, h1⟩ | ⟨rfl, h1, h2⟩ | ⟨rfl, h1, h2⟩
  · have HC := Lib.hid (clockD_none (N1 hj))
    have hj : (j == 0) = false := beq_eq_false_iff_ne.2 hj
    clear N0 N1
    go_enter Tryz.func44, Tryz.ntmps44
    go_wp2_with fail
    refine (HO.out _).mono ?_
    rintro e w2 ⟨rfl, hf2⟩
    have HF2 := Lib.hid (ff4 HF.out hf2)
    have hb2 := hf2.blk HB.out (fun h => h)
    have d1 : w2.cell? ⟨w.heap.size, 1, none⟩ = some (.int .i64 u.year) := blkc hb2 1 _ rfl
    have d6 : w2.cell? ⟨w.heap.size, 6, none⟩ = some (.int .i64 u.at_.s) := blkc hb2 6 _ rfl
    clear hf2 hb2 c1 c2 c3 c4 c5
    go_wp2_with fail
    go_quiet (fail)
    go_wp2_with fail
    go_ret2
    exact ⟨_, false, rfl, HC.out.symm, (fun h => nomatch h), ff4 HF2.out (Fr.drewN _ _ _)⟩
  · have HC := Lib.hid (show (clockD u).2 = false by rw [clockD_some (N0 rfl)]; exact decide_eq_false (by omega))
    have d0 : decide (1 ≤ u.year) = false := decide_eq_false (by omega)
    clear N0 N1
    go_enter Tryz.func44, Tryz.ntmps44
    go_wp2_with fail
    refine (HO.out _).mono ?_
    rintro e w2 ⟨rfl, hf2⟩
    have HF2 := Lib.hid (ff4 HF.out hf2)
    have hb2 := hf2.blk HB.out (fun h => h)
    have d1 : w2.cell? ⟨w.heap.size, 1, none⟩ = some (.int .i64 u.year) := blkc hb2 1 _ rfl
    have d6 : w2.cell? ⟨w.heap.size, 6, none⟩ = some (.int .i64 u.at_.s) := blkc hb2 6 _ rfl
    clear hf2 hb2 c1 c2 c3 c4 c5
    go_wp2_with fail
    go_quiet (fail)
    go_wp2_with fail
    go_ret2
    exact ⟨_, false, rfl, HC.out.symm, (fun h => nomatch h), ff4 HF2.out (Fr.drewN _ _ _)⟩
  · have HC := Lib.hid (show (clockD u).2 = false by rw [clockD_some (N0 rfl)]; exact decide_eq_false (by omega))
    have d0 : decide (1 ≤ u.year) = true := decide_eq_true (by omega)
    have d9 : decide (u.year ≤ 9999) = false := decide_eq_false (by omega)
    clear N0 N1
    go_enter Tryz.func44, Tryz.ntmps44
    go_wp2_with fail
    refine (HO.out _).mono ?_
    rintro e w2 ⟨rfl, hf2⟩
    have HF2 := Lib.hid (ff4 HF.out hf2)
    have hb2 := hf2.blk HB.out (fun h => h)
    have d1 : w2.cell? ⟨w.heap.size, 1, none⟩ = some (.int .i64 u.year) := blkc hb2 1 _ rfl
    have d6 : w2.cell? ⟨w.heap.size, 6, none⟩ = some (.int .i64 u.at_.s) := blkc hb2 6 _ rfl
    clear hf2 hb2 c1 c2 c3 c4 c5
    go_wp2_with fail
    go_quiet (fail)
    go_wp2_with fail
    go_ret2
    exact ⟨_, false, rfl, HC.out.symm, (fun h => nomatch h), ff4 HF2.out (Fr.drewN _ _ _)⟩
  · have hnum := N0 rfl
    obtain ⟨r1, r2⟩ := numX_range hnum
    have HC := Lib.hid (clockD_some hnum)
    have HT := Lib.hid (show decide (1 ≤ u.year ∧ u.year ≤ 9999) = true from decide_eq_true ⟨h1, h2⟩)
    have d0 : decide (1 ≤ u.year) = true := decide_eq_true (by omega)
    have d9 : decide (u.year ≤ 9999) = true := decide_eq_true (by omega)
    obtain ⟨s1, s2⟩ := hs
    have hw1 : IntKind.i64.wrap (n * 86400) = n * 86400 := by rw [IntKind.wrap_i64]; omega
    have hw2 : IntKind.i64.wrap (n * 86400 + u.at_.s) = n * 86400 + u.at_.s := by rw [IntKind.wrap_i64]; omega
    clear N0 N1 hnum
    go_enter Tryz.func44, Tryz.ntmps44
    go_wp2_with fail
    refine (HO.out _).mono ?_
    rintro e w2 ⟨rfl, hf2⟩
    have HF2 := Lib.hid (ff4 HF.out hf2)
    have hb2 := hf2.blk HB.out (fun h => h)
    have d1 : w2.cell? ⟨w.heap.size, 1, none⟩ = some (.int .i64 u.year) := blkc hb2 1 _ rfl
    have d6 : w2.cell? ⟨w.heap.size, 6, none⟩ = some (.int .i64 u.at_.s) := blkc hb2 6 _ rfl
    clear hf2 hb2 c1 c2 c3 c4 c5
    go_wp2_with fail
    go_quiet (fail)
    go_wp2_with fail
    go_ret2
    exact ⟨n * 86400 + u.at_.s, true, rfl, by rw [HC.out]; exact HT.out.symm, fun _ => by rw [HC.out], ff4 HF2.out (Fr.drewN _ _ _)⟩
end Go.Proofs.YtghcfmoagkimaaaGreatDoor
namespace Go.Proofs.YtghcfmoagkimaaaGreatDoor
open Go.RowKit Go.Mem Go.Lin Go.Xpd

theorem least_any (l : List RuleL) (A : Option Addr) (cap : Nat) (w : World) (hl : RusAt w A l) (hn : l.length ≤ 1000) :
    Calls Tryz.prog 131 #[.slice A l.length cap] w fun e w' => e = .returned (intV (leastD l)) ∧ Fr w w' (fun _ => False) := by
  have HL := Lib.hid hl
  clear hl
  go_enter Tryz.func131, Tryz.ntmps131
  go_wp2_with fail
  go_loopg [3, 4] l.length (fun g v3 v4 wr => ∃ i : Nat, i + g = l.length ∧ v4 = intV i ∧ v3 = intV ((l.take i).foldl leF 10000) ∧ Fr w wr (fun _ => False))
  case atStart => exact ⟨0, by simp, rfl, rfl, Fr.refl _ _⟩
  case round =>
    obtain ⟨i, hi, rfl, rfl, hf⟩ := hrel
    have HF := Lib.hid hf
    by_cases hlt : i < l.length
    · obtain ⟨r, hri⟩ : ∃ r, l[i]? = some r := ⟨l[i], List.getElem?_eq_getElem hlt⟩
      obtain ⟨b, off, hA, hc⟩ := (HL.out.kept hf).at_ hri
      subst hA
      have i0 : (i : Int) < (l.length : Int) := by omega
      have HN := Lib.hid (show (l.take (i + 1)).foldl leF 10000 = min ((l.take i).foldl leF 10000) (max r.fr 1) by rw [foldl_take leF 10000 hri]; rfl)
      have c1 : wr.cell? ⟨b, off + i * 11 + 1, none⟩ = some (.int .i64 r.fr) := hc 1 (show 1 < 11 by decide)
      generalize (l.take i).foldl leF 10000 = N at *
      clear hri hf hc
      go_wp2_with fail
      all_goals
        go_roundg (l.length - (i + 1))
        case measure => omega
        case rel => exact ⟨i + 1, by omega, by go_num, by rw [HN.out], HF.out⟩
    · obtain rfl : i = l.length := by omega
      rw [List.take_length]
      clear hf
      go_wp2_with fail
      go_ret
      exact ⟨rfl, HF.out⟩
def SpanR (l : List RuleL) (w : World) (e : Ending) (w' : World) : Prop := e = .returned (.tuple #[intV (spanD l).1, intV (spanD l).2.1, .bool (spanD l).2.2]) ∧ Fr w w' (fun _ => False)
theorem span_any (l : List RuleL) (A : Option Addr) (cap : Nat) (w : World) (hl : RusAt w A l) (hn : l.length ≤ 1000) :
    Calls Tryz.prog 74 #[.slice A l.length cap] w (SpanR l w) := by
  have HL := Lib.hid hl
  clear hl
  cases l with
  | nil =>
    go_enter Tryz.func74, Tryz.ntmps74
    go_wp2_with fail
    exact bodyPost_ret (results_tmp3 rfl _ _ _) rfl ⟨rfl, Fr.refl _ _⟩
  | cons x t =>
    obtain ⟨l, hlx⟩ : ∃ l, x :: t = l := ⟨_, rfl⟩
    have h0 : l[0]? = some x := by rw [← hlx]; rfl
    have hp : 0 < l.length := by rw [← hlx]; simp
    have HD := Lib.hid (show spanD l = l.foldl spF (x.fr, x.fr, false) by rw [← hlx]; rfl)
    rw [hlx] at HL hn ⊢
    clear hlx
    obtain ⟨b, off, hA, hc⟩ := HL.out.at_ h0
    subst hA
    have c1 : w.cell? ⟨b, off + 0 * 11 + 1, none⟩ = some (.int .i64 x.fr) := hc 1 (show 1 < 11 by decide)
    rw [Nat.zero_mul, Nat.add_zero] at c1
    have i0 : (0 : Int) < (l.length : Int) := by omega
    have e0 : ((l.length : Int) == 0) = false := by rw [beq_eq_false_iff_ne]; omega
    clear h0 hc
    go_enter Tryz.func74, Tryz.ntmps74
    go_wp2_with fail
    go_quiet (fail)
    go_wp2_with fail
    clear c1
    go_loopg [5, 6, 7, 8] l.length (fun g v5 v6 v7 v8 wr => ∃ i : Nat, i + g = l.length ∧ v8 = intV i ∧ v5 = intV ((l.take i).foldl spF (x.fr, x.fr, false)).1 ∧ v6 = intV ((l.take i).foldl spF (x.fr, x.fr, false)).2.1 ∧ v7 = .bool ((l.take i).foldl spF (x.fr, x.fr, false)).2.2 ∧ Fr w wr (fun _ => False))
    case atStart => exact ⟨0, by simp, rfl, rfl, rfl, rfl, Fr.drewN _ _ _⟩
    case round =>
      obtain ⟨i, hi, rfl, rfl, rfl, rfl, hf⟩ := hrel
      have HF := Lib.hid hf
      by_cases hlt : i < l.length
      · obtain ⟨r, hri⟩ : ∃ r, l[i]? = some r := ⟨l[i], List.getElem?_eq_getElem hlt⟩
        obtain ⟨b2, off2, hA, hc⟩ := (HL.out.kept hf).at_ hri
        cases hA
        have i0 : (i : Int) < (l.length : Int) := by omega
        have HN := Lib.hid (show (l.take (i + 1)).foldl spF (x.fr, x.fr, false) = spF ((l.take i).foldl spF (x.fr, x.fr, false)) r from foldl_take spF _ hri)
        have c1 : wr.cell? ⟨b, off + i * 11 + 1, none⟩ = some (.int .i64 r.fr) := hc 1 (show 1 < 11 by decide)
        have c2 : wr.cell? ⟨b, off + i * 11 + 2, none⟩ = some (.int .i64 r.to) := hc 2 (show 2 < 11 by decide)
        generalize (l.take i).foldl spF (x.fr, x.fr, false) = N at *
        obtain ⟨N1, N2, N3⟩ := N
        clear hri hf hc
        by_cases hto : r.to = 10000
        · have e1 : ((r.to : Int) == 10000) = true := by rw [hto]; rfl
          have HN2 := Lib.hid (show (l.take (i + 1)).foldl spF (x.fr, x.fr, false) = (min N1 r.fr, max N2 r.fr, true) by rw [HN.out]; unfold spF; rw [if_pos hto, decide_eq_true hto, Bool.or_true])
          clear HN hto
          go_wp2_with fail
          all_goals
            go_roundg (l.length - (i + 1))
            case measure => omega
            case rel => exact ⟨i + 1, by omega, by go_num, by rw [HN2.out], by rw [HN2.out], by rw [HN2.out], HF.out⟩
        · have e1 : ((r.to : Int) == 10000) = false := beq_eq_false_iff_ne.2 hto
          have HN2 := Lib.hid (show (l.take (i + 1)).foldl spF (x.fr, x.fr, false) = (min N1 r.fr, max N2 r.to, N3) by rw [HN.out]; unfold spF; rw [if_neg hto, decide_eq_false hto, Bool.or_false])
          clear HN hto
          go_wp2_with fail
          all_goals
            go_roundg (l.length - (i + 1))
            case measure => omega
            case rel => exact ⟨i + 1, by omega, by go_num, by rw [HN2.out], by rw [HN2.out], by rw [HN2.out], HF.out⟩
      · obtain rfl : i = l.length := by omega
        rw [List.take_length]
        clear hf
        go_wp2_with fail
        exact bodyPost_ret (results_tmp3 rfl _ _ _) rfl ⟨by rw [HD.out]; rfl, HF.out⟩
end Go.Proofs.YtghcfmoagkimaaaGreatDoor
namespace Go.Proofs.YtghcfmoagkimaaaGreatDoor
open Go.RowKit Go.Mem Go.Lin Go.Xpd

/-- rules as Light lets them by -/
structure OkR (r : RuleL) : Prop where
  s : -700000 ≤ r.at_.s ∧ r.at_.s ≤ 700000
  fr : -20000 ≤ r.fr ∧ r.fr ≤ 20000
  tt : -20000 ≤ r.to ∧ r.to ≤ 20000
/-- one cell of an element of a row is turned -/
theorem own_put {X : Type} {w : World} {base : Nat} {e : TypeId} {k : Nat} {f : X → List Value} (hf : ∀ x, (f x).length = k) {v : Value} {p q : List X} {x : X} (h : Own w base e k f v (p ++ x :: q)) {j : Nat} (hj : j < k) :
    ∃ g c cur, v = .slice (some ⟨g, 0, none⟩) (p ++ x :: q).length c ∧ base ≤ g ∧ Blk w g e cur ∧ p.length * k + j < cur.size ∧
      ∀ W u y, f y = (f x).set j u → Blk W g e (cur.setIfInBounds (p.length * k + j) u) → Own W base e k f v (p ++ y :: q) := by
  have hl := h.1
  rcases h.2 with ⟨-, h2⟩ | ⟨g, cap, cur, rfl, hg, hb, hn, hm, hs, ht⟩
  · exact absurd h2 (by simp)
  · refine ⟨g, cap, cur, rfl, hg, hb, ?_, fun W u y hy hW => ⟨flat_len f k hf _, ?_⟩⟩
    · have h1 : (p ++ x :: q).length * k ≤ cap * k := Nat.mul_le_mul_right _ hn
      have h2 : (p ++ x :: q).length * k = p.length * k + (q.length + 1) * k := by rw [← Nat.add_mul]; congr 1; simp
      have h3 : k ≤ (q.length + 1) * k := Nat.le_mul_of_pos_left _ (by omega)
      omega
    · have el : (p ++ y :: q).length = (p ++ x :: q).length := by simp
      rw [el]
      refine .inr ⟨g, cap, _, rfl, hg, hW, hn, hm, by rw [Array.size_setIfInBounds]; exact hs, ?_⟩
      rw [Array.toList_setIfInBounds, List.take_set, ht]
      have hp : (p.flatMap f).length = p.length * k := flat_len f k hf p
      rw [List.flatMap_append, List.flatMap_append, ← hp, List.set_append_right _ _ (Nat.le_add_right _ _), Nat.add_sub_cancel_left]
      rw [List.flatMap_cons, List.flatMap_cons, List.set_append_left _ _ (by rw [hf]; exact hj), hy]
/-- the reference's ahead -/
theorem sav_of {l : List RuleL} {y : Int} {f : FireL} (h : f ∈ yearD l y) : ∃ (k : Nat) (r : RuleL), l[k]? = some r ∧ f.i = k ∧ savD l f.i = r.save := by
  obtain ⟨k, r, h1, -, h3⟩ := yearD_mem.1 h
  have e : f.i = k := by rw [h3]
  refine ⟨k, r, h1, e, ?_⟩
  unfold savD
  rw [e, Int.toNat_natCast, h1]
set_option maxHeartbeats 3200000 in
set_option maxRecDepth 100000 in
theorem ahead_any (l : List RuleL) (A : Option Addr) (cap : Nat) (y : Int) (w : World) (hl : RusAt w A l) (hn : l.length ≤ 1000) (hr : ∀ r ∈ l, OkR r) (hy : -1000000 ≤ y ∧ y ≤ 1000000) :
    Calls Tryz.prog 130 #[.slice A l.length cap, intV y] w fun e w' => e = .returned (intV (befY l y)) ∧ Fr w w' (fun _ => False) := by
  have HS := Lib.hid (span_any l A cap w hl hn)
  have HL := Lib.hid hl
  have HLe := Lib.hid (fun (W : World) (f : Fr w W (fun _ => False)) => least_any l A cap W (hl.kept f) hn)
  have HYr := Lib.hid (fun (x : Int) (W : World) (f : Fr w W (fun _ => False)) => year_any l A cap x W (hl.kept f) hn (fun r h => (hr r h).s))
  obtain ⟨sb1, sb2, sb3, sb4⟩ := span_bound (l := l) (n := 20000) (by omega) (fun r h => ⟨(hr r h).fr.1, (hr r h).fr.2, (hr r h).tt.1, (hr r h).tt.2⟩)
  have hle := least_range l
  have HC := Lib.hid (fun x (hx : x = min (capY l y - 1) 9999) => show befY l (x + 1) = befY l y by rw [hx, befY_top, befY_cap])
  have HD := Lib.hid (show ∀ (x : Int), yearD l x = [] → befY l (x + 1) = befY l x from fun _ => befY_down)
  have HZ := Lib.hid (show ∀ (x : Int), x < leastD l → befY l (x + 1) = 0 from fun _ => befY_least)
  have HB := Lib.hid (show ∀ (x : Int) (f : FireL), (yearD l x).getLast? = some f → befY l (x + 1) = savD l f.i from fun _ _ => befY_some)
  obtain ⟨B, hB⟩ : ∃ B, befY l y = B := ⟨_, rfl⟩
  have hcap : (∃ S1 S2, spanD l = (S1, S2, true) ∧ capY l y = y) ∨ (∃ S1 S2, spanD l = (S1, S2, false) ∧ -20000 ≤ S2 ∧ S2 ≤ 20000 ∧ capY l y = min y (S2 + 1)) := by
    unfold capY
    generalize spanD l = S at *
    obtain ⟨S1, S2, S3⟩ := S
    cases S3 with
    | true => exact .inl ⟨S1, S2, rfl, rfl⟩
    | false => exact .inr ⟨S1, S2, rfl, sb3, sb4, rfl⟩
  unfold SpanR at HS
  rw [hB] at HC ⊢
  generalize capY l y = Y at *
  clear hl hr sb1 sb2 sb3 sb4 hB
  rcases hcap with ⟨S1, S2, hS, hY⟩ | ⟨S1, S2, hS, h1, h2, hY⟩
  · rw [hS] at HS
    subst hY
    clear hS
    go_enter Tryz.func130, Tryz.ntmps130
    go_wp2_with fail
    refine HS.out.mono ?_
    rintro e w2 ⟨rfl, hf2⟩
    have HF2 := Lib.hid hf2
    clear hf2
    go_wp2_with fail
    all_goals
      go_loopg [8, 9] 10001 (fun g v8 _ wr => ∃ x : Int, v8 = intV x ∧ x + 1 - leastD l ≤ g ∧ -1000001 ≤ x ∧ x ≤ 9999 ∧ befY l (x + 1) = B ∧ Fr w wr (fun _ => False))
      case atStart => exact ⟨_, rfl, by omega, by omega, by omega, HC.out _ (by omega), HF2.out⟩
      case round =>
        obtain ⟨x, rfl, hg, hx1, hx2, hb, hf⟩ := hrel
        have HF := Lib.hid hf
        have HBx := Lib.hid hb
        have HLx := Lib.hid (HLe.out wr hf)
        have HYx := Lib.hid (HYr.out x)
        clear hf hb
        by_cases hx : leastD l ≤ x
        · go_wp2_with fail
          refine HLx.out.mono ?_
          rintro e w3 ⟨rfl, hf3⟩
          have HF3 := Lib.hid (ff4 HF.out hf3)
          clear hf3
          go_wp2_with fail
          refine (HYx.out w3 HF3.out).mono ?_
          rintro e w4 ⟨v, rfl, ho, hf4⟩
          obtain ⟨A4, c4, rfl, -, -, hrd⟩ := ho.rd
          have HF4 := Lib.hid (ff4 HF3.out hf4)
          have HR4 := Lib.hid hrd
          clear ho hf4 hrd
          rcases List.eq_nil_or_concat (yearD l x) with he | ⟨F, f, hFf⟩
          · have HBn := Lib.hid ((HD.out _ he).symm.trans HBx.out)
            rw [he]
            clear he
            go_wp2_with fail
            go_roundg (gk - 1)
            case measure => omega
            case rel => exact ⟨x - 1, by go_num, by omega, by omega, by omega, by rw [show x - 1 + 1 = x by omega]; exact HBn.out, HF4.out⟩
          · rw [List.concat_eq_append] at hFf
            obtain ⟨k, r, hk, hfi, hsv⟩ := sav_of (show f ∈ yearD l x by rw [hFf]; simp)
            have HRes := Lib.hid (show r.save = B by rw [← hsv, ← HB.out _ _ (show (yearD l x).getLast? = some f by rw [hFf]; simp)]; exact HBx.out)
            have hR4 := HR4.out
            rw [hFf] at hR4
            obtain ⟨b4, off4, hA4, hc4⟩ := FiresAt.at_ hR4 (show (F ++ [f])[F.length]? = some f by simp)
            subst hA4
            obtain ⟨b, off, hA, hc⟩ := (HL.out.kept HF4.out).at_ hk
            have c0 : w4.cell? ⟨b4, off4 + F.length * 4, none⟩ = some (.int .i64 (k : Int)) := by
              have := hc4 0 (show 0 < 4 by decide)
              rw [Nat.add_zero] at this
              rw [this, ← hfi]; rfl
            have c9 : w4.cell? ⟨b, off + k * 11 + 9, none⟩ = some (.int .i64 r.save) := hc 9 (show 9 < 11 by decide)
            have k0 : (k : Int) < (l.length : Int) := by have := (List.getElem?_eq_some_iff.1 hk).1; omega
            rw [hFf, List.length_append, List.length_singleton]
            obtain ⟨N, hN⟩ : ∃ N, F.length = N := ⟨_, rfl⟩
            rw [hN] at c0 ⊢
            have hNl : N < 1000 := by
              have := yearN_len l x l.length
              have h2 : yearN l x l.length = F ++ [f] := hFf
              rw [h2, List.length_append, List.length_singleton] at this
              omega
            subst hA
            clear hFf hk hfi hsv hR4 hc4 hc hN
            go_wp2_with fail
            go_ret
            refine ⟨?_, HF4.out⟩
            rw [← HRes.out]
            rfl
        · have HBn := Lib.hid (show (0 : Int) = B from (HZ.out _ (by omega)).symm.trans HBx.out)
          go_wp2_with fail
          refine HLx.out.mono ?_
          rintro e w3 ⟨rfl, hf3⟩
          have HF3 := Lib.hid (ff4 HF.out hf3)
          clear hf3
          go_wp2_with fail
          go_ret
          refine ⟨?_, HF3.out⟩
          rw [← HBn.out]
          rfl
  · rw [hS] at HS
    clear hS
    go_enter Tryz.func130, Tryz.ntmps130
    go_wp2_with fail
    refine HS.out.mono ?_
    rintro e w2 ⟨rfl, hf2⟩
    have HF2 := Lib.hid hf2
    clear hf2
    go_wp2_with fail
    all_goals
      go_loopg [8, 9] 10001 (fun g v8 _ wr => ∃ x : Int, v8 = intV x ∧ x + 1 - leastD l ≤ g ∧ -1000001 ≤ x ∧ x ≤ 9999 ∧ befY l (x + 1) = B ∧ Fr w wr (fun _ => False))
      case atStart => exact ⟨_, rfl, by omega, by omega, by omega, HC.out _ (by omega), HF2.out⟩
      case round =>
        obtain ⟨x, rfl, hg, hx1, hx2, hb, hf⟩ := hrel
        have HF := Lib.hid hf
        have HBx := Lib.hid hb
        have HLx := Lib.hid (HLe.out wr hf)
        have HYx := Lib.hid (HYr.out x)
        clear hf hb
        by_cases hx : leastD l ≤ x
        · go_wp2_with fail
          refine HLx.out.mono ?_
          rintro e w3 ⟨rfl, hf3⟩
          have HF3 := Lib.hid (ff4 HF.out hf3)
          clear hf3
          go_wp2_with fail
          refine (HYx.out w3 HF3.out).mono ?_
          rintro e w4 ⟨v, rfl, ho, hf4⟩
          obtain ⟨A4, c4, rfl, -, -, hrd⟩ := ho.rd
          have HF4 := Lib.hid (ff4 HF3.out hf4)
          have HR4 := Lib.hid hrd
          clear ho hf4 hrd
          rcases List.eq_nil_or_concat (yearD l x) with he | ⟨F, f, hFf⟩
          · have HBn := Lib.hid ((HD.out _ he).symm.trans HBx.out)
            rw [he]
            clear he
            go_wp2_with fail
            go_roundg (gk - 1)
            case measure => omega
            case rel => exact ⟨x - 1, by go_num, by omega, by omega, by omega, by rw [show x - 1 + 1 = x by omega]; exact HBn.out, HF4.out⟩
          · rw [List.concat_eq_append] at hFf
            obtain ⟨k, r, hk, hfi, hsv⟩ := sav_of (show f ∈ yearD l x by rw [hFf]; simp)
            have HRes := Lib.hid (show r.save = B by rw [← hsv, ← HB.out _ _ (show (yearD l x).getLast? = some f by rw [hFf]; simp)]; exact HBx.out)
            have hR4 := HR4.out
            rw [hFf] at hR4
            obtain ⟨b4, off4, hA4, hc4⟩ := FiresAt.at_ hR4 (show (F ++ [f])[F.length]? = some f by simp)
            subst hA4
            obtain ⟨b, off, hA, hc⟩ := (HL.out.kept HF4.out).at_ hk
            have c0 : w4.cell? ⟨b4, off4 + F.length * 4, none⟩ = some (.int .i64 (k : Int)) := by
              have := hc4 0 (show 0 < 4 by decide)
              rw [Nat.add_zero] at this
              rw [this, ← hfi]; rfl
            have c9 : w4.cell? ⟨b, off + k * 11 + 9, none⟩ = some (.int .i64 r.save) := hc 9 (show 9 < 11 by decide)
            have k0 : (k : Int) < (l.length : Int) := by have := (List.getElem?_eq_some_iff.1 hk).1; omega
            rw [hFf, List.length_append, List.length_singleton]
            obtain ⟨N, hN⟩ : ∃ N, F.length = N := ⟨_, rfl⟩
            rw [hN] at c0 ⊢
            have hNl : N < 1000 := by
              have := yearN_len l x l.length
              have h2 : yearN l x l.length = F ++ [f] := hFf
              rw [h2, List.length_append, List.length_singleton] at this
              omega
            subst hA
            clear hFf hk hfi hsv hR4 hc4 hc hN
            go_wp2_with fail
            go_ret
            refine ⟨?_, HF4.out⟩
            rw [← HRes.out]
            rfl
        · have HBn := Lib.hid (show (0 : Int) = B from (HZ.out _ (by omega)).symm.trans HBx.out)
          go_wp2_with fail
          refine HLx.out.mono ?_
          rintro e w3 ⟨rfl, hf3⟩
          have HF3 := Lib.hid (ff4 HF.out hf3)
          clear hf3
          go_wp2_with fail
          go_ret
          refine ⟨?_, HF3.out⟩
          rw [← HBn.out]
          rfl
end Go.Proofs.YtghcfmoagkimaaaGreatDoor
namespace Go.Proofs.YtghcfmoagkimaaaGreatDoor
open Go.RowKit Go.Mem Go.Lin Go.Xpd

/-- what Light asks of a rule -/
def OkF (r : RuleL) : Prop := -700000 ≤ r.at_.s ∧ r.at_.s ≤ 700000 ∧ -100000 ≤ r.save ∧ r.save ≤ 100000 ∧ r.letter.length ≤ 50 ∧ -20000 ≤ r.fr ∧ r.fr ≤ 20000 ∧ -20000 ≤ r.to ∧ r.to ≤ 20000
instance (r : RuleL) : Decidable (OkF r) := by unfold OkF; infer_instance
def LightP (l : List RuleL) (n : Nat) : Prop := l.length ≤ n ∧ ∀ r ∈ l, OkF r
instance (l : List RuleL) (n : Nat) : Decidable (LightP l n) := by unfold LightP; infer_instance
theorem OkF.okR {r : RuleL} (h : OkF r) : OkR r := by
  obtain ⟨h1, h2, h3, h4, h5, h6, h7, h8, h9⟩ := h
  exact ⟨⟨h1, h2⟩, ⟨h6, h7⟩, ⟨h8, h9⟩⟩
set_option maxHeartbeats 1600000 in
set_option maxRecDepth 100000 in
theorem Light_any (l : List RuleL) (A : Option Addr) (cap n : Nat) (w : World) (hl : RusAt w A l) (hn : n ≤ 1000) (_hm : l.length ≤ maxLen) (hr : ∀ r ∈ l, RuR r) :
    Calls Tryz.prog 12 #[.slice A l.length cap, intV n] w fun e w' => e = .returned (.bool (decide (LightP l n))) ∧ Fr w w' (fun _ => False) := by
  have HL := Lib.hid hl
  have HR := Lib.hid hr
  clear hl hr
  by_cases hgt : n < l.length
  · have h1 : (n : Int) < (l.length : Int) := by omega
    have HN := Lib.hid (show ¬ LightP l n from fun h => by have := h.1; omega)
    clear hgt
    go_enter Tryz.func12, Tryz.ntmps12
    go_wp2_with fail
    go_ret
    exact ⟨by rw [decide_eq_false HN.out]; rfl, Fr.refl _ _⟩
  · have h1 : (l.length : Int) ≤ (n : Int) := by omega
    go_enter Tryz.func12, Tryz.ntmps12
    go_wp2_with fail
    go_loopg [5, 6, 7] l.length (fun k v5 _ _ wr => ∃ i : Nat, i + k = l.length ∧ v5 = intV i ∧ (∀ r ∈ l.take i, OkF r) ∧ Fr w wr (fun _ => False))
    case atStart => exact ⟨0, by simp, rfl, by simp, Fr.refl _ _⟩
    case round =>
      obtain ⟨i, hi, rfl, hp, hf⟩ := hrel
      have HF := Lib.hid hf
      have HP := Lib.hid hp
      by_cases hlt : i < l.length
      · obtain ⟨r, hri⟩ : ∃ r, l[i]? = some r := ⟨l[i], List.getElem?_eq_getElem hlt⟩
        obtain ⟨b, off, hA, hc⟩ := (HL.out.kept hf).at_ hri
        subst hA
        have hrr := HR.out r (List.mem_of_getElem? hri)
        have hll := hrr.letter
        have i0 : (i : Int) < (l.length : Int) := by omega
        have c1 : wr.cell? ⟨b, off + i * 11 + 1, none⟩ = some (.int .i64 r.fr) := hc 1 (show 1 < 11 by decide)
        have c2 : wr.cell? ⟨b, off + i * 11 + 2, none⟩ = some (.int .i64 r.to) := hc 2 (show 2 < 11 by decide)
        have c7 : wr.cell? ⟨b, off + i * 11 + 7, none⟩ = some (.int .i64 r.at_.s) := hc 7 (show 7 < 11 by decide)
        have c9 : wr.cell? ⟨b, off + i * 11 + 9, none⟩ = some (.int .i64 r.save) := hc 9 (show 9 < 11 by decide)
        have c10 : wr.cell? ⟨b, off + i * 11 + 10, none⟩ = some (strV r.letter) := hc 10 (show 10 < 11 by decide)
        have hsz := S6.str_size r.letter
        by_cases hok : OkF r
        · have HN := Lib.hid (show ∀ x ∈ l.take (i + 1), OkF x by
            rw [List.take_add_one, hri]
            intro x hx
            rcases List.mem_append.1 hx with hx | hx
            · exact HP.out x hx
            · have hx : x = r := by simpa using hx
              rw [hx]; exact hok)
          obtain ⟨k1, k2, k3, k4, k5, k6, k7, k8, k9⟩ := hok
          have k5 : (r.letter.length : Int) ≤ 50 := by omega
          clear hri hf hp hc hrr
          go_wp2_with fail
          go_quiet (fail)
          go_wp2_with fail
          go_roundg (l.length - (i + 1))
          case measure => omega
          case rel => exact ⟨i + 1, by omega, by go_num, HN.out, ff4 HF.out (Fr.drewN _ _ _)⟩
        · have HN := Lib.hid (show ¬ LightP l n from fun h => hok (h.2 r (List.mem_of_getElem? hri)))
          have h9 : r.at_.s < -700000 ∨ (-700000 ≤ r.at_.s ∧ 700000 < r.at_.s) ∨ (-700000 ≤ r.at_.s ∧ r.at_.s ≤ 700000 ∧ r.save < -100000) ∨ (-700000 ≤ r.at_.s ∧ r.at_.s ≤ 700000 ∧ -100000 ≤ r.save ∧ 100000 < r.save) ∨
              (-700000 ≤ r.at_.s ∧ r.at_.s ≤ 700000 ∧ -100000 ≤ r.save ∧ r.save ≤ 100000 ∧ (50 < (r.letter.length : Int) ∨ ((r.letter.length : Int) ≤ 50 ∧ (r.fr < -20000 ∨ (-20000 ≤ r.fr ∧ (20000 < r.fr ∨ (r.fr ≤ 20000 ∧ (r.to < -20000 ∨ (-20000 ≤ r.to ∧ 20000 < r.to))))))))) := by
            unfold OkF at hok; omega
          clear hok hri hf hp hc hrr
          rcases h9 with k1 | ⟨k1, k2⟩ | ⟨k1, k2, k3⟩ | ⟨k1, k2, k3, k4⟩ | ⟨k1, k2, k3, k4, k5 | ⟨k5, k6 | ⟨k6, k7 | ⟨k7, k8 | ⟨k8, k9⟩⟩⟩⟩⟩
          all_goals
            go_wp2_with fail
            go_quiet (fail)
            go_wp2_with fail
            go_ret
            exact ⟨by rw [decide_eq_false HN.out]; rfl, ff4 HF.out (Fr.drewN _ _ _)⟩
      · obtain rfl : i = l.length := by omega
        have HN := Lib.hid (show LightP l n from ⟨by omega, fun r hr => hp r (by rw [List.take_length]; exact hr)⟩)
        clear hf hp
        go_wp2_with fail
        go_ret
        exact ⟨by rw [decide_eq_true HN.out]; rfl, HF.out⟩
end Go.Proofs.YtghcfmoagkimaaaGreatDoor
namespace Go.Proofs.YtghcfmoagkimaaaGreatDoor
open Go.RowKit Go.Mem Go.Lin Go.Xpd

section
variable {P : Program} {ops : Array Oper} {rest : List Oper} {a : Act} {w : World} {Q : Exit → Act → World → Prop}
theorem at_load4 {d : Option Tmp} {x : Operand} {ty : TypeId} {pos : String} {af : Array Edge} {g : Option (Nat × Bool)} (t : TypeId) (h : wpList P ops Q (⟨d, .load t x, ty, pos, af, g⟩ :: rest) a w) : wpList P ops Q (⟨d, .load t x, ty, pos, af, g⟩ :: rest) a w := h
end
/- a seat in its cells -/
def seatC (r : RuleL) (p : Int) : Array Value := #[strV r.name, intV r.fr, intV r.to, intV r.month, intV r.on.k, intV r.on.d, intV r.on.w, intV r.at_.s, intV r.at_.k, intV r.save, strV r.letter, intV p]
theorem part_seat (r : RuleL) (p : Int) : ∀ j, j < (ruleC r).size → (seatC r p)[0 + j]? = (ruleC r)[j]? := by
  intro j hj
  have hj : j < 11 := hj
  match j, hj with
  | 0, _ => rfl
  | 1, _ => rfl
  | 2, _ => rfl
  | 3, _ => rfl
  | 4, _ => rfl
  | 5, _ => rfl
  | 6, _ => rfl
  | 7, _ => rfl
  | 8, _ => rfl
  | 9, _ => rfl
  | 10, _ => rfl
theorem fireC_one (f : FireL) : (fireC f).all (·.oneCell') = true := by simp [fireC, Value.oneCell']
theorem infoXF (f : FireL) : (Tryz.prog.info? 166).map (·.size) = some (fireC f).size := show _ = some 4 by kernel_rfl
theorem put_fi (f g : FireL) : setMany (fireC f) 0 (fireC g).toList = fireC g := put_all rfl
def f0 : FireL := ⟨0, 0, 0, 0⟩
def fireO : Option FireL → Value
  | some f => .tuple #[fireV f, .bool true]
  | none => .tuple #[fireV f0, .bool false]
theorem results_fire (tmps : Array Value) (w : World) (q : Nat) (f : FireL) (v : Value) (h4 : tmps.getD 4 undef = .pointer (some ⟨q, 0, none⟩)) (h5 : tmps.getD 5 undef = v)
    (hb : Blk w q 166 (fireC f)) : (results Tryz.f120 tmps).run Tryz.prog w = .ok (.tuple #[fireV f, v]) w := by
  have h4' : tmps[4]?.getD undef = .pointer (some ⟨q, 0, none⟩) := by simpa using h4
  have h5' : tmps[5]?.getD undef = v := by simpa using h5
  have hL := run_loadVar_blk (P := Tryz.prog) w q 0 166 166 (fireC f) (fireC f) _ hb Tryz.underlying166 rfl (infoXF f) (zero_part _)
  simp [results, Tryz.results120, h4', h5', asAddr, hL]
theorem within_any (y : Int) (w : World) (_hy : -1000000 ≤ y ∧ y ≤ 1000000) : Calls Tryz.prog 121 #[intV y] w fun e w' => e = .returned (intV (withD y)) ∧ w' = w := by
  go_enter Tryz.func121, Tryz.ntmps121
  go_wp2_with fail
  go_ret
  exact ⟨rfl, rfl⟩
set_option maxHeartbeats 1600000 in
set_option maxRecDepth 100000 in
theorem fire_no (r : RuleL) (p y : Int) (w : World) (hw : S6.WOk w) (h : y < max r.fr 1 ∨ (¬ y < max r.fr 1 ∧ min r.to 9999 < y)) : Calls Tryz.prog 120 #[.agg (seatC r p), intV y] w fun e w' => e = .returned (fireO (fireR r p y)) ∧ Fr w w' (fun _ => False) := by
  have HE := Lib.hid (show fireR r p y = none by
    unfold fireR; rw [atR_no (fun hl => by unfold lasts at hl; omega)]; rfl)
  have HW := Lib.hid hw
  have hs1 : (w.alloc (.cells (seatC r p) 172)).heap.size = w.heap.size + 1 := by simp
  have hs2 : ((w.alloc (.cells (seatC r p) 172)).alloc (.cells #[.int .i64 0, .int .i64 0, .int .i64 0, .int .i64 0] 166)).heap.size = w.heap.size + 2 := by simp
  have n1 := Fr.new w (.cells (seatC r p) 172) (fun _ => False)
  have n2 := Fr.new (w.alloc (.cells (seatC r p) 172)) (.cells #[.int .i64 0, .int .i64 0, .int .i64 0, .int .i64 0] 166) (fun _ => False)
  have n3 := Fr.new ((w.alloc (.cells (seatC r p) 172)).alloc (.cells #[.int .i64 0, .int .i64 0, .int .i64 0, .int .i64 0] 166)) (.cells #[.string ⟨#[]⟩, .int .i64 0, .int .i64 0, .int .i64 0, .int .i64 0, .int .i64 0, .int .i64 0, .int .i64 0, .int .i64 0, .int .i64 0, .string ⟨#[]⟩] 72) (fun _ => False)
  have HBS := Lib.hid (n2.blk (Blk.made w 172 (seatC r p)) (fun h => h))
  have hbr := Blk.made (w.alloc (.cells (seatC r p) 172)) 166 (fireC f0)
  have hbz := Blk.made ((w.alloc (.cells (seatC r p) 172)).alloc (.cells #[.int .i64 0, .int .i64 0, .int .i64 0, .int .i64 0] 166)) 72 (ruleC ruleZ)
  rw [hs1] at hbr
  rw [hs2] at hbz
  have HBS3 := Lib.hid (n3.blk HBS.out (fun h => h))
  have HBR := Lib.hid (n3.blk hbr (fun h => h))
  have HBZ := Lib.hid hbz
  have HF3 := Lib.hid (ff4 n1 (ff4 n2 n3))
  clear n1 n2 n3 hbr hbz hs1 hs2 hw
  rcases h with h1 | ⟨h1, h2⟩
  · go_enter Tryz.func120, Tryz.ntmps120
    go_wp2_with (first
      | ((with_reducible refine at_load4 72 ?_); refine wpList_load_blk 72 _ w.heap.size 0 172 (seatC r p) (ruleC r) _ (by rfl) rfl rfl HBS.out Tryz.underlying72 rfl (infoR _) (part_seat r p) ?_)
      | ((with_reducible refine at_store4 72 ?_); refine wpList_store_blk 72 _ _ (w.heap.size + 2) 0 72 (ruleC ruleZ) (ruleC r) (ruleC r) (by rfl) rfl rfl rfl rfl HBZ.out (infoR _) (ruleC_one _) (show 0 + 11 ≤ 11 by decide) (put_ra _ _) ?_
         intro W1 hf1 hb1
         have HF := Lib.hid (HF3.out.fresh hf1 (fun i e => by have e : i = w.heap.size + 2 := e; omega))
         have HS1 := Lib.hid (hf1.blk HBS3.out (fun e => by have e : w.heap.size = w.heap.size + 2 := e; omega))
         have HR1 := Lib.hid (hf1.blk HBR.out (fun e => by have e : w.heap.size + 1 = w.heap.size + 2 := e; omega))
         have HB1 := Lib.hid hb1
         have c1 : W1.cell? ⟨w.heap.size + 2, 1, none⟩ = some (.int .i64 r.fr) := blkc hb1 1 _ rfl
         have c2 : W1.cell? ⟨w.heap.size + 2, 2, none⟩ = some (.int .i64 r.to) := blkc hb1 2 _ rfl
         have c3 : W1.cell? ⟨w.heap.size + 2, 3, none⟩ = some (.int .i64 r.month) := blkc hb1 3 _ rfl
         have c4 : W1.cell? ⟨w.heap.size + 2, 4, none⟩ = some (.int .i64 r.on.k) := blkc hb1 4 _ rfl
         have c5 : W1.cell? ⟨w.heap.size + 2, 5, none⟩ = some (.int .i64 r.on.d) := blkc hb1 5 _ rfl
         have c6 : W1.cell? ⟨w.heap.size + 2, 6, none⟩ = some (.int .i64 r.on.w) := blkc hb1 6 _ rfl
         clear hf1 hb1 HBS HBZ HBS3 HBR HF3)
      | ((with_reducible refine at_store4 166 ?_); refine wpList_store_blk 166 _ _ (w.heap.size + 1) 0 166 (fireC f0) (fireC f0) (fireC f0) (by rfl) rfl rfl rfl rfl HR1.out (infoXF _) (fireC_one _) (show 0 + 4 ≤ 4 by decide) (put_fi _ _) ?_
         intro W2 hf2 hb2
         have HF2 := Lib.hid (HF.out.fresh hf2 (fun i e => by have e : i = w.heap.size + 1 := e; omega))
         have HB2 := Lib.hid hb2
         clear hf2 hb2))
    exact bodyPost_ret (results_fire _ _ (w.heap.size + 1) f0 (.bool false) rfl rfl HB2.out) rfl ⟨by rw [HE.out]; rfl, HF2.out⟩
  · go_enter Tryz.func120, Tryz.ntmps120
    go_wp2_with (first
      | ((with_reducible refine at_load4 72 ?_); refine wpList_load_blk 72 _ w.heap.size 0 172 (seatC r p) (ruleC r) _ (by rfl) rfl rfl HBS.out Tryz.underlying72 rfl (infoR _) (part_seat r p) ?_)
      | ((with_reducible refine at_store4 72 ?_); refine wpList_store_blk 72 _ _ (w.heap.size + 2) 0 72 (ruleC ruleZ) (ruleC r) (ruleC r) (by rfl) rfl rfl rfl rfl HBZ.out (infoR _) (ruleC_one _) (show 0 + 11 ≤ 11 by decide) (put_ra _ _) ?_
         intro W1 hf1 hb1
         have HF := Lib.hid (HF3.out.fresh hf1 (fun i e => by have e : i = w.heap.size + 2 := e; omega))
         have HS1 := Lib.hid (hf1.blk HBS3.out (fun e => by have e : w.heap.size = w.heap.size + 2 := e; omega))
         have HR1 := Lib.hid (hf1.blk HBR.out (fun e => by have e : w.heap.size + 1 = w.heap.size + 2 := e; omega))
         have HB1 := Lib.hid hb1
         have c1 : W1.cell? ⟨w.heap.size + 2, 1, none⟩ = some (.int .i64 r.fr) := blkc hb1 1 _ rfl
         have c2 : W1.cell? ⟨w.heap.size + 2, 2, none⟩ = some (.int .i64 r.to) := blkc hb1 2 _ rfl
         have c3 : W1.cell? ⟨w.heap.size + 2, 3, none⟩ = some (.int .i64 r.month) := blkc hb1 3 _ rfl
         have c4 : W1.cell? ⟨w.heap.size + 2, 4, none⟩ = some (.int .i64 r.on.k) := blkc hb1 4 _ rfl
         have c5 : W1.cell? ⟨w.heap.size + 2, 5, none⟩ = some (.int .i64 r.on.d) := blkc hb1 5 _ rfl
         have c6 : W1.cell? ⟨w.heap.size + 2, 6, none⟩ = some (.int .i64 r.on.w) := blkc hb1 6 _ rfl
         clear hf1 hb1 HBS HBZ HBS3 HBR HF3)
      | ((with_reducible refine at_store4 166 ?_); refine wpList_store_blk 166 _ _ (w.heap.size + 1) 0 166 (fireC f0) (fireC f0) (fireC f0) (by rfl) rfl rfl rfl rfl HR1.out (infoXF _) (fireC_one _) (show 0 + 4 ≤ 4 by decide) (put_fi _ _) ?_
         intro W2 hf2 hb2
         have HF2 := Lib.hid (HF.out.fresh hf2 (fun i e => by have e : i = w.heap.size + 1 := e; omega))
         have HB2 := Lib.hid hb2
         clear hf2 hb2))
    exact bodyPost_ret (results_fire _ _ (w.heap.size + 1) f0 (.bool false) rfl rfl HB2.out) rfl ⟨by rw [HE.out]; rfl, HF2.out⟩
set_option maxHeartbeats 1600000 in
set_option maxRecDepth 100000 in
theorem fire_of (r : RuleL) (p y n j : Int) (w : World) (hw : S6.WOk w) (h1 : ¬ y < max r.fr 1) (h2 : ¬ min r.to 9999 < y) (hof : S6.ofD r.on.k r.on.d r.on.w y r.month = (n, j)) (hn : j = 0 → -4371600 ≤ n ∧ n < 2932910) (hs : -700000 ≤ r.at_.s ∧ r.at_.s ≤ 700000) :
    Calls Tryz.prog 120 #[.agg (seatC r p), intV y] w fun e w' => e = .returned (fireO (if j = 0 then some ⟨p, y, n * 86400 + r.at_.s, 0⟩ else none)) ∧ Fr w w' (fun _ => False) := by
  have HQ := Lib.hid (fun (W : World) (f : Fr w W (fun _ => False)) => S6.Of_any r.on.k r.on.d r.on.w y r.month W (hw.fr f) n j hof)
  have HW := Lib.hid hw
  have hs1 : (w.alloc (.cells (seatC r p) 172)).heap.size = w.heap.size + 1 := by simp
  have hs2 : ((w.alloc (.cells (seatC r p) 172)).alloc (.cells #[.int .i64 0, .int .i64 0, .int .i64 0, .int .i64 0] 166)).heap.size = w.heap.size + 2 := by simp
  have n1 := Fr.new w (.cells (seatC r p) 172) (fun _ => False)
  have n2 := Fr.new (w.alloc (.cells (seatC r p) 172)) (.cells #[.int .i64 0, .int .i64 0, .int .i64 0, .int .i64 0] 166) (fun _ => False)
  have n3 := Fr.new ((w.alloc (.cells (seatC r p) 172)).alloc (.cells #[.int .i64 0, .int .i64 0, .int .i64 0, .int .i64 0] 166)) (.cells #[.string ⟨#[]⟩, .int .i64 0, .int .i64 0, .int .i64 0, .int .i64 0, .int .i64 0, .int .i64 0, .int .i64 0, .int .i64 0, .int .i64 0, .string ⟨#[]⟩] 72) (fun _ => False)
  have HBS := Lib.hid (n2.blk (Blk.made w 172 (seatC r p)) (fun h => h))
  have hbr := Blk.made (w.alloc (.cells (seatC r p) 172)) 166 (fireC f0)
  have hbz := Blk.made ((w.alloc (.cells (seatC r p) 172)).alloc (.cells #[.int .i64 0, .int .i64 0, .int .i64 0, .int .i64 0] 166)) 72 (ruleC ruleZ)
  rw [hs1] at hbr
  rw [hs2] at hbz
  have HBS3 := Lib.hid (n3.blk HBS.out (fun h => h))
  have HBR := Lib.hid (n3.blk hbr (fun h => h))
  have HBZ := Lib.hid hbz
  have HF3 := Lib.hid (ff4 n1 (ff4 n2 n3))
  clear n1 n2 n3 hbr hbz hs1 hs2 hw
  by_cases hj : j = 0
  · subst hj
    obtain ⟨hn1, hn2⟩ := hn rfl
    obtain ⟨hs1, hs2⟩ := hs
    clear hn hof
    go_enter Tryz.func120, Tryz.ntmps120
    go_wp2_with (first
      | ((with_reducible refine at_load4 72 ?_); refine wpList_load_blk 72 _ w.heap.size 0 172 (seatC r p) (ruleC r) _ (by rfl) rfl rfl HBS.out Tryz.underlying72 rfl (infoR _) (part_seat r p) ?_)
      | ((with_reducible refine at_store4 72 ?_); refine wpList_store_blk 72 _ _ (w.heap.size + 2) 0 72 (ruleC ruleZ) (ruleC r) (ruleC r) (by rfl) rfl rfl rfl rfl HBZ.out (infoR _) (ruleC_one _) (show 0 + 11 ≤ 11 by decide) (put_ra _ _) ?_
         intro W1 hf1 hb1
         have HF := Lib.hid (HF3.out.fresh hf1 (fun i e => by have e : i = w.heap.size + 2 := e; omega))
         have HS1 := Lib.hid (hf1.blk HBS3.out (fun e => by have e : w.heap.size = w.heap.size + 2 := e; omega))
         have HR1 := Lib.hid (hf1.blk HBR.out (fun e => by have e : w.heap.size + 1 = w.heap.size + 2 := e; omega))
         have HB1 := Lib.hid hb1
         have c1 : W1.cell? ⟨w.heap.size + 2, 1, none⟩ = some (.int .i64 r.fr) := blkc hb1 1 _ rfl
         have c2 : W1.cell? ⟨w.heap.size + 2, 2, none⟩ = some (.int .i64 r.to) := blkc hb1 2 _ rfl
         have c3 : W1.cell? ⟨w.heap.size + 2, 3, none⟩ = some (.int .i64 r.month) := blkc hb1 3 _ rfl
         have c4 : W1.cell? ⟨w.heap.size + 2, 4, none⟩ = some (.int .i64 r.on.k) := blkc hb1 4 _ rfl
         have c5 : W1.cell? ⟨w.heap.size + 2, 5, none⟩ = some (.int .i64 r.on.d) := blkc hb1 5 _ rfl
         have c6 : W1.cell? ⟨w.heap.size + 2, 6, none⟩ = some (.int .i64 r.on.w) := blkc hb1 6 _ rfl
         clear hf1 hb1 HBS HBZ HBS3 HBR HF3))
    refine (HQ.out _ HF.out).mono ?_
    rintro e w5 ⟨rfl, hf5⟩
    have HF5 := Lib.hid (ff4 HF.out hf5)
    have HR5 := Lib.hid (hf5.blk HR1.out (fun h => h))
    have hb5 := hf5.blk HB1.out (fun h => h)
    have hs5 := hf5.blk HS1.out (fun h => h)
    have c7 : w5.cell? ⟨w.heap.size + 2, 7, none⟩ = some (.int .i64 r.at_.s) := blkc hb5 7 _ rfl
    have c11 : w5.cell? ⟨w.heap.size, 11, none⟩ = some (.int .i64 p) := blkc hs5 11 _ rfl
    clear hf5 hb5 hs5 c1 c2 c3 c4 c5 c6
    go_wp2_with (
      ((with_reducible refine at_store4 166 ?_); refine wpList_store_blk 166 _ _ (w.heap.size + 1) 0 166 (fireC f0) (fireC ⟨p, y, n * 86400 + r.at_.s, 0⟩) (fireC ⟨p, y, n * 86400 + r.at_.s, 0⟩) (by rfl) rfl rfl rfl rfl HR5.out (infoXF _) (fireC_one _) (show 0 + 4 ≤ 4 by decide) (put_fi _ _) ?_
       intro W2 hf2 hb2
       have HF2 := Lib.hid (HF5.out.fresh hf2 (fun i e => by have e : i = w.heap.size + 1 := e; omega))
       have HB2 := Lib.hid hb2
       clear hf2 hb2))
    exact bodyPost_ret (results_fire _ _ (w.heap.size + 1) ⟨p, y, n * 86400 + r.at_.s, 0⟩ (.bool true) rfl rfl HB2.out) rfl ⟨rfl, HF2.out⟩
  · have HJ := Lib.hid hj
    have hj : (j == 0) = false := beq_eq_false_iff_ne.2 hj
    clear hn hof
    go_enter Tryz.func120, Tryz.ntmps120
    go_wp2_with (first
      | ((with_reducible refine at_load4 72 ?_); refine wpList_load_blk 72 _ w.heap.size 0 172 (seatC r p) (ruleC r) _ (by rfl) rfl rfl HBS.out Tryz.underlying72 rfl (infoR _) (part_seat r p) ?_)
      | ((with_reducible refine at_store4 72 ?_); refine wpList_store_blk 72 _ _ (w.heap.size + 2) 0 72 (ruleC ruleZ) (ruleC r) (ruleC r) (by rfl) rfl rfl rfl rfl HBZ.out (infoR _) (ruleC_one _) (show 0 + 11 ≤ 11 by decide) (put_ra _ _) ?_
         intro W1 hf1 hb1
         have HF := Lib.hid (HF3.out.fresh hf1 (fun i e => by have e : i = w.heap.size + 2 := e; omega))
         have HS1 := Lib.hid (hf1.blk HBS3.out (fun e => by have e : w.heap.size = w.heap.size + 2 := e; omega))
         have HR1 := Lib.hid (hf1.blk HBR.out (fun e => by have e : w.heap.size + 1 = w.heap.size + 2 := e; omega))
         have HB1 := Lib.hid hb1
         have c1 : W1.cell? ⟨w.heap.size + 2, 1, none⟩ = some (.int .i64 r.fr) := blkc hb1 1 _ rfl
         have c2 : W1.cell? ⟨w.heap.size + 2, 2, none⟩ = some (.int .i64 r.to) := blkc hb1 2 _ rfl
         have c3 : W1.cell? ⟨w.heap.size + 2, 3, none⟩ = some (.int .i64 r.month) := blkc hb1 3 _ rfl
         have c4 : W1.cell? ⟨w.heap.size + 2, 4, none⟩ = some (.int .i64 r.on.k) := blkc hb1 4 _ rfl
         have c5 : W1.cell? ⟨w.heap.size + 2, 5, none⟩ = some (.int .i64 r.on.d) := blkc hb1 5 _ rfl
         have c6 : W1.cell? ⟨w.heap.size + 2, 6, none⟩ = some (.int .i64 r.on.w) := blkc hb1 6 _ rfl
         clear hf1 hb1 HBS HBZ HBS3 HBR HF3))
    refine (HQ.out _ HF.out).mono ?_
    rintro e w5 ⟨rfl, hf5⟩
    have HF5 := Lib.hid (ff4 HF.out hf5)
    have HR5 := Lib.hid (hf5.blk HR1.out (fun h => h))
    have hb5 := hf5.blk HB1.out (fun h => h)
    have hs5 := hf5.blk HS1.out (fun h => h)
    have c7 : w5.cell? ⟨w.heap.size + 2, 7, none⟩ = some (.int .i64 r.at_.s) := blkc hb5 7 _ rfl
    have c11 : w5.cell? ⟨w.heap.size, 11, none⟩ = some (.int .i64 p) := blkc hs5 11 _ rfl
    clear hf5 hb5 hs5 c1 c2 c3 c4 c5 c6
    go_wp2_with (
      ((with_reducible refine at_store4 166 ?_); refine wpList_store_blk 166 _ _ (w.heap.size + 1) 0 166 (fireC f0) (fireC f0) (fireC f0) (by rfl) rfl rfl rfl rfl HR5.out (infoXF _) (fireC_one _) (show 0 + 4 ≤ 4 by decide) (put_fi _ _) ?_
       intro W2 hf2 hb2
       have HF2 := Lib.hid (HF5.out.fresh hf2 (fun i e => by have e : i = w.heap.size + 1 := e; omega))
       have HB2 := Lib.hid hb2
       clear hf2 hb2))
    exact bodyPost_ret (results_fire _ _ (w.heap.size + 1) f0 (.bool false) rfl rfl HB2.out) rfl ⟨rfl, HF2.out⟩
theorem fire_any (r : RuleL) (p y : Int) (w : World) (hw : S6.WOk w) (hs : -700000 ≤ r.at_.s ∧ r.at_.s ≤ 700000) : Calls Tryz.prog 120 #[.agg (seatC r p), intV y] w fun e w' => e = .returned (fireO (fireR r p y)) ∧ Fr w w' (fun _ => False) := by
  by_cases hl : lasts r y
  · obtain ⟨l1, l2, l3, l4⟩ := hl
    obtain ⟨n, j, hnj⟩ : ∃ n j, S6.ofD r.on.k r.on.d r.on.w y r.month = (n, j) := ⟨_, _, rfl⟩
    obtain ⟨N0, N1⟩ := num_of hnj
    have h := fire_of r p y n j w hw (by omega) (by omega) hnj (fun hj => numX_range (N0 hj)) hs
    have e : (if j = 0 then some ⟨p, y, n * 86400 + r.at_.s, 0⟩ else none) = fireR r p y := by
      unfold fireR
      by_cases hj : j = 0
      · rw [if_pos hj, atR_num ⟨l1, l2, l3, l4⟩ (N0 hj)]; rfl
      · rw [if_neg hj, atR_none (N1 hj)]; rfl
    rwa [e] at h
  · exact fire_no r p y w hw (by unfold lasts at hl; omega)
end Go.Proofs.YtghcfmoagkimaaaGreatDoor
namespace Go.Proofs.YtghcfmoagkimaaaGreatDoor
open Go.RowKit Go.Mem Go.Lin Go.Dcm

/-- rows of the type e -/
def TB (B : Nat) (e : TypeId) (w : World) (i : Nat) : Prop := B ≤ i ∧ ∃ cs, Blk w i e cs
theorem tb_own {X : Type} {w w' : World} {B : Nat} {e : TypeId} {k : Nat} {f : X → List Value} {v : Value} {l : List X} (h : Own w B e k f v l) (hf : Fr w w' (fun i => some i = v.ownBlock)) : Fr w w' (TB B e w) :=
  hf.mono fun i _ hi => by
    obtain ⟨h1, -, h2⟩ := own_block h hi.symm
    exact ⟨h1, h2⟩
end Go.Proofs.YtghcfmoagkimaaaGreatDoor
namespace Go.Proofs.YtghcfmoagkimaaaGreatDoor
open Go.RowKit Go.Mem Go.Lin Go.Dcm

/-- a slice of lines -/
def LinesAt (w : World) (A : Option Addr) (l : List LineL) : Prop := Rd w 29 A l.length (l.flatMap lineL)
theorem LinesAt.kept {w w' : World} {A : Option Addr} {l : List LineL} (h : LinesAt w A l) (hf : Fr w w' (fun _ => False)) : LinesAt w' A l := Rd.fr h hf (fun _ _ _ _ h => h)
theorem LinesAt.at_ {w : World} {A : Option Addr} {l : List LineL} (h : LinesAt w A l) {i : Nat} (hi : i < l.length) : ∃ b off, A = some ⟨b, off, none⟩ ∧ ∀ j, j < (lineC l[i]).size → w.cell? ⟨b, off + i * 29 + j, none⟩ = (lineC l[i])[j]? := by
  obtain ⟨b, off, e, hc⟩ := rows_at lineL_len h (List.getElem?_eq_getElem hi)
  refine ⟨b, off, e, fun j hj => ?_⟩
  rw [hc j hj]
  show (lineC l[i]).toList[j]? = _
  simp
end Go.Proofs.YtghcfmoagkimaaaGreatDoor
namespace Go.Mem
open Go.RowKit
section
variable {P : Program} {ops : Array Oper} {rest : List Oper} {o : Oper} {a : Act} {w : World} {Q : Exit → Act → World → Prop}
/-- a struct is put together -/
theorem wpList_build1 (t : TypeId) (parts : Array (Nat × Operand)) (v : Value) (hgd : Region.wanted o (yielded ops a.tmps) = true) (ho : o.op = .build t parts) (h : ∀ w, (Instr.build t (parts.map fun (i, x) => (i, a.eval x))).run P w = .ok v w)
    (hK : wpList P ops Q rest (a.put o.dst v) w) : wpList P ops Q (o :: rest) a w :=
  wpList_step fun _ hk => by
    rw [if_pos hgd]
    unfold Oper.wp execOp
    simp only [ho, Sem.run_bind, h, Sem.run_pure, Result.andThen_ok]
    exact hk _ _ hK
/-- a slice of one element is made: the world behind it is opaque -/
theorem wpList_made {t e : TypeId} {y : Operand} {v : Value} (cs : Array Value) (hgd : Region.wanted o (yielded ops a.tmps) = true) (ho : o.op = .buildSlice t 1 #[(0, y)]) (hy : a.eval y = v)
    (hm : ∀ w, (Instr.buildSlice t 1 #[(0, v)]).run P w = .ok (.slice (some ⟨w.heap.size, 0, none⟩) 1 1) (w.alloc (.cells cs e)))
    (h : ∀ W, Fr w W (fun _ => False) → W.heap.size = w.heap.size + 1 → Blk W w.heap.size e cs → Rd W cs.size (some ⟨w.heap.size, 0, none⟩) 1 cs.toList → wpList P ops Q rest (a.put o.dst (.slice (some ⟨w.heap.size, 0, none⟩) 1 1)) W) : wpList P ops Q (o :: rest) a w :=
  wpList_step fun _ hK => by
    rw [if_pos hgd]
    unfold Oper.wp execOp
    simp only [ho, Sem.run_bind, List.map_toArray, List.map_cons, List.map_nil, hy, hm, Result.andThen_ok]
    refine hK _ _ (h _ (Fr.new w _ _) (by simp) (Blk.made w e cs) ?_)
    refine ⟨by simp, fun _ => ⟨w.heap.size, 0, rfl, fun j u hu => ?_⟩⟩
    have := cell_at (Blk.made w e cs) j
    rw [Nat.zero_add, this]
    simpa using hu
end
end Go.Mem
namespace Go.Proofs.YtghcfmoagkimaaaGreatDoor
open Go.RowKit Go.Mem Go.Lin Go.Dcm
/-- one element more: the row behind it, the world opaque -/
theorem wpList_append1 {P : Program} {ops : Array Oper} {rest : List Oper} {o : Oper} {a : Act} {w : World} {Q : Exit → Act → World → Prop} {X : Type} {f : X → List Value} {l : List X} (s y : Operand) (t : TypeId)
    (hgd : o.guard = none) (ho : o.op = .call { callee := .builtin .append, args := #[s, y], argTypes := #[t, t] })
    (base : Nat) (e : TypeId) (z : Value) (size bytes : Nat) (ht : P.underlying t = some (.slice e)) (hi : (P.info? e).map (fun i => (i.zero, i.size, i.bytes)) = some (some z, size, bytes)) (hzs : z.cells.size = size) (hsz : 0 < size)
    (v : Value) (hs : a.eval s = v) (hown : Own w base e size f v l) (A : Option Addr) (c : Nat) (x : X) (cs : List Value) (hx : a.eval y = .slice A 1 c) (hr : Rd w size A 1 cs) (hcs : cs = f x) (h1 : ∀ u ∈ cs, u.oneCell' = true)
    (h63 : l.length ≤ 100000) (hby : bytes ≤ 1000) (hbase : base ≤ w.heap.size)
    (h : ∀ A9 c9 w9, Own w9 base e size f (.slice A9 (l.length + 1) c9) (l ++ [x]) → Fr w w9 (fun i => some i = v.ownBlock) → wpList P ops Q rest (a.put o.dst (.slice A9 (l.length + 1) c9)) w9) : wpList P ops Q (o :: rest) a w := by
  obtain ⟨i0, hi0, hz0, hz1, hz2⟩ := info_parts hi
  refine wpList_append_rd w hgd s y t ho base e i0 z size bytes ht hi0 hz0 hz1 hz2 hzs hsz v l.length _ hs hown A 1 c cs hx hr h1 (by simp only [maxLen]; omega) ?_ hbase ?_
  · have : (l.length + 1) * bytes ≤ 100001 * 1000 := Nat.mul_le_mul (by omega) hby
    omega
  · intro v9 w9 hown9 hg9 _
    obtain ⟨A9, c9, rfl⟩ := Go.Mem.own_slice hown9
    exact h A9 c9 w9 (own_more hown9 hcs) (Fr.ofGrown hg9)
namespace R
end R
end Go.Proofs.YtghcfmoagkimaaaGreatDoor
