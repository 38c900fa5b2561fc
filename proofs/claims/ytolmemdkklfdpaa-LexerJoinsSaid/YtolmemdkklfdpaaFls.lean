import Derived.Test.YtolmemdkklfdpaaFie
import Derived.Deep.RegionHeld3
namespace Go.Proofs.Ytolmemdkklfdpaa
open Go.RowKit Go.Mem Go.Lxr

abbrev FPair := Bs × Nat
def cellsF (x : FPair) : List Value := [strV x.1, .int .i64 (x.2 : Int)]
theorem cellsF_len (fs : List FPair) : (fs.flatMap cellsF).length = fs.length * 2 := by
  induction fs with
  | nil => rfl
  | cons x fs ih => simp [cellsF, ih]; omega
/-- the slice v is the call's own and holds these fields, of the type t -/
def Flds (t : TypeId) (w : World) (base : Nat) (v : Value) (fs : List FPair) : Prop := w.ownsRow base t 2 v fs.length (fs.flatMap cellsF)
theorem own_base {w : World} {base base' : Nat} {e : TypeId} {size n : Nat} {v : Value} {xs : List Value} (h : w.ownsRow base e size v n xs) (hb : base' ≤ base) : w.ownsRow base' e size v n xs := by
  refine ⟨h.1, ?_⟩
  rcases h.2 with h2 | ⟨g, cap, cur, hv, hg, r⟩
  · exact .inl h2
  · exact .inr ⟨g, cap, cur, hv, by omega, r⟩
theorem Flds.fr {t : TypeId} {a b : World} {S : Nat → Prop} {base : Nat} {v : Value} {fs : List FPair} (h : Flds t a base v fs) (hf : Fr a b S) (hg : ∀ g, S g → g < base) : Flds t b base v fs :=
  Fr.own hf h (fun g e hs => by have := (h.lt g e).1; have := hg g hs; omega)
theorem flds_nil (t : TypeId) (w : World) (base : Nat) : Flds t w base (.slice none 0 0) [] := World.ownsRow_nil _ _ _ _
theorem rd_two (w : World) (x y : Value) (t : TypeId) : Rd (w.alloc (.cells #[x, y] t)) 2 (some ⟨w.heap.size, 0, none⟩) 1 [x, y] := by
  refine ⟨by simp, fun _ => ⟨w.heap.size, 0, rfl, fun j u hu => ?_⟩⟩
  have := two_new w x y t j u hu
  have hadd : (⟨w.heap.size, 0, none⟩ : Addr).add j = ⟨w.heap.size, 0 + j, none⟩ := by unfold Addr.add; split <;> simp_all
  rw [hadd] at this
  exact this
theorem one_two' (x : Bs) (y : Int) : ∀ u ∈ [strV x, Value.int .i64 y], u.oneCell' = true := one_two _ _ rfl rfl
/-- white that is passed by -/
theorem fields_skip : ∀ (l : Bs) (p : Nat), fieldsD p l = fieldsD (p + (l.takeWhile (hasF whiteS)).length) (l.dropWhile (hasF whiteS)) := by
  intro l
  induction l with
  | nil => intro p; rfl
  | cons c l ih =>
    intro p
    cases hc : hasF whiteS c with
    | true =>
      obtain ⟨e1, e2⟩ := tw_cons (l := l) hc
      rw [e1, e2]
      have hc : whiteS.contains c = true := hc
      rw [white_iff] at hc
      rw [fields_white hc, ih, List.length_cons, show p + 1 + (l.takeWhile (hasF whiteS)).length = p + ((l.takeWhile (hasF whiteS)).length + 1) by omega]
    | false =>
      obtain ⟨e1, e2⟩ := tw_stop (f := hasF whiteS) (l := c :: l) hc
      rw [e1, e2]
      rfl
theorem drop_white (l : Bs) : l.dropWhile (hasF whiteS) = [] ∨ ∃ c r, l.dropWhile (hasF whiteS) = c :: r ∧ whiteB c = false := by
  induction l with
  | nil => exact .inl rfl
  | cons c l ih =>
    cases hc : hasF whiteS c with
    | true => rw [(tw_cons (l := l) hc).2]; exact ih
    | false =>
      rw [(tw_stop (f := hasF whiteS) (l := c :: l) hc).2]
      have hc : whiteS.contains c = false := hc
      rw [white_iff] at hc
      exact .inr ⟨c, l, rfl, hc⟩
/-- at the end of a line, or at a field -/
theorem starts_two {r : Bs} (h : r = [] ∨ ∃ c r', r = c :: r' ∧ whiteB c = false) : (startsD r = false ∧ ∀ q, fieldsD q r = .ok []) ∨ (startsD r = true ∧ ∃ c r', r = c :: r' ∧ stopB c = false) := by
  rcases h with rfl | ⟨c, r', rfl, hc⟩
  · exact .inl ⟨rfl, fields_nil⟩
  · by_cases h35 : c = 35
    · subst h35
      exact .inl ⟨rfl, fun q => fields_note q r'⟩
    · refine .inr ⟨?_, c, r', rfl, ?_⟩
      · show (!(c == 35)) = true
        simpa using h35
      · unfold stopB
        rw [hc]
        simpa using h35
/-- what Fields answers of a line that is not too long -/
def FieldsRan (t : TypeId) (g : Except Nat (List FPair)) (w : World) (e : Ending) (w' : World) : Prop :=
  match g with
  | .error k => e = .returned (.tuple #[.slice none 0 0, .int .i64 (k : Int), .int .i64 9]) ∧ Fr w w' (fun _ => False)
  | .ok fs => ∃ v, e = .returned (.tuple #[v, .int .i64 0, .int .i64 0]) ∧ Flds t w' w.heap.size v fs ∧ Fr w w' (fun _ => False)
def NInv (w : World) (s : ByteArray) (l : Bs) (g : Nat) (v2 : Value) (wr : World) : Prop :=
  ∃ (done : List FPair) (m : Bs) (q : Nat), m.length = g ∧ Flds 38 wr (w.heap.size + 1) v2 done ∧ RdAt wr w.heap.size s q m ∧ (fieldsD 0 l = (fieldsD q m).map fun x => done ++ x) ∧ Fr w wr (fun _ => False) ∧ done.length + m.length ≤ 200
theorem fresh_f {a b c : World} {g : Nat} (h : Fr a b (fun _ => False)) (k : Fr b c (· = g)) (hg : a.heap.size ≤ g) : Fr a c (fun _ => False) := h.fresh k (fun i e => by omega)
theorem Fields_long (s : ByteArray) (w : World) (h : 200 < s.size) (hz : s.size ≤ 1000000) : Calls Try.prog 10 #[.string s] w fun e w' => e = .returned (.tuple #[.slice none 0 0, .int .i64 0, .int .i64 17]) ∧ w = w' := by
  go_enter Try.func10, Try.ntmps10
  go_wp2_with fail
  go_ret3
  exact ⟨rfl, rfl⟩
set_option maxHeartbeats 1600000 in
theorem Fields_short (s : ByteArray) (l : Bs) (w : World) (hs : s.data.toList = l) (h : s.size ≤ 200) : Calls Try.prog 10 #[.string s] w (FieldsRan 38 (fieldsD 0 l) w) := by
  have hlen : l.length = s.size := by rw [← hs]; exact bytes_len s
  have hb := Blk.made w 43 #[.string s, .int .i64 0]
  have H0 := Lib.hid (show RdAt (w.alloc (.cells #[.string s, .int .i64 0] 43)) w.heap.size s 0 l from ⟨Nat.zero_le _, by simpa using hs, hb⟩)
  clear hb hs
  go_enter Try.func10, Try.ntmps10
  go_wp2_with fail
  go_loopg [2, 6, 7] l.length (fun g v2 _ _ wr => NInv w s l g v2 wr)
  case atStart => exact ⟨[], l, 0, rfl, flds_nil _ _ _, H0.out, by cases fieldsD 0 l <;> rfl, Fr.new _ _ _, by simp; omega⟩
  case round =>
    obtain ⟨done, m, q, hg, hfl, hrd, hpf, hfr, hdl⟩ := hrel
    have hlen1 := hrd.len
    obtain ⟨t, ht⟩ : ∃ t, m.takeWhile (hasF whiteS) = t := ⟨_, rfl⟩
    obtain ⟨r, hr⟩ : ∃ r, m.dropWhile (hasF whiteS) = r := ⟨_, rfl⟩
    have hsk := fields_skip m q
    have hdw := drop_white m
    have hlm : m.length = t.length + r.length := by
      have := congrArg List.length (tw_app (hasF whiteS) m)
      rw [ht, hr, List.length_append] at this
      exact this
    rw [ht, hr] at hsk
    rw [hr] at hdw
    have HPF := Lib.hid hpf
    have HFL := Lib.hid hfl
    have HFR := Lib.hid hfr
    have hws := hrd.lt
    obtain ⟨A2, c2, rfl⟩ := own_slice hfl
    rcases starts_two hdw with ⟨hx, hn⟩ | ⟨hx, c, r0, hc, hcs⟩
    · have HN := Lib.hid (find_any wr w.heap.size q s m hrd (by omega) t r ht hr false hx)
      have HQ := Lib.hid (hn (q + t.length))
      have HSK := Lib.hid hsk
      clear hpf hfl hfr ht hr hsk hdw hx hn hrd hlm hlen1
      go_wp2_with fail
      refine HN.out.mono ?_
      rintro e w2 ⟨rfl, hr2, hf2⟩
      go_wp2_with fail
      go_ret3
      rw [HPF.out, HSK.out, HQ.out]
      refine ⟨_, rfl, ?_, fresh_f HFR.out hf2 (Nat.le_refl _)⟩
      show Flds _ _ _ _ (done ++ [])
      rw [List.append_nil]
      exact own_base (HFL.out.fr hf2 (fun g e => by omega)) (Nat.le_succ _)
    · have HN := Lib.hid (find_any wr w.heap.size q s m hrd (by omega) t r ht hr true hx)
      obtain ⟨q2, hq2⟩ : ∃ q2 : Nat, q + t.length = q2 := ⟨_, rfl⟩
      rw [hq2] at HN hsk
      have HSK := Lib.hid hsk
      have hqs : q2 + r.length = s.size := by omega
      have HM := Lib.hid (fun W h => field_any W w.heap.size q2 s r h (by omega))
      subst hc
      rcases hgf : fieldD q2 (c :: r0) with k | ⟨x, r1⟩
      · have HQ := Lib.hid (fields_bad hcs q2 k r0 hgf)
        rw [hgf] at HM
        clear hpf hfl hfr ht hr hsk hdw hx hrd hlm hlen1 hgf hq2 hqs
        go_wp2_with fail
        refine HN.out.mono ?_
        rintro e w2 ⟨rfl, hr2, hf2⟩
        have HM2 := Lib.hid (HM.out w2 hr2)
        have HF2 := Lib.hid (fresh_f HFR.out hf2 (Nat.le_refl _))
        clear hr2 hf2
        go_wp2_with fail
        refine HM2.out.mono ?_
        rintro e w3 ⟨rfl, ⟨m3, hr3⟩, hf3⟩
        have HF3 := Lib.hid (fresh_f HF2.out hf3 (Nat.le_refl _))
        have c0' := (Fr.new w3 (fieldC [] 0) (fun _ => False)).cell0 (cell_at hr3.2.2 0)
        have c1' := (Fr.new w3 (fieldC [] 0) (fun _ => False)).cell0 (cell_at hr3.2.2 1)
        simp at c0' c1'
        clear hr3 hf3
        go_wp2_with fail
        go_quiet (fail)
        go_wp2_with fail
        go_ret3
        rw [HPF.out, HSK.out, HQ.out]
        exact ⟨rfl, ff (ff HF3.out (Fr.new _ _ _)) (Fr.drewN _ _ _)⟩
      · have HQ := Lib.hid (fields_one hcs q2 r0 x r1 hgf)
        obtain ⟨-, -, -, hlt⟩ := field_ok _ _ x r1 hgf
        have hlt := hlt ⟨c, r0, rfl, hcs⟩
        rw [hgf] at HM
        have hg2 : r1.length < gk := by omega
        have hd2 : done.length + 1 + r1.length ≤ 200 := by omega
        have HQS := Lib.hid hqs
        clear hpf hfl hfr ht hr hsk hdw hx hrd hlm hgf hlen1 hg hdl hq2 hqs hlen
        go_wp2_with fail
        refine HN.out.mono ?_
        rintro e w2 ⟨rfl, hr2, hf2⟩
        have HM2 := Lib.hid (HM.out w2 hr2)
        have HF2 := Lib.hid (fresh_f HFR.out hf2 (Nat.le_refl _))
        have HFL2 := Lib.hid (HFL.out.fr hf2 (fun g e => by omega))
        clear hr2 hf2
        go_wp2_with fail
        refine HM2.out.mono ?_
        rintro e w3 ⟨rfl, ⟨q3, hr3⟩, hf3⟩
        have hf4 := Fr.new w3 (fieldC x (q2 : Int)) (fun _ => False)
        have hf5 := ff hf4 (Fr.new (w3.alloc (fieldC x (q2 : Int))) (fieldC x (q2 : Int)) (fun _ => False))
        have HF5 := Lib.hid (ff (fresh_f HF2.out hf3 (Nat.le_refl _)) hf5)
        have HR5 := Lib.hid (hr3.fr hf5 (fun h => h))
        have HFL5 := Lib.hid ((HFL2.out.fr hf3 (fun g e => by omega)).fr hf5 (fun g e => e.elim))
        have hld := load_f (Blk.made w3 38 #[strV x, .int .i64 (q2 : Int)])
        have hs5 : w.heap.size + 1 ≤ ((w3.alloc (fieldC x (q2 : Int))).alloc (fieldC x (q2 : Int))).heap.size := by have := HR5.out.lt; omega
        have hrx := rd_two (w3.alloc (fieldC x (q2 : Int))) (strV x) (.int .i64 (q2 : Int)) 38
        rw [show (w3.alloc (fieldC x (q2 : Int))).heap.size = w3.heap.size + 1 by simp] at hrx
        have HRX := Lib.hid hrx
        obtain ⟨i0, hi0, hz0, hz1, hz2⟩ := info_parts infoF
        clear hr3 hf3 hf4 hf5 hrx
        go_wp2_with (at_builtin; refine wpList_append_rd _ rfl (.tmp 27) (.tmp 29) 23 rfl (w.heap.size + 1) 38 i0 _ 2 24 Try.underlying23 hi0 hz0 hz1 hz2 rfl (by decide) _ done.length _ rfl HFL5.out _ 1 1 [strV x, .int .i64 (q2 : Int)] rfl HRX.out (one_two' _ _) (by simp only [maxLen]; omega) (by omega) hs5 ?_; intro v7 w7 hown7 hg7 _)
        have hfl7 : Flds 38 w7 (w.heap.size + 1) v7 (done ++ [(x, q2)]) := by
          show World.ownsRow _ _ _ _ _ _ _
          simpa [cellsF] using hown7
        have hf7 := Fr.ofGrown hg7
        obtain ⟨A7, c7, rfl⟩ := own_slice hfl7
        have hge : ∀ k, some k = (Value.slice A2 done.length c2).ownBlock → w.heap.size + 1 ≤ k := fun k e => (HFL5.out.lt k e.symm).1
        go_roundg r1.length
        case measure => omega
        case rel =>
          have hr7 := HR5.out.fr hf7 (fun e => by have := hge _ e; omega)
          have hlen7 := hr7.len
          refine ⟨done ++ [(x, q2)], r1, q3, rfl, hfl7, hr7, ?_, HF5.out.fresh hf7 (fun i e => by have := hge _ e; omega), by simp; omega⟩
          rw [HPF.out, HSK.out, HQ.out, show q2 + ((c :: r0).length - r1.length) = q3 by have := HQS.out; omega]
          cases fieldsD q3 r1 with
          | error k => rfl
          | ok x => simp [Except.map]
end Go.Proofs.Ytolmemdkklfdpaa
