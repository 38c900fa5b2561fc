import Derived.Test.YtlfjknndkjgciaaGreatDoorYa16
import Derived.OwnWalk
import Derived.Lib.Hide
import Derived.LoopTactic
import Derived.IntWalk
import Derived.Deep.RegionHeld
namespace Go.Proofs.YtlfjknndkjgciaaGreatDoor
open Go.RowKit Go.Mem Go.Lin Go.Dcm

theorem infoDiag : (Tryz.prog.info? 65).map (fun i => (i.zero, i.size, i.bytes)) = some (some (.agg #[strV [], intV 0, intV 0, intV 0]), 4, 40) := by kernel_rfl
theorem infoDrule : (Tryz.prog.info? 72).map (fun i => (i.zero, i.size, i.bytes)) = some (some (.agg (ruleL (ruleZ, 0)).toArray), 12, 112) := by kernel_rfl
theorem infoDlink : (Tryz.prog.info? 78).map (fun i => (i.zero, i.size, i.bytes)) = some (some (.agg #[strV [], strV [], intV 0]), 3, 40) := by kernel_rfl
theorem infoDzone : (Tryz.prog.info? 71).map (fun i => (i.zero, i.size, i.bytes)) = some (some (.agg #[strV [], .slice none 0 0, .slice none 0 0]), 3, 64) := by kernel_rfl
theorem infoRrule : (Tryz.prog.info? 61).map (fun i => (i.zero, i.size, i.bytes)) = some (some (.agg (ruleL (ruleZ, 0)).toArray), 12, 112) := by kernel_rfl
theorem infoRlink : (Tryz.prog.info? 63).map (fun i => (i.zero, i.size, i.bytes)) = some (some (.agg #[strV [], strV [], intV 0]), 3, 40) := by kernel_rfl
theorem infoRzone : (Tryz.prog.info? 69).map (fun i => (i.zero, i.size, i.bytes)) = some (some (.agg #[strV [], .slice none 0 0, .slice none 0 0]), 3, 64) := by kernel_rfl
theorem infoEra : (Tryz.prog.info? 55).map (fun i => (i.zero, i.size, i.bytes)) = some (some (.agg (eraC eraZ)), 13, 120) := by kernel_rfl
theorem infoInt : (Tryz.prog.info? 3).map (fun i => (i.zero, i.size, i.bytes)) = some (some (intV 0), 1, 8) := by kernel_rfl
/-- a row of one element, just made -/
theorem rd_made (w : World) (t : TypeId) (cs : Array Value) : Rd (w.alloc (.cells cs t)) cs.size (some ⟨w.heap.size, 0, none⟩) 1 cs.toList := by
  refine ⟨by simp, fun _ => ⟨w.heap.size, 0, rfl, fun j u hu => ?_⟩⟩
  have := cell_at (Blk.made w t cs) j
  rw [Nat.zero_add, this]
  simpa using hu
theorem one_made {cs : Array Value} (h : cs.all (·.oneCell') = true) : ∀ u ∈ cs.toList, u.oneCell' = true := by
  intro u hu
  have := (Array.all_eq_true' ).1 h u (by simpa using hu)
  exact this
/-- a row with one element more -/
theorem own_more {X : Type} {w : World} {base : Nat} {e : TypeId} {k : Nat} {f : X → List Value} {v : Value} {l : List X} {x : X} {cs : List Value} (h : w.ownsRow base e k v (l.length + 1) (l.flatMap f ++ cs)) (hc : cs = f x) : Own w base e k f v (l ++ [x]) := by
  subst hc
  show w.ownsRow base e k v (l ++ [x]).length ((l ++ [x]).flatMap f)
  simpa using h
theorem own_none {X : Type} (w : World) (base : Nat) (e : TypeId) (k : Nat) (f : X → List Value) : Own w base e k f (.slice none 0 0) ([] : List X) := World.ownsRow_nil _ _ _ _
/-- a row of one element, just made, as a row of the call's own -/
theorem own_made {X : Type} {w : World} {base : Nat} {e : TypeId} {k : Nat} {f : X → List Value} {x : X} {cs : Array Value} (hb : base ≤ w.heap.size) (hc : cs.toList = f x) (hk : cs.size = k) : Own (w.alloc (.cells cs e)) base e k f (.slice (some ⟨w.heap.size, 0, none⟩) 1 1) [x] := by
  have hl : cs.toList.length = k := by simpa using hk
  refine ⟨by simp [← hc, hl], .inr ⟨w.heap.size, 1, cs, rfl, hb, Blk.made w e cs, Nat.le_refl _, by unfold maxLen; omega, by omega, ?_⟩⟩
  show cs.toList.take _ = [x].flatMap f
  rw [show [x].length * k = cs.toList.length by simp [hl], List.take_length]
  simp [hc]
theorem own_base {X : Type} {w : World} {a b : Nat} {e : TypeId} {k : Nat} {f : X → List Value} {v : Value} {l : List X} (h : Own w b e k f v l) (hb : a ≤ b) : Own w a e k f v l := by
  refine ⟨h.1, ?_⟩
  rcases h.2 with h2 | ⟨g, cap, cur, hv, hg, r⟩
  · exact .inl h2
  · exact .inr ⟨g, cap, cur, hv, by omega, r⟩
theorem own_block {X : Type} {w : World} {b : Nat} {e : TypeId} {k : Nat} {f : X → List Value} {v : Value} {l : List X} (h : Own w b e k f v l) {g : Nat} (hg : v.ownBlock = some g) : b ≤ g ∧ g < w.heap.size ∧ ∃ cs, Blk w g e cs := by
  obtain ⟨h1, h2⟩ := h.lt g hg
  refine ⟨h1, h2, ?_⟩
  rcases h.2 with ⟨rfl, _⟩ | ⟨g', cap, cur, rfl, _, hh, _⟩
  · simp [Value.ownBlock] at hg
  · have : g' = g := by simpa [Value.ownBlock] using hg
    subst this
    exact ⟨cur, hh⟩
theorem blk_same {w : World} {g : Nat} {t t' : TypeId} {cs cs' : Array Value} (h : Blk w g t cs) (h' : Blk w g t' cs') : t = t' := by
  unfold Blk at h h'
  rw [h] at h'
  injection h' with h'
  injection h' with _ ht
/- zones -/
def Under (M : Nat) (x : ZV) : Prop := (∀ k, x.2.1.ownBlock = some k → k < M) ∧ ∀ k, x.2.2.ownBlock = some k → k < M
/-- v owns a row of zones, the last one's rows behind all others' -/
def ZsAt (w : World) (base : Nat) (v : Value) (zs : List ZoneL) : Prop := ∃ (zv : List ZV) (M : Nat), zv.map (·.1) = zs ∧ Own w base 71 3 zoneL v zv ∧ (∀ x ∈ zv, ZAt w base x) ∧ base ≤ M ∧ M ≤ w.heap.size ∧
  ∀ a x, zv = a ++ [x] → ZAt w M x ∧ ∀ y ∈ a, Under M y
/-- what a method of the gatherer may turn: itself, and rows (no line) -/
def Gx (g B : Nat) (w : World) (k : Nat) : Prop := k = g ∨ (B ≤ k ∧ ∃ e cs, Blk w k e cs ∧ e ≠ 58)
theorem gx_trans {g B : Nat} {a b c : World} (h : Fr a b (Gx g B a)) (k : Fr b c (Gx g B b)) : Fr a c (Gx g B a) := by
  refine ⟨k.os.trans h.os, k.tape.trans h.tape, k.output.trans h.output, Nat.le_trans h.size k.size, fun i hi hn => ?_⟩
  have e1 := h.block i hi hn
  refine (k.block i (Nat.lt_of_lt_of_le hi h.size) (fun hx => hn ?_)).trans e1
  rcases hx with hx | ⟨hx, e, cs, hb, he⟩
  · exact .inl hx
  · exact .inr ⟨hx, e, cs, by unfold Blk at hb ⊢; rw [← e1]; exact hb, he⟩
theorem gx_none {g B : Nat} {a b : World} (h : Fr a b (fun _ => False)) : Fr a b (Gx g B a) := h.mono (fun _ _ h => h.elim)
theorem gx_line {g B : Nat} {w : World} {q : Nat} {cs cs' : Array Value} (hg : Blk w g 81 cs') (h : Blk w q 58 cs) : ¬ Gx g B w q := by
  rintro (rfl | ⟨-, e, cs2, hb, he⟩)
  · exact absurd (blk_same hg h) (by decide)
  · exact he (blk_same hb h)
theorem gx_low {g B : Nat} {w : World} {q : Nat} (hg : g < B) (h : q < g) : ¬ Gx g B w q := by
  rintro (rfl | ⟨hx, -⟩)
  · omega
  · omega
/-- the gatherer at g holds the state s; i: the line that is gathered -/
structure GAt (w : World) (g B : Nat) (i : Int) (s : StL) : Prop where
  lt : g < B
  ex : ∃ vr vz vl vd, Blk w g 81 #[vr, vz, vl, vd, intV i, .bool s.opn] ∧ Own w B 72 12 ruleL vr s.rules ∧ ZsAt w B vz s.zones ∧ Own w B 78 3 linkL vl s.links ∧ Own w B 65 4 diagL vd s.diags
theorem ZAt.fr {w w' : World} {S : Nat → Prop} {base : Nat} {z : ZV} (h : ZAt w base z) (hf : Fr w w' S) (h1 : ∀ k cs, base ≤ k → Blk w k 55 cs → ¬ S k) (h2 : ∀ k cs, base ≤ k → Blk w k 3 cs → ¬ S k) : ZAt w' base z := by
  refine ⟨h.e.fr hf fun g hg => ?_, h.l.fr hf fun g hg => ?_⟩
  · obtain ⟨hb, -, cs, hk⟩ := own_block h.e hg
    exact h1 g cs hb hk
  · obtain ⟨hb, -, cs, hk⟩ := own_block h.l hg
    exact h2 g cs hb hk
theorem ZsAt.fr {w w' : World} {S : Nat → Prop} {base : Nat} {v : Value} {zs : List ZoneL} (h : ZsAt w base v zs) (hf : Fr w w' S) (h0 : ∀ k cs, base ≤ k → Blk w k 71 cs → ¬ S k) (h1 : ∀ k cs, base ≤ k → Blk w k 55 cs → ¬ S k) (h2 : ∀ k cs, base ≤ k → Blk w k 3 cs → ¬ S k) : ZsAt w' base v zs := by
  obtain ⟨zv, M, e, ho, hz, hb, hM, hl⟩ := h
  refine ⟨zv, M, e, ho.fr hf fun g hg => ?_, fun x hx => (hz x hx).fr hf h1 h2, hb, Nat.le_trans hM hf.size, fun a x ex => ?_⟩
  · obtain ⟨hb, -, cs, hk⟩ := own_block ho hg
    exact h0 g cs hb hk
  · obtain ⟨k1, k2⟩ := hl a x ex
    exact ⟨k1.fr hf (fun k cs hk => h1 k cs (by omega)) (fun k cs hk => h2 k cs (by omega)), k2⟩
/-- a row stays where only blocks of another type, or blocks below, turn -/
theorem own_far {X : Type} {w w' : World} {S : Nat → Prop} {base : Nat} {e : TypeId} {k : Nat} {f : X → List Value} {v : Value} {l : List X} (h : Own w base e k f v l) (hf : Fr w w' S) (hs : ∀ i cs, base ≤ i → Blk w i e cs → ¬ S i) : Own w' base e k f v l :=
  h.fr hf fun g hg => by
    obtain ⟨hb, -, cs, hk⟩ := own_block h hg
    exact hs g cs hb hk
end Go.Proofs.YtlfjknndkjgciaaGreatDoor
namespace Go.Proofs.YtlfjknndkjgciaaGreatDoor
open Go.RowKit Go.Mem Go.Lin Go.Dcm

abbrev gP (g : Nat) : Value := .pointer (some ⟨g, 0, none⟩)
/-- what a method of the gatherer leaves -/
def GPost (w : World) (g B : Nat) (i : Int) (s : StL) (e : Ending) (w' : World) : Prop := e = .returned (.tuple #[]) ∧ GAt w' g B i s ∧ Fr w w' (Gx g B w)
/-- rows of the type e -/
def TB (B : Nat) (e : TypeId) (w : World) (i : Nat) : Prop := B ≤ i ∧ ∃ cs, Blk w i e cs
theorem tb_own {X : Type} {w w' : World} {B : Nat} {e : TypeId} {k : Nat} {f : X → List Value} {v : Value} {l : List X} (h : Own w B e k f v l) (hf : Fr w w' (fun i => some i = v.ownBlock)) : Fr w w' (TB B e w) :=
  hf.mono fun i _ hi => by
    obtain ⟨h1, -, h2⟩ := own_block h hi.symm
    exact ⟨h1, h2⟩
theorem tb_new {B : Nat} {e : TypeId} {w wa w' : World} (hn : Fr w wa (fun _ => False)) (hf : Fr wa w' (TB B e wa)) : Fr w w' (TB B e w) := by
  refine ⟨hf.os.trans hn.os, hf.tape.trans hn.tape, hf.output.trans hn.output, Nat.le_trans hn.size hf.size, fun i hi hx => ?_⟩
  have e1 := hn.block i hi (fun h => h)
  refine (hf.block i (Nat.lt_of_lt_of_le hi hn.size) (fun h => hx ⟨h.1, ?_⟩)).trans e1
  obtain ⟨cs, hb⟩ := h.2
  exact ⟨cs, by unfold Blk at hb ⊢; rw [← e1]; exact hb⟩
theorem tb_gx {g B : Nat} {e : TypeId} {w w' : World} (hf : Fr w w' (TB B e w)) (he : e ≠ 58) : Fr w w' (Gx g B w) :=
  hf.mono fun _ _ h => .inr ⟨h.1, e, h.2.choose, h.2.choose_spec, he⟩
theorem far_tb {X : Type} {w w' : World} {B B' : Nat} {e e' : TypeId} {k : Nat} {f : X → List Value} {v : Value} {l : List X} (h : Own w B' e k f v l) (hf : Fr w w' (TB B e' w)) (hne : e ≠ e') : Own w' B' e k f v l :=
  own_far h hf fun _ _ _ hb hx => hne (blk_same hb hx.2.choose_spec)
theorem zs_tb {w w' : World} {B : Nat} {e : TypeId} {v : Value} {zs : List ZoneL} (h : ZsAt w B v zs) (hf : Fr w w' (TB B e w)) (h0 : 71 ≠ e) (h1 : 55 ≠ e) (h2 : 3 ≠ e) : ZsAt w' B v zs :=
  h.fr hf (fun _ _ _ hb hx => h0 (blk_same hb hx.2.choose_spec)) (fun _ _ _ hb hx => h1 (blk_same hb hx.2.choose_spec)) (fun _ _ _ hb hx => h2 (blk_same hb hx.2.choose_spec))
theorem far_g {X : Type} {w w' : World} {g B : Nat} {e : TypeId} {k : Nat} {f : X → List Value} {v : Value} {l : List X} (h : Own w B e k f v l) (hf : Fr w w' (fun i => i = g)) (hg : g < B) : Own w' B e k f v l :=
  own_far h hf fun _ _ hi _ hx => by omega
theorem zs_g {w w' : World} {g B : Nat} {v : Value} {zs : List ZoneL} (h : ZsAt w B v zs) (hf : Fr w w' (fun i => i = g)) (hg : g < B) : ZsAt w' B v zs :=
  h.fr hf (fun _ _ hi _ hx => by omega) (fun _ _ hi _ hx => by omega) (fun _ _ hi _ hx => by omega)
/-- the rows of a state -/
structure GR (w : World) (B : Nat) (vr vz vl vd : Value) (s : StL) : Prop where
  r : Own w B 72 12 ruleL vr s.rules
  z : ZsAt w B vz s.zones
  l : Own w B 78 3 linkL vl s.links
  d : Own w B 65 4 diagL vd s.diags
theorem GR.kept {w w' : World} {B : Nat} {vr vz vl vd : Value} {s : StL} (h : GR w B vr vz vl vd s) (hf : Fr w w' (fun _ => False)) : GR w' B vr vz vl vd s :=
  ⟨h.r.kept hf, h.z.fr hf (fun _ _ _ _ h => h) (fun _ _ _ _ h => h) (fun _ _ _ _ h => h), h.l.kept hf, h.d.kept hf⟩
theorem GR.g {w w' : World} {g B : Nat} {vr vz vl vd : Value} {s : StL} (h : GR w B vr vz vl vd s) (hf : Fr w w' (fun i => i = g)) (hg : g < B) : GR w' B vr vz vl vd s :=
  ⟨far_g h.r hf hg, zs_g h.z hf hg, far_g h.l hf hg, far_g h.d hf hg⟩
theorem GR.base {w : World} {B : Nat} {vr vz vl vd : Value} {s : StL} (h : GR w B vr vz vl vd s) : B ≤ w.heap.size := by
  obtain ⟨zv, M, -, -, -, h1, h2, -⟩ := h.z
  omega
theorem GAt.open_ {w : World} {g B : Nat} {i : Int} {s : StL} (h : GAt w g B i s) : ∃ vr vz vl vd, Blk w g 81 #[vr, vz, vl, vd, intV i, .bool s.opn] ∧ GR w B vr vz vl vd s := by
  obtain ⟨-, vr, vz, vl, vd, hb, hr, hz, hl, hd⟩ := h
  exact ⟨vr, vz, vl, vd, hb, hr, hz, hl, hd⟩
theorem gat_mk {w : World} {g B : Nat} {i : Int} {s : StL} {vr vz vl vd : Value} (hg : g < B) (hb : Blk w g 81 #[vr, vz, vl, vd, intV i, .bool s.opn]) (h : GR w B vr vz vl vd s) : GAt w g B i s := ⟨hg, vr, vz, vl, vd, hb, h.r, h.z, h.l, h.d⟩
theorem gat_put {w : World} {g B : Nat} {i : Int} {s : StL} {vr vz vl vd v : Value} {j : Nat} {C : Array Value} (hg : g < B) (hb : Blk w g 81 C) (hc : C.setIfInBounds j v = #[vr, vz, vl, vd, intV i, .bool s.opn]) (h : GR w B vr vz vl vd s) : GAt (w.setCell ⟨g, j, none⟩ v) g B i s :=
  gat_mk hg (hb.put' j v hc) (h.g (Fr.set (S := fun i => i = g) rfl) hg)
theorem gx_put {w w' : World} {g B : Nat} {j : Nat} {v : Value} (h : Fr w w' (Gx g B w)) : Fr w (w'.setCell ⟨g, j, none⟩ v) (Gx g B w) :=
  h.trans (Fr.set (S := fun i => i = g) rfl) (fun _ _ h => h) (fun _ _ h => .inl h)
theorem GAt.kept {w w' : World} {g B : Nat} {i : Int} {s : StL} (h : GAt w g B i s) (hf : Fr w w' (fun _ => False)) : GAt w' g B i s := by
  obtain ⟨vr, vz, vl, vd, hb, hr⟩ := h.open_
  exact gat_mk h.lt (hf.blk hb (fun h => h)) (hr.kept hf)
theorem gx_new {w wa w' : World} {g B : Nat} (hn : Fr w wa (fun _ => False)) (h : Fr wa w' (Gx g B wa)) : Fr w w' (Gx g B w) := gx_trans (gx_none hn) h
theorem diag_one (a c k : Int) : ∀ u ∈ [strV [], intV a, intV c, intV k], u.oneCell' = true := one_made (cs := #[strV [], intV a, intV c, intV k]) (by simp [Value.oneCell'])
set_option maxRecDepth 100000 in
set_option maxHeartbeats 800000 in
theorem tell_any (w : World) (g B : Nat) (i : Int) (s : StL) (h : GAt w g B i s) (hs : s.diags.length ≤ 100000) (a c k : Int) : Calls Tryz.prog 39 #[gP g, intV a, intV c, intV k] w (GPost w g B i (tell s a c k)) := by
  obtain ⟨vr, vz, vl, vd, hb, hr⟩ := h.open_
  have hlt := h.lt
  obtain ⟨A, cap, rfl⟩ := hr.d.slice
  have c3 := blkc hb 3 _ rfl
  have hn := Fr.new w (.cells #[strV [], intV a, intV c, intV k] 65) (fun _ => False)
  have HR := Lib.hid (hr.kept hn)
  have HB2 := Lib.hid (hn.blk hb (fun h => h))
  have HX := Lib.hid (rd_made w 65 #[strV [], intV a, intV c, intV k])
  have H1 := Lib.hid (diag_one a c k)
  have HN := Lib.hid hn
  obtain ⟨i0, hi0, hz0, hz1, hz2⟩ := info_parts infoDiag
  have hBs : B ≤ w.heap.size + 1 := Nat.le_succ_of_le hr.base
  clear hn hb hr h
  go_enter Tryz.func39, Tryz.ntmps39
  go_wp2_with (at_builtin; refine wpList_append_rd _ rfl (.tmp 13) (.tmp 18) 29 rfl B 65 i0 _ 4 40 Tryz.underlying29 hi0 hz0 hz1 hz2 rfl (by decide) _ s.diags.length _ rfl HR.out.d _ 1 1 [strV [], intV a, intV c, intV k] rfl HX.out H1.out (by simp only [maxLen]; omega) (by omega) (by simpa using hBs) ?_; intro v7 w7 hown7 hg7 _; obtain ⟨A7, cap7, rfl⟩ := own_slice hown7; have hf7 := tb_own HR.out.d (Fr.ofGrown hg7); have hb7 := (tb_gx (g := g) hf7 (by decide)).block g HB2.out.lt; have hb7 := (Fr.ofGrown hg7).blk HB2.out (fun e => by have := (own_block HR.out.d e.symm).1; omega); have c7 := blkc hb7 3 _ rfl; have f7 := free_at hb7 3; have HB7 := Lib.hid hb7; have HF7 := Lib.hid hf7; have HO7 := Lib.hid (own_more (x := DiagL.mk a c k) hown7 rfl); clear hb7 hf7 hg7 hown7)
  go_end0
  exact ⟨rfl, gat_put hlt HB7.out rfl ⟨far_tb HR.out.r HF7.out (by decide), zs_tb HR.out.z HF7.out (by decide) (by decide) (by decide), far_tb HR.out.l HF7.out (by decide), HO7.out⟩, gx_put (tb_gx (tb_new HN.out HF7.out) (by decide))⟩
theorem break_any (w : World) (g B : Nat) (i : Int) (s : StL) (h : GAt w g B i s) (hs : s.diags.length ≤ 100000) : Calls Tryz.prog 51 #[gP g] w (GPost w g B i (brk s i)) := by
  obtain ⟨vr, vz, vl, vd, hb, hr⟩ := h.open_
  have hlt := h.lt
  have c5 := blkc hb 5 _ rfl
  have f5 := free_at hb 5
  cases ho : s.opn with
  | false =>
    rw [ho] at c5
    have HE : brk s i = s := by unfold brk; rw [ho]; rfl
    rw [HE]
    have HB := Lib.hid hb
    have HR := Lib.hid hr
    clear h hb hr HE
    go_enter Tryz.func51, Tryz.ntmps51
    go_wp2_with fail
    go_end0
    exact ⟨rfl, gat_put hlt HB.out (by rw [ho]; rfl) HR.out, gx_put (gx_none (Fr.refl _ _))⟩
  | true =>
    rw [ho] at c5
    have c4 := blkc hb 4 _ rfl
    have HE : brk s i = { tell s i 0 21 with opn := false } := by unfold brk; rw [ho]; rfl
    rw [HE]
    have HT := Lib.hid (tell_any w g B i s h hs i 0 21)
    clear h hb hr HE
    go_enter Tryz.func51, Tryz.ntmps51
    go_wp2_with fail
    refine HT.out.mono ?_
    rintro e w2 ⟨rfl, hg2, hf2⟩
    obtain ⟨vr2, vz2, vl2, vd2, hb2, hr2⟩ := hg2.open_
    have c52 := blkc hb2 5 _ rfl
    have f52 := free_at hb2 5
    have HB := Lib.hid hb2
    have HR := Lib.hid hr2
    have HF := Lib.hid hf2
    clear hb2 hr2 hg2 hf2
    go_wp2_with fail
    go_end0
    exact ⟨rfl, gat_put hlt HB.out rfl ⟨HR.out.r, HR.out.z, HR.out.l, HR.out.d⟩, gx_put HF.out⟩
theorem pass_any (w : World) (g B : Nat) (i : Int) (s : StL) (h : GAt w g B i s) (x : LineL) : Calls Tryz.prog 37 #[gP g, lineV x] w (GPost w g B i s) := by
  have hn := Fr.new w (.cells (lineC x) 58) (fun _ => False)
  have H := Lib.hid (h.kept hn)
  have HN := Lib.hid hn
  clear h hn
  go_enter Tryz.func37, Tryz.ntmps37
  go_wp2_with fail
  go_end0
  exact ⟨rfl, H.out, gx_none HN.out⟩
end Go.Proofs.YtlfjknndkjgciaaGreatDoor
