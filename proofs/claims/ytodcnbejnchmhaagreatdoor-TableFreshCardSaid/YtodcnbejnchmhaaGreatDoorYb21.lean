import Derived.Test.YtodcnbejnchmhaaGreatDoorYb20
import Derived.Great.BuildSlice
namespace Go.Proofs.YtodcnbejnchmhaaGreatDoor
open Go.RowKit Go.Mem Go.Lin Go.Dcm

abbrev gP (g : Nat) : Value := .pointer (some ⟨g, 0, none⟩)
/-- what a method of the gatherer leaves -/
def GPost (w : World) (g B : Nat) (i : Int) (s : StL) (e : Ending) (w' : World) : Prop := e = .returned (.tuple #[]) ∧ GAt w' g B i s ∧ Fr w w' (Gx g B w)
/-- rows of the type e -/
def TB (B : Nat) (e : TypeId) (w : World) (i : Nat) : Prop := B ≤ i ∧ ∃ cs, Blk w i e cs
theorem tb_own {X : Type} {w w' : World} {B : Nat} {e : TypeId} {k : Nat} {f : X → List Value} {v : Value} {l : List X} (h : Own w B e k f v l) (hf : Fr w w' (fun i => some i = v.ownBlock)) : Fr w w' (TB B e w) :=
  hf.mono fun i _ hi => by
    obtain ⟨h1, -, h2⟩ := own_block h hi.symm
    exact ⟨h1, h2⟩
theorem tb_new {B : Nat} {e : TypeId} {w wa w' : World} (hn : Fr w wa (fun _ => False)) (hf : Fr wa w' (TB B e wa)) : Fr w w' (TB B e w) := by
  refine ⟨hf.os.trans hn.os, hf.tape.trans hn.tape, hf.output.trans hn.output, Nat.le_trans hn.size hf.size, fun i hi hx => ?_⟩
  have e1 := hn.block i hi (fun h => h)
  refine (hf.block i (Nat.lt_of_lt_of_le hi hn.size) (fun h => hx ⟨h.1, ?_⟩)).trans e1
  obtain ⟨cs, hb⟩ := h.2
  exact ⟨cs, by unfold Blk at hb ⊢; rw [← e1]; exact hb⟩
theorem tb_gx {g B : Nat} {e : TypeId} {w w' : World} (hf : Fr w w' (TB B e w)) (he : e ≠ 71) : Fr w w' (Gx g B w) :=
  hf.mono fun _ _ h => .inr ⟨h.1, e, h.2.choose, h.2.choose_spec, he⟩
theorem far_tb {X : Type} {w w' : World} {B B' : Nat} {e e' : TypeId} {k : Nat} {f : X → List Value} {v : Value} {l : List X} (h : Own w B' e k f v l) (hf : Fr w w' (TB B e' w)) (hne : e ≠ e') : Own w' B' e k f v l :=
  own_far h hf fun _ _ _ hb hx => hne (blk_same hb hx.2.choose_spec)
theorem zs_tb {w w' : World} {B : Nat} {e : TypeId} {v : Value} {zs : List ZoneL} (h : ZsAt w B v zs) (hf : Fr w w' (TB B e w)) (h0 : 101 ≠ e) (h1 : 69 ≠ e) (h2 : 3 ≠ e) : ZsAt w' B v zs :=
  h.fr hf (fun _ _ _ hb hx => h0 (blk_same hb hx.2.choose_spec)) (fun _ _ _ hb hx => h1 (blk_same hb hx.2.choose_spec)) (fun _ _ _ hb hx => h2 (blk_same hb hx.2.choose_spec))
theorem far_g {X : Type} {w w' : World} {g B : Nat} {e : TypeId} {k : Nat} {f : X → List Value} {v : Value} {l : List X} (h : Own w B e k f v l) (hf : Fr w w' (fun i => i = g)) (hg : g < B) : Own w' B e k f v l :=
  own_far h hf fun _ _ hi _ hx => by omega
theorem zs_g {w w' : World} {g B : Nat} {v : Value} {zs : List ZoneL} (h : ZsAt w B v zs) (hf : Fr w w' (fun i => i = g)) (hg : g < B) : ZsAt w' B v zs :=
  h.fr hf (fun _ _ hi _ hx => by omega) (fun _ _ hi _ hx => by omega) (fun _ _ hi _ hx => by omega)
/-- the rows of a state -/
structure GR (w : World) (B : Nat) (vr vz vl vd : Value) (s : StL) : Prop where
  r : Own w B 100 12 ruleL vr s.rules
  z : ZsAt w B vz s.zones
  l : Own w B 102 3 linkL vl s.links
  d : Own w B 125 4 diagL vd s.diags
theorem GR.kept {w w' : World} {B : Nat} {vr vz vl vd : Value} {s : StL} (h : GR w B vr vz vl vd s) (hf : Fr w w' (fun _ => False)) : GR w' B vr vz vl vd s :=
  ⟨h.r.kept hf, h.z.fr hf (fun _ _ _ _ h => h) (fun _ _ _ _ h => h) (fun _ _ _ _ h => h), h.l.kept hf, h.d.kept hf⟩
theorem GR.g {w w' : World} {g B : Nat} {vr vz vl vd : Value} {s : StL} (h : GR w B vr vz vl vd s) (hf : Fr w w' (fun i => i = g)) (hg : g < B) : GR w' B vr vz vl vd s :=
  ⟨far_g h.r hf hg, zs_g h.z hf hg, far_g h.l hf hg, far_g h.d hf hg⟩
theorem GR.base {w : World} {B : Nat} {vr vz vl vd : Value} {s : StL} (h : GR w B vr vz vl vd s) : B ≤ w.heap.size := by
  obtain ⟨zv, M, -, -, -, h1, h2, -⟩ := h.z
  omega
theorem GAt.open_ {w : World} {g B : Nat} {i : Int} {s : StL} (h : GAt w g B i s) : ∃ vr vz vl vd, Blk w g 128 #[vr, vz, vl, vd, intV i, .bool s.opn] ∧ GR w B vr vz vl vd s := by
  obtain ⟨-, vr, vz, vl, vd, hb, hr, hz, hl, hd⟩ := h
  exact ⟨vr, vz, vl, vd, hb, hr, hz, hl, hd⟩
theorem gat_mk {w : World} {g B : Nat} {i : Int} {s : StL} {vr vz vl vd : Value} (hg : g < B) (hb : Blk w g 128 #[vr, vz, vl, vd, intV i, .bool s.opn]) (h : GR w B vr vz vl vd s) : GAt w g B i s := ⟨hg, vr, vz, vl, vd, hb, h.r, h.z, h.l, h.d⟩
theorem gat_put {w : World} {g B : Nat} {i : Int} {s : StL} {vr vz vl vd v : Value} {j : Nat} {C : Array Value} (hg : g < B) (hb : Blk w g 128 C) (hc : C.setIfInBounds j v = #[vr, vz, vl, vd, intV i, .bool s.opn]) (h : GR w B vr vz vl vd s) : GAt (w.setCell ⟨g, j, none⟩ v) g B i s :=
  gat_mk hg (hb.put' j v hc) (h.g (Fr.set (S := fun i => i = g) rfl) hg)
theorem gx_put {w w' : World} {g B : Nat} {j : Nat} {v : Value} (h : Fr w w' (Gx g B w)) : Fr w (w'.setCell ⟨g, j, none⟩ v) (Gx g B w) :=
  h.trans (Fr.set (S := fun i => i = g) rfl) (fun _ _ h => h) (fun _ _ h => .inl h)
theorem GAt.kept {w w' : World} {g B : Nat} {i : Int} {s : StL} (h : GAt w g B i s) (hf : Fr w w' (fun _ => False)) : GAt w' g B i s := by
  obtain ⟨vr, vz, vl, vd, hb, hr⟩ := h.open_
  exact gat_mk h.lt (hf.blk hb (fun h => h)) (hr.kept hf)
theorem gx_new {w wa w' : World} {g B : Nat} (hn : Fr w wa (fun _ => False)) (h : Fr wa w' (Gx g B wa)) : Fr w w' (Gx g B w) := gx_trans (gx_none hn) h
theorem diag_one (a c k : Int) : ∀ u ∈ [strV [], intV a, intV c, intV k], u.oneCell' = true := one_made (cs := #[strV [], intV a, intV c, intV k]) (by simp [Value.oneCell'])
set_option maxRecDepth 100000 in
set_option maxHeartbeats 800000 in
theorem tell_any (w : World) (g B : Nat) (i : Int) (s : StL) (h : GAt w g B i s) (hs : s.diags.length ≤ 100000) (a c k : Int) : Calls Tryz.prog 102 #[gP g, intV a, intV c, intV k] w (GPost w g B i (tell s a c k)) := by
  obtain ⟨vr, vz, vl, vd, hb, hr⟩ := h.open_
  have hlt := h.lt
  obtain ⟨A, cap, rfl⟩ := hr.d.slice
  have c3 := blkc hb 3 _ rfl
  have hn := Fr.new w (.cells #[strV [], intV a, intV c, intV k] 125) (fun _ => False)
  have HR := Lib.hid (hr.kept hn)
  have HB2 := Lib.hid (hn.blk hb (fun h => h))
  have HX := Lib.hid (rd_made w 125 #[strV [], intV a, intV c, intV k])
  have H1 := Lib.hid (diag_one a c k)
  have HN := Lib.hid hn
  obtain ⟨i0, hi0, hz0, hz1, hz2⟩ := info_parts infoDiag
  have hBs : B ≤ w.heap.size + 1 := Nat.le_succ_of_le hr.base
  clear hn hb hr h
  go_enter Tryz.func102, Tryz.ntmps102
  go_wp2_with (at_builtin; refine wpList_append_rd _ rfl (.tmp 13) (.tmp 18) 49 rfl B 125 i0 _ 4 40 Tryz.underlying49 hi0 hz0 hz1 hz2 rfl (by decide) _ s.diags.length _ rfl HR.out.d _ 1 1 [strV [], intV a, intV c, intV k] rfl HX.out H1.out (by simp only [maxLen]; omega) (by omega) (by simpa using hBs) ?_; intro v7 w7 hown7 hg7 _; obtain ⟨A7, cap7, rfl⟩ := own_slice hown7; have hf7 := tb_own HR.out.d (Fr.ofGrown hg7); have hb7 := (tb_gx (g := g) hf7 (by decide)).block g HB2.out.lt; have hb7 := (Fr.ofGrown hg7).blk HB2.out (fun e => by have := (own_block HR.out.d e.symm).1; omega); have c7 := blkc hb7 3 _ rfl; have f7 := free_at hb7 3; have HB7 := Lib.hid hb7; have HF7 := Lib.hid hf7; have HO7 := Lib.hid (own_more (x := DiagL.mk a c k) hown7 rfl); clear hb7 hf7 hg7 hown7)
  go_end0
  exact ⟨rfl, gat_put hlt HB7.out rfl ⟨far_tb HR.out.r HF7.out (by decide), zs_tb HR.out.z HF7.out (by decide) (by decide) (by decide), far_tb HR.out.l HF7.out (by decide), HO7.out⟩, gx_put (tb_gx (tb_new HN.out HF7.out) (by decide))⟩
theorem break_any (w : World) (g B : Nat) (i : Int) (s : StL) (h : GAt w g B i s) (hs : s.diags.length ≤ 100000) : Calls Tryz.prog 132 #[gP g] w (GPost w g B i (brk s i)) := by
  obtain ⟨vr, vz, vl, vd, hb, hr⟩ := h.open_
  have hlt := h.lt
  have c5 := blkc hb 5 _ rfl
  have f5 := free_at hb 5
  cases ho : s.opn with
  | false =>
    rw [ho] at c5
    have HE : brk s i = s := by unfold brk; rw [ho]; rfl
    rw [HE]
    have HB := Lib.hid hb
    have HR := Lib.hid hr
    clear h hb hr HE
    go_enter Tryz.func132, Tryz.ntmps132
    go_wp2_with fail
    go_end0
    exact ⟨rfl, gat_put hlt HB.out (by rw [ho]; rfl) HR.out, gx_put (gx_none (Fr.refl _ _))⟩
  | true =>
    rw [ho] at c5
    have c4 := blkc hb 4 _ rfl
    have HE : brk s i = { tell s i 0 21 with opn := false } := by unfold brk; rw [ho]; rfl
    rw [HE]
    have HT := Lib.hid (tell_any w g B i s h hs i 0 21)
    clear h hb hr HE
    go_enter Tryz.func132, Tryz.ntmps132
    go_wp2_with fail
    refine HT.out.mono ?_
    rintro e w2 ⟨rfl, hg2, hf2⟩
    obtain ⟨vr2, vz2, vl2, vd2, hb2, hr2⟩ := hg2.open_
    have c52 := blkc hb2 5 _ rfl
    have f52 := free_at hb2 5
    have HB := Lib.hid hb2
    have HR := Lib.hid hr2
    have HF := Lib.hid hf2
    clear hb2 hr2 hg2 hf2
    go_wp2_with fail
    go_end0
    exact ⟨rfl, gat_put hlt HB.out rfl ⟨HR.out.r, HR.out.z, HR.out.l, HR.out.d⟩, gx_put HF.out⟩
theorem pass_any (w : World) (g B : Nat) (i : Int) (s : StL) (h : GAt w g B i s) (x : LineL) : Calls Tryz.prog 100 #[gP g, lineV x] w (GPost w g B i s) := by
  have hn := Fr.new w (.cells (lineC x) 71) (fun _ => False)
  have H := Lib.hid (h.kept hn)
  have HN := Lib.hid hn
  clear h hn
  go_enter Tryz.func100, Tryz.ntmps100
  go_wp2_with fail
  go_end0
  exact ⟨rfl, H.out, gx_none HN.out⟩
end Go.Proofs.YtodcnbejnchmhaaGreatDoor
namespace Go.Proofs.YtodcnbejnchmhaaGreatDoor
open Go.RowKit Go.Mem Go.Lin Go.Dcm

theorem info_r : (Tryz.prog.info? 53).map (·.size) = some 1 := by kernel_rfl
theorem info_z : (Tryz.prog.info? 54).map (·.size) = some 1 := by kernel_rfl
theorem info_l : (Tryz.prog.info? 55).map (·.size) = some 1 := by kernel_rfl
theorem size_parts {s : StL} (h : size s ≤ 100000) : s.rules.length ≤ 100000 ∧ s.zones.length ≤ 100000 ∧ s.links.length ≤ 100000 ∧ s.diags.length ≤ 100000 := by
  unfold size at h
  omega
theorem brk_parts (s : StL) (i : Int) : (brk s i).rules = s.rules ∧ (brk s i).links = s.links := by
  unfold brk
  split <;> exact ⟨rfl, rfl⟩
/-- a row of one element is made -/
theorem wp_built {P : Program} {o : Oper} {a : Act} {w : World} {K : Act → World → Prop} {Q : Exit → Act → World → Prop} {t e : TypeId} {y : Operand} {v : Value} {cs : Array Value} (ho : o.op = .buildSlice t 1 #[(0, y)]) (hy : a.eval y = v)
    (h : ∀ w, (Instr.buildSlice t 1 #[(0, v)]).run P w = .ok (.slice (some ⟨w.heap.size, 0, none⟩) 1 1) (w.alloc (.cells cs e))) (hK : K (a.put o.dst (.slice (some ⟨w.heap.size, 0, none⟩) 1 1)) (w.alloc (.cells cs e))) : o.wp P a w K Q := by
  unfold Oper.wp execOp
  simp only [ho, Sem.run_bind, List.map_toArray, List.map_cons, List.map_nil, hy, h, Result.andThen_ok]
  exact hK
/-- a cell is read, or written -/
theorem wp_load1 {P : Program} {o : Oper} {a : Act} {w : World} {K : Act → World → Prop} {Q : Exit → Act → World → Prop} {ty : TypeId} {x : Operand} {A : Addr} {v : Value} {d : TypeDesc} (ho : o.op = .load ty x) (hx : a.eval x = .pointer (some A)) (hc : w.cell? A = some v)
    (hu : P.underlying ty = some d) (hd : d.isRow = false) (hK : K (a.put o.dst v) w) : o.wp P a w K Q := by
  have hl : (loadVar ty A).run P w = .ok v w := by
    unfold loadVar isAgg
    cases d <;> first | (simp [TypeDesc.isRow] at hd; done) | simp [run_underlying hu, hc]
  unfold Oper.wp execOp
  simp only [ho, hx, Instr.loadAt, Instr.sureAddr, Sem.run_bind, Sem.run_pure, Result.andThen_ok, hl]
  exact hK
theorem wp_store1 {P : Program} {o : Oper} {a : Act} {w : World} {K : Act → World → Prop} {Q : Exit → Act → World → Prop} {ty t : TypeId} {x y : Operand} {g off : Nat} {old : Array Value} {v : Value} (ho : o.op = .store ty x y) (hd : o.dst = none) (hx : a.eval x = .pointer (some ⟨g, off, none⟩)) (hy : a.eval y = v) (hg : Blk w g t old)
    (hi : (P.info? ty).map (·.size) = some 1) (h1 : v.oneCell' = true) (hfit : off < old.size) (hK : K a (w.setCell ⟨g, off, none⟩ v)) : o.wp P a w K Q := by
  unfold Oper.wp execOp
  simp only [ho, hx, hy, Instr.storeAt, Instr.sureAddr, Sem.run_bind, Sem.run_pure, Result.andThen_ok, run_storeVar_cell w g off t ty old v hg hi h1 hfit]
  simpa only [Oper.upon, hd, Act.put] using hK
/-- what a region's loads want of the world -/
def HS (g q : Nat) (i : Int) (x : LineL) (w : World) : Prop := w.cell? ⟨g, 4, none⟩ = some (intV i) ∧ Blk w q 71 (lineC x)
theorem keep {g q : Nat} {i : Int} {x : LineL} {w w' : World} (hf : Fr w w' (fun _ => False)) (h : HS g q i x w) : HS g q i x w' := ⟨cell_far hf h.1 (fun h => h), hf.blk h.2 (fun h => h)⟩
theorem ff0 {a c d : World} (h : Fr a c (fun _ => False)) (h2 : Fr c d (fun _ => False)) : Fr a d (fun _ => False) := h.trans h2 (fun _ _ h => h) (fun _ _ h => h)
theorem gx_at {w : World} {g B : Nat} {i : Int} {s : StL} (h : GAt w g B i s) {q : Nat} {cs : Array Value} (hq : Blk w q 71 cs) : ¬ Gx g B w q := by
  obtain ⟨vr, vz, vl, vd, hb, -⟩ := h.open_
  exact gx_line hb hq
set_option maxRecDepth 100000 in
set_option maxHeartbeats 3200000 in
theorem grule_any (w : World) (g B : Nat) (i : Int) (s : StL) (h : GAt w g B i s) (hs : size s ≤ 100000) (x : LineL) : Calls Tryz.prog 95 #[gP g, lineV x] w (GPost w g B i (ruleD s i x)) := by
  have hlt := h.lt
  have hn := Fr.new w (.cells (lineC x) 71) (fun _ => False)
  have hd := size_parts hs
  have HT := Lib.hid (break_any _ g B i s (h.kept hn) (by omega))
  have HN := Lib.hid hn
  have HG := Lib.hid (h.kept hn)
  have HQ := Lib.hid (Blk.made w 71 (lineC x))
  obtain ⟨i0, hi0, hz0, hz1, hz2⟩ := info_parts infoDrule
  clear h hn hd
  go_enter Tryz.func95, Tryz.ntmps95
  go_wp2_with fail
  refine HT.out.mono ?_
  rintro e w2 ⟨rfl, hg2, hf2⟩
  obtain ⟨vr, vz, vl, vd, hb, hr⟩ := hg2.open_
  have HQ2 := Lib.hid (hf2.blk HQ.out (gx_at HG.out HQ.out))
  have HB := Lib.hid hb
  have HR := Lib.hid hr
  have HF2 := Lib.hid (gx_new HN.out hf2)
  clear hb hr hg2 hf2
  obtain ⟨A, cap, rfl⟩ := HR.out.r.slice
  have HO := Lib.hid (show (brk s i).rules = s.rules from (brk_parts s i).1)
  have hsz : s.rules.length ≤ 100000 := (size_parts hs).1
  have H1 := Lib.hid (one_made (cs := (ruleL (x.rule, i)).toArray) (by simp [ruleL, ruleC, Value.oneCell']))
  have HBW := Lib.hid ((Fr.drew w2 (fun _ => False)).blk HB.out (fun h => h))
  go_wp2_with fail
  refine wp_region_held_drew (S := HS g w.heap.size i x) (by kernel_rfl) (⟨blkc ((Fr.drew w2 (fun _ => False)).blk HB.out (fun h => h)) 4 _ rfl, (Fr.drew w2 (fun _ => False)).blk HQ2.out (fun h => h)⟩) (fun hHeld => ?_)
  refine wpAnyH_take (i := 0) (v := ?_) rfl (by kernel_rfl) (by kernel_rfl) (by kernel_rfl) (fun _ _ _ h => h) (Or.inl ⟨by rfl, ?_⟩) (by assumption) ?_
  rotate_left
  · intro w' hSw
    have k4 := hSw.1
    go_simp
    try with_reducible rfl
  try simp only [Act.put, List.setIfInBounds_toArray, List.set_cons_zero, List.set_cons_succ, List.getElem_toArray, List.getElem_cons_zero]
  refine wpAnyH_take (i := 1) (v := ?_) rfl (by kernel_rfl) (by kernel_rfl) (by kernel_rfl) (fun _ _ _ h => h) (Or.inl ⟨by rfl, ?_⟩) (by assumption) ?_
  rotate_left
  · intro w' hSw
    have k4 := hSw.1
    go_simp
    try with_reducible rfl
  try simp only [Act.put, List.setIfInBounds_toArray, List.set_cons_zero, List.set_cons_succ, List.getElem_toArray, List.getElem_cons_succ, List.getElem_cons_zero]
  refine wpAnyH_take (i := 2) (v := ?_) rfl (by kernel_rfl) (by kernel_rfl) (by kernel_rfl) (fun _ _ _ h => h) (Or.inl ⟨by rfl, ?_⟩) (by assumption) ?_
  rotate_left
  · intro w' hSw
    have k4 := hSw.1
    go_simp
    try with_reducible rfl
  try simp only [Act.put, List.setIfInBounds_toArray, List.set_cons_zero, List.set_cons_succ, List.getElem_toArray, List.getElem_cons_succ, List.getElem_cons_zero]
  refine wpAnyH_take (i := 3) (v := ?_) rfl (by kernel_rfl) (by kernel_rfl) (by kernel_rfl) (fun _ _ _ h => h) (Or.inl ⟨by rfl, ?_⟩) (by assumption) ?_
  rotate_left
  · intro w' hSw
    have k4 := hSw.1
    go_simp
    try with_reducible rfl
  try simp only [Act.put, List.setIfInBounds_toArray, List.set_cons_zero, List.set_cons_succ, List.getElem_toArray, List.getElem_cons_succ, List.getElem_cons_zero]
  refine wpAnyH_take (i := 4) (v := ?_) rfl (by kernel_rfl) (by kernel_rfl) (by kernel_rfl) (fun _ _ _ h => h) (Or.inl ⟨by rfl, ?_⟩) (by assumption) ?_
  rotate_left
  · intro w' hSw
    have k4 := hSw.1
    go_simp
    try with_reducible rfl
  try simp only [Act.put, List.setIfInBounds_toArray, List.set_cons_zero, List.set_cons_succ, List.getElem_toArray, List.getElem_cons_succ, List.getElem_cons_zero]
  refine wpAnyH_take (i := 6) (v := ?_) rfl (by kernel_rfl) (by kernel_rfl) (by kernel_rfl) (fun _ _ _ h => h) (Or.inl ⟨by rfl, ?_⟩) (by assumption) ?_
  rotate_left
  · intro w' hSw
    have k4 := hSw.1
    go_simp
    try with_reducible rfl
  try simp only [Act.put, List.setIfInBounds_toArray, List.set_cons_zero, List.set_cons_succ, List.getElem_toArray, List.getElem_cons_succ, List.getElem_cons_zero]
  refine wpAnyH_take (i := 7) (v := _) rfl (by kernel_rfl) (by kernel_rfl) (by kernel_rfl) (fun _ _ _ h => h) (yields_blk 65 _ w.heap.size 1 71 (lineC x) (ruleC x.rule) _ (by rfl) rfl rfl (fun _ h => h.2) Tryz.underlying65 rfl (infoR _) (part_rule _)) (by assumption) ?_
  try simp only [Act.put, List.setIfInBounds_toArray, List.set_cons_zero, List.set_cons_succ, List.getElem_toArray, List.getElem_cons_succ, List.getElem_cons_zero]
  refine wpAnyH_take (i := 8) (v := ?_) rfl (by kernel_rfl) (by kernel_rfl) (by kernel_rfl) (fun _ _ _ h => h) (Or.inl ⟨by rfl, ?_⟩) (by assumption) ?_
  rotate_left
  · intro w' hSw
    have k4 := hSw.1
    go_simp
    try with_reducible rfl
  try simp only [Act.put, List.setIfInBounds_toArray, List.set_cons_zero, List.set_cons_succ, List.getElem_toArray, List.getElem_cons_succ, List.getElem_cons_zero]
  refine wpAnyH_take (i := 9) (v := ?_) rfl (by kernel_rfl) (by kernel_rfl) (by kernel_rfl) (fun _ _ _ h => h) (Or.inl ⟨by rfl, ?_⟩) (by assumption) ?_
  rotate_left
  · intro w' hSw
    have k4 := hSw.1
    go_simp
    try with_reducible rfl
  try simp only [Act.put, List.setIfInBounds_toArray, List.set_cons_zero, List.set_cons_succ, List.getElem_toArray, List.getElem_cons_succ, List.getElem_cons_zero]
  refine wpAnyH_take (i := 10) (v := ?_) rfl (by kernel_rfl) (by kernel_rfl) (by kernel_rfl) (fun _ _ _ h => h) (Or.inl ⟨by rfl, ?_⟩) (by assumption) ?_
  rotate_left
  · intro w' hSw
    have k4 := hSw.1
    go_simp
    try with_reducible rfl
  try simp only [Act.put, List.setIfInBounds_toArray, List.set_cons_zero, List.set_cons_succ, List.getElem_toArray, List.getElem_cons_succ, List.getElem_cons_zero]
  refine wpAnyH_take (i := 11) (v := ?_) rfl (by kernel_rfl) (by kernel_rfl) (by kernel_rfl) (fun _ _ _ h => h) (Or.inl ⟨by rfl, ?_⟩) (by assumption) ?_
  rotate_left
  · intro w' hSw
    have k4 := hSw.1
    go_simp
    try with_reducible rfl
  try simp only [Act.put, List.setIfInBounds_toArray, List.set_cons_zero, List.set_cons_succ, List.getElem_toArray, List.getElem_cons_succ, List.getElem_cons_zero]
  refine wpAnyH_take (i := 12) (v := _) rfl (by kernel_rfl) (by kernel_rfl) (by kernel_rfl) (fun _ _ _ h => h) ((Or.inl ⟨by rfl, fun w' _ => by kernel_rfl⟩ : YieldsIf _ _ _ _ (.agg (ruleL (x.rule, i)).toArray) _)) (by assumption) ?_
  try simp only [Act.put, List.setIfInBounds_toArray, List.set_cons_zero, List.set_cons_succ, List.getElem_toArray, List.getElem_cons_succ, List.getElem_cons_zero]
  refine wpAnyH_ready (rs := [5, 13]) (by kernel_rfl) (by simp) ?_
  refine AllReadyH.cons rfl (fun K hK => ?_) (AllReadyH.cons rfl (fun K hK => ?_) AllReadyH.nil)
  ·
    rw [if_pos (by rfl)]
    refine wp_load1 rfl (by rfl) (blkc HBW.out 0 _ rfl) Tryz.underlying53 rfl ?_
    refine hK.out _ _ hHeld (fun hH2 => ?_)
    clear hK K
    try simp only [Act.put, List.setIfInBounds_toArray, List.set_cons_zero, List.set_cons_succ, List.getElem_toArray, List.getElem_cons_succ, List.getElem_cons_zero]
    refine wpAnyH_ready (rs := [13]) (by kernel_rfl) (by simp) ?_
    refine AllReadyH.cons rfl (fun K hK => ?_) AllReadyH.nil
    rw [if_pos (by rfl)]
    refine wp_built (e := 100) (cs := (ruleL (x.rule, i)).toArray) rfl (by rfl) (fun _ => by kernel_rfl) ?_
    have hfn := Fr.new w2.drew (.cells (ruleL (x.rule, i)).toArray 100) (fun _ => False)
    refine hK.out _ _ (keep hfn hH2) (fun hH3 => ?_)
    clear hK K
    try simp only [Act.put, List.setIfInBounds_toArray, List.set_cons_zero, List.set_cons_succ, List.getElem_toArray, List.getElem_cons_succ, List.getElem_cons_zero]
    have hr2 := (HR.out.kept (Fr.drew w2 (fun _ => False))).kept hfn
    have hbA := hfn.blk HBW.out (fun h => h)
    have hx := rd_made w2.drew 100 (ruleL (x.rule, i)).toArray
    refine wpAnyH_ready (rs := [14]) (by kernel_rfl) (by simp) ?_
    refine AllReadyH.cons rfl (fun K hK => ?_) AllReadyH.nil
    rw [if_pos (by rfl)]
    refine wp_append_rd _ (.tmp 11) (.tmp 19) 53 rfl B 100 i0 _ 12 112 Tryz.underlying53 hi0 hz0 hz1 hz2 rfl (by decide) _ _ _ rfl hr2.r _ 1 1 (ruleL (x.rule, i)).toArray.toList rfl hx H1.out (by have h : (brk s i).rules.length = s.rules.length := congrArg List.length HO.out; simp only [maxLen]; omega) (by have h : (brk s i).rules.length = s.rules.length := congrArg List.length HO.out; omega) hr2.base ?_
    intro v9 w9 hown9 hg9 _
    obtain ⟨A9, cap9, rfl⟩ := Go.Mem.own_slice hown9
    have hf9 := tb_own hr2.r (Fr.ofGrown hg9)
    have hb9 := (Fr.ofGrown hg9).blk hbA (fun e => by have := (own_block hr2.r e.symm).1; omega)
    have hq9 := (tb_gx (g := g) hf9 (by decide)).blk hH3.2 (gx_line hbA hH3.2)
    have c9 := blkc hb9 0 _ rfl
    have f9 := free_at hb9 0
    have HO9 := Lib.hid (own_more (x := (x.rule, i)) hown9 rfl)
    refine hK.out _ _ ⟨blkc hb9 4 _ rfl, hq9⟩ (fun hH9 => ?_)
    clear hK K hx hown9
    try simp only [Act.put, List.setIfInBounds_toArray, List.set_cons_zero, List.set_cons_succ, List.getElem_toArray, List.getElem_cons_succ, List.getElem_cons_zero]
    refine wpAnyH_take (i := 15) (v := ?_) rfl (by kernel_rfl) (by kernel_rfl) (by kernel_rfl) (fun _ _ _ h => h) (Or.inl ⟨by rfl, ?_⟩) (by assumption) ?_
    rotate_left
    · intro w' hSw
      skip
      go_simp
      try with_reducible rfl
    try simp only [Act.put, List.setIfInBounds_toArray, List.set_cons_zero, List.set_cons_succ, List.getElem_toArray, List.getElem_cons_succ, List.getElem_cons_zero]
    refine wpAnyH_take (i := 16) (v := ?_) rfl (by kernel_rfl) (by kernel_rfl) (by kernel_rfl) (fun _ _ _ h => h) (Or.inl ⟨by rfl, ?_⟩) (by assumption) ?_
    rotate_left
    · intro w' hSw
      skip
      go_simp
      try with_reducible rfl
    try simp only [Act.put, List.setIfInBounds_toArray, List.set_cons_zero, List.set_cons_succ, List.getElem_toArray, List.getElem_cons_succ, List.getElem_cons_zero]
    refine wpAnyH_take (i := 17) (v := ?_) rfl (by kernel_rfl) (by kernel_rfl) (by kernel_rfl) (fun _ _ _ h => h) (Or.inl ⟨by rfl, ?_⟩) (by assumption) ?_
    rotate_left
    · intro w' hSw
      skip
      go_simp
      try with_reducible rfl
    try simp only [Act.put, List.setIfInBounds_toArray, List.set_cons_zero, List.set_cons_succ, List.getElem_toArray, List.getElem_cons_succ, List.getElem_cons_zero]
    refine wpAnyH_ready (rs := [18]) (by kernel_rfl) (by simp) ?_
    refine AllReadyH.cons rfl (fun K hK => ?_) AllReadyH.nil
    rw [if_pos (by rfl)]
    refine wp_store1 (v := .slice A9 ((brk s i).rules.length + 1) cap9) rfl rfl (by rfl) (by rfl) hb9 info_r rfl (show 0 < 6 by decide) ?_
    have hS := Fr.set (w := w9) (a := ⟨g, 0, none⟩) (v := .slice A9 ((brk s i).rules.length + 1) cap9) (S := fun i => i = g) rfl
    refine hK.out _ _ ⟨(World.cell?_setCell_other _ _ _ _ (by simp)).trans (blkc hb9 4 _ rfl), hS.blk hq9 (fun e => absurd (blk_same hq9 (e ▸ hb9)) (by decide))⟩ (fun _ => ?_)
    clear hK K
    refine wpAnyH_done (by kernel_rfl) ?_ _
    go_wp2_with fail
    go_end0
    exact ⟨rfl, gat_put hlt hb9 rfl ⟨(by show Own w9 B _ _ _ _ (s.rules ++ [(x.rule, i)]); rw [← HO.out]; exact HO9.out), Go.Proofs.YtodcnbejnchmhaaGreatDoor.zs_tb hr2.z hf9 (by decide) (by decide) (by decide), far_tb hr2.l hf9 (by decide), far_tb hr2.d hf9 (by decide)⟩, gx_put (gx_trans HF2.out (gx_none (Fr.drew w2 _) |> fun h => gx_trans h (gx_new hfn (tb_gx hf9 (by decide)))))⟩
  ·
    rw [if_pos (by rfl)]
    refine wp_built (e := 100) (cs := (ruleL (x.rule, i)).toArray) rfl (by rfl) (fun _ => by kernel_rfl) ?_
    have hfn := Fr.new w2.drew (.cells (ruleL (x.rule, i)).toArray 100) (fun _ => False)
    refine hK.out _ _ (keep hfn hHeld) (fun hH2 => ?_)
    clear hK K
    try simp only [Act.put, List.setIfInBounds_toArray, List.set_cons_zero, List.set_cons_succ, List.getElem_toArray, List.getElem_cons_succ, List.getElem_cons_zero]
    have HBW2 := Lib.hid (hfn.blk HBW.out (fun h => h))
    refine wpAnyH_ready (rs := [5]) (by kernel_rfl) (by simp) ?_
    refine AllReadyH.cons rfl (fun K hK => ?_) AllReadyH.nil
    rw [if_pos (by rfl)]
    refine wp_load1 rfl (by rfl) (blkc HBW2.out 0 _ rfl) Tryz.underlying53 rfl ?_
    refine hK.out _ _ hH2 (fun hH3 => ?_)
    clear hK K
    try simp only [Act.put, List.setIfInBounds_toArray, List.set_cons_zero, List.set_cons_succ, List.getElem_toArray, List.getElem_cons_succ, List.getElem_cons_zero]
    have hr2 := (HR.out.kept (Fr.drew w2 (fun _ => False))).kept hfn
    have hbA := hfn.blk HBW.out (fun h => h)
    have hx := rd_made w2.drew 100 (ruleL (x.rule, i)).toArray
    refine wpAnyH_ready (rs := [14]) (by kernel_rfl) (by simp) ?_
    refine AllReadyH.cons rfl (fun K hK => ?_) AllReadyH.nil
    rw [if_pos (by rfl)]
    refine wp_append_rd _ (.tmp 11) (.tmp 19) 53 rfl B 100 i0 _ 12 112 Tryz.underlying53 hi0 hz0 hz1 hz2 rfl (by decide) _ _ _ rfl hr2.r _ 1 1 (ruleL (x.rule, i)).toArray.toList rfl hx H1.out (by have h : (brk s i).rules.length = s.rules.length := congrArg List.length HO.out; simp only [maxLen]; omega) (by have h : (brk s i).rules.length = s.rules.length := congrArg List.length HO.out; omega) hr2.base ?_
    intro v9 w9 hown9 hg9 _
    obtain ⟨A9, cap9, rfl⟩ := Go.Mem.own_slice hown9
    have hf9 := tb_own hr2.r (Fr.ofGrown hg9)
    have hb9 := (Fr.ofGrown hg9).blk hbA (fun e => by have := (own_block hr2.r e.symm).1; omega)
    have hq9 := (tb_gx (g := g) hf9 (by decide)).blk hH3.2 (gx_line hbA hH3.2)
    have c9 := blkc hb9 0 _ rfl
    have f9 := free_at hb9 0
    have HO9 := Lib.hid (own_more (x := (x.rule, i)) hown9 rfl)
    refine hK.out _ _ ⟨blkc hb9 4 _ rfl, hq9⟩ (fun hH9 => ?_)
    clear hK K hx hown9
    try simp only [Act.put, List.setIfInBounds_toArray, List.set_cons_zero, List.set_cons_succ, List.getElem_toArray, List.getElem_cons_succ, List.getElem_cons_zero]
    refine wpAnyH_take (i := 15) (v := ?_) rfl (by kernel_rfl) (by kernel_rfl) (by kernel_rfl) (fun _ _ _ h => h) (Or.inl ⟨by rfl, ?_⟩) (by assumption) ?_
    rotate_left
    · intro w' hSw
      skip
      go_simp
      try with_reducible rfl
    try simp only [Act.put, List.setIfInBounds_toArray, List.set_cons_zero, List.set_cons_succ, List.getElem_toArray, List.getElem_cons_succ, List.getElem_cons_zero]
    refine wpAnyH_take (i := 16) (v := ?_) rfl (by kernel_rfl) (by kernel_rfl) (by kernel_rfl) (fun _ _ _ h => h) (Or.inl ⟨by rfl, ?_⟩) (by assumption) ?_
    rotate_left
    · intro w' hSw
      skip
      go_simp
      try with_reducible rfl
    try simp only [Act.put, List.setIfInBounds_toArray, List.set_cons_zero, List.set_cons_succ, List.getElem_toArray, List.getElem_cons_succ, List.getElem_cons_zero]
    refine wpAnyH_take (i := 17) (v := ?_) rfl (by kernel_rfl) (by kernel_rfl) (by kernel_rfl) (fun _ _ _ h => h) (Or.inl ⟨by rfl, ?_⟩) (by assumption) ?_
    rotate_left
    · intro w' hSw
      skip
      go_simp
      try with_reducible rfl
    try simp only [Act.put, List.setIfInBounds_toArray, List.set_cons_zero, List.set_cons_succ, List.getElem_toArray, List.getElem_cons_succ, List.getElem_cons_zero]
    refine wpAnyH_ready (rs := [18]) (by kernel_rfl) (by simp) ?_
    refine AllReadyH.cons rfl (fun K hK => ?_) AllReadyH.nil
    rw [if_pos (by rfl)]
    refine wp_store1 (v := .slice A9 ((brk s i).rules.length + 1) cap9) rfl rfl (by rfl) (by rfl) hb9 info_r rfl (show 0 < 6 by decide) ?_
    have hS := Fr.set (w := w9) (a := ⟨g, 0, none⟩) (v := .slice A9 ((brk s i).rules.length + 1) cap9) (S := fun i => i = g) rfl
    refine hK.out _ _ ⟨(World.cell?_setCell_other _ _ _ _ (by simp)).trans (blkc hb9 4 _ rfl), hS.blk hq9 (fun e => absurd (blk_same hq9 (e ▸ hb9)) (by decide))⟩ (fun _ => ?_)
    clear hK K
    refine wpAnyH_done (by kernel_rfl) ?_ _
    go_wp2_with fail
    go_end0
    exact ⟨rfl, gat_put hlt hb9 rfl ⟨(by show Own w9 B _ _ _ _ (s.rules ++ [(x.rule, i)]); rw [← HO.out]; exact HO9.out), Go.Proofs.YtodcnbejnchmhaaGreatDoor.zs_tb hr2.z hf9 (by decide) (by decide) (by decide), far_tb hr2.l hf9 (by decide), far_tb hr2.d hf9 (by decide)⟩, gx_put (gx_trans HF2.out (gx_none (Fr.drew w2 _) |> fun h => gx_trans h (gx_new hfn (tb_gx hf9 (by decide)))))⟩
set_option maxRecDepth 100000 in
set_option maxHeartbeats 3200000 in
theorem glink_any (w : World) (g B : Nat) (i : Int) (s : StL) (h : GAt w g B i s) (hs : size s ≤ 100000) (x : LineL) : Calls Tryz.prog 98 #[gP g, lineV x] w (GPost w g B i (linkD s i x)) := by
  have hlt := h.lt
  have hn := Fr.new w (.cells (lineC x) 71) (fun _ => False)
  have hd := size_parts hs
  have HT := Lib.hid (break_any _ g B i s (h.kept hn) (by omega))
  have HN := Lib.hid hn
  have HG := Lib.hid (h.kept hn)
  have HQ := Lib.hid (Blk.made w 71 (lineC x))
  obtain ⟨i0, hi0, hz0, hz1, hz2⟩ := info_parts infoDlink
  clear h hn hd
  go_enter Tryz.func98, Tryz.ntmps98
  go_wp2_with fail
  refine HT.out.mono ?_
  rintro e w2 ⟨rfl, hg2, hf2⟩
  obtain ⟨vr, vz, vl, vd, hb, hr⟩ := hg2.open_
  have HQ2 := Lib.hid (hf2.blk HQ.out (gx_at HG.out HQ.out))
  have HB := Lib.hid hb
  have HR := Lib.hid hr
  have HF2 := Lib.hid (gx_new HN.out hf2)
  clear hb hr hg2 hf2
  obtain ⟨A, cap, rfl⟩ := HR.out.l.slice
  have HO := Lib.hid (show (brk s i).links = s.links from (brk_parts s i).2)
  have hsz : s.links.length ≤ 100000 := (size_parts hs).2.2.1
  have H1 := Lib.hid (one_made (cs := (linkL ⟨x.target, x.name, i⟩).toArray) (by simp [linkL, Value.oneCell']))
  have HBW := Lib.hid ((Fr.drew w2 (fun _ => False)).blk HB.out (fun h => h))
  go_wp2_with fail
  refine wp_region_held_drew (S := HS g w.heap.size i x) (by kernel_rfl) (⟨blkc ((Fr.drew w2 (fun _ => False)).blk HB.out (fun h => h)) 4 _ rfl, (Fr.drew w2 (fun _ => False)).blk HQ2.out (fun h => h)⟩) (fun hHeld => ?_)
  refine wpAnyH_take (i := 0) (v := ?_) rfl (by kernel_rfl) (by kernel_rfl) (by kernel_rfl) (fun _ _ _ h => h) (Or.inl ⟨by rfl, ?_⟩) (by assumption) ?_
  rotate_left
  · intro w' hSw
    have k4 := hSw.1; have k13 := blkc hSw.2 13 (strV x.target) rfl; have k12 := blkc hSw.2 12 (strV x.name) rfl
    go_simp
    try with_reducible rfl
  try simp only [Act.put, List.setIfInBounds_toArray, List.set_cons_zero, List.set_cons_succ, List.getElem_toArray, List.getElem_cons_zero]
  refine wpAnyH_take (i := 1) (v := ?_) rfl (by kernel_rfl) (by kernel_rfl) (by kernel_rfl) (fun _ _ _ h => h) (Or.inl ⟨by rfl, ?_⟩) (by assumption) ?_
  rotate_left
  · intro w' hSw
    have k4 := hSw.1; have k13 := blkc hSw.2 13 (strV x.target) rfl; have k12 := blkc hSw.2 12 (strV x.name) rfl
    go_simp
    try with_reducible rfl
  try simp only [Act.put, List.setIfInBounds_toArray, List.set_cons_zero, List.set_cons_succ, List.getElem_toArray, List.getElem_cons_succ, List.getElem_cons_zero]
  refine wpAnyH_take (i := 2) (v := ?_) rfl (by kernel_rfl) (by kernel_rfl) (by kernel_rfl) (fun _ _ _ h => h) (Or.inl ⟨by rfl, ?_⟩) (by assumption) ?_
  rotate_left
  · intro w' hSw
    have k4 := hSw.1; have k13 := blkc hSw.2 13 (strV x.target) rfl; have k12 := blkc hSw.2 12 (strV x.name) rfl
    go_simp
    try with_reducible rfl
  try simp only [Act.put, List.setIfInBounds_toArray, List.set_cons_zero, List.set_cons_succ, List.getElem_toArray, List.getElem_cons_succ, List.getElem_cons_zero]
  refine wpAnyH_take (i := 3) (v := ?_) rfl (by kernel_rfl) (by kernel_rfl) (by kernel_rfl) (fun _ _ _ h => h) (Or.inl ⟨by rfl, ?_⟩) (by assumption) ?_
  rotate_left
  · intro w' hSw
    have k4 := hSw.1; have k13 := blkc hSw.2 13 (strV x.target) rfl; have k12 := blkc hSw.2 12 (strV x.name) rfl
    go_simp
    try with_reducible rfl
  try simp only [Act.put, List.setIfInBounds_toArray, List.set_cons_zero, List.set_cons_succ, List.getElem_toArray, List.getElem_cons_succ, List.getElem_cons_zero]
  refine wpAnyH_take (i := 4) (v := ?_) rfl (by kernel_rfl) (by kernel_rfl) (by kernel_rfl) (fun _ _ _ h => h) (Or.inl ⟨by rfl, ?_⟩) (by assumption) ?_
  rotate_left
  · intro w' hSw
    have k4 := hSw.1; have k13 := blkc hSw.2 13 (strV x.target) rfl; have k12 := blkc hSw.2 12 (strV x.name) rfl
    go_simp
    try with_reducible rfl
  try simp only [Act.put, List.setIfInBounds_toArray, List.set_cons_zero, List.set_cons_succ, List.getElem_toArray, List.getElem_cons_succ, List.getElem_cons_zero]
  refine wpAnyH_take (i := 6) (v := ?_) rfl (by kernel_rfl) (by kernel_rfl) (by kernel_rfl) (fun _ _ _ h => h) (Or.inl ⟨by rfl, ?_⟩) (by assumption) ?_
  rotate_left
  · intro w' hSw
    have k4 := hSw.1; have k13 := blkc hSw.2 13 (strV x.target) rfl; have k12 := blkc hSw.2 12 (strV x.name) rfl
    go_simp
    try with_reducible rfl
  try simp only [Act.put, List.setIfInBounds_toArray, List.set_cons_zero, List.set_cons_succ, List.getElem_toArray, List.getElem_cons_succ, List.getElem_cons_zero]
  refine wpAnyH_take (i := 7) (v := ?_) rfl (by kernel_rfl) (by kernel_rfl) (by kernel_rfl) (fun _ _ _ h => h) (Or.inl ⟨by rfl, ?_⟩) (by assumption) ?_
  rotate_left
  · intro w' hSw
    have k4 := hSw.1; have k13 := blkc hSw.2 13 (strV x.target) rfl; have k12 := blkc hSw.2 12 (strV x.name) rfl
    go_simp
    try with_reducible rfl
  try simp only [Act.put, List.setIfInBounds_toArray, List.set_cons_zero, List.set_cons_succ, List.getElem_toArray, List.getElem_cons_succ, List.getElem_cons_zero]
  refine wpAnyH_take (i := 8) (v := ?_) rfl (by kernel_rfl) (by kernel_rfl) (by kernel_rfl) (fun _ _ _ h => h) (Or.inl ⟨by rfl, ?_⟩) (by assumption) ?_
  rotate_left
  · intro w' hSw
    have k4 := hSw.1; have k13 := blkc hSw.2 13 (strV x.target) rfl; have k12 := blkc hSw.2 12 (strV x.name) rfl
    go_simp
    try with_reducible rfl
  try simp only [Act.put, List.setIfInBounds_toArray, List.set_cons_zero, List.set_cons_succ, List.getElem_toArray, List.getElem_cons_succ, List.getElem_cons_zero]
  refine wpAnyH_take (i := 9) (v := ?_) rfl (by kernel_rfl) (by kernel_rfl) (by kernel_rfl) (fun _ _ _ h => h) (Or.inl ⟨by rfl, ?_⟩) (by assumption) ?_
  rotate_left
  · intro w' hSw
    have k4 := hSw.1; have k13 := blkc hSw.2 13 (strV x.target) rfl; have k12 := blkc hSw.2 12 (strV x.name) rfl
    go_simp
    try with_reducible rfl
  try simp only [Act.put, List.setIfInBounds_toArray, List.set_cons_zero, List.set_cons_succ, List.getElem_toArray, List.getElem_cons_succ, List.getElem_cons_zero]
  refine wpAnyH_take (i := 10) (v := ?_) rfl (by kernel_rfl) (by kernel_rfl) (by kernel_rfl) (fun _ _ _ h => h) (Or.inl ⟨by rfl, ?_⟩) (by assumption) ?_
  rotate_left
  · intro w' hSw
    have k4 := hSw.1; have k13 := blkc hSw.2 13 (strV x.target) rfl; have k12 := blkc hSw.2 12 (strV x.name) rfl
    go_simp
    try with_reducible rfl
  try simp only [Act.put, List.setIfInBounds_toArray, List.set_cons_zero, List.set_cons_succ, List.getElem_toArray, List.getElem_cons_succ, List.getElem_cons_zero]
  refine wpAnyH_take (i := 11) (v := ?_) rfl (by kernel_rfl) (by kernel_rfl) (by kernel_rfl) (fun _ _ _ h => h) (Or.inl ⟨by rfl, ?_⟩) (by assumption) ?_
  rotate_left
  · intro w' hSw
    have k4 := hSw.1; have k13 := blkc hSw.2 13 (strV x.target) rfl; have k12 := blkc hSw.2 12 (strV x.name) rfl
    go_simp
    try with_reducible rfl
  try simp only [Act.put, List.setIfInBounds_toArray, List.set_cons_zero, List.set_cons_succ, List.getElem_toArray, List.getElem_cons_succ, List.getElem_cons_zero]
  refine wpAnyH_take (i := 12) (v := ?_) rfl (by kernel_rfl) (by kernel_rfl) (by kernel_rfl) (fun _ _ _ h => h) (Or.inl ⟨by rfl, ?_⟩) (by assumption) ?_
  rotate_left
  · intro w' hSw
    have k4 := hSw.1; have k13 := blkc hSw.2 13 (strV x.target) rfl; have k12 := blkc hSw.2 12 (strV x.name) rfl
    go_simp
    try with_reducible rfl
  try simp only [Act.put, List.setIfInBounds_toArray, List.set_cons_zero, List.set_cons_succ, List.getElem_toArray, List.getElem_cons_succ, List.getElem_cons_zero]
  refine wpAnyH_take (i := 13) (v := ?_) rfl (by kernel_rfl) (by kernel_rfl) (by kernel_rfl) (fun _ _ _ h => h) (Or.inl ⟨by rfl, ?_⟩) (by assumption) ?_
  rotate_left
  · intro w' hSw
    have k4 := hSw.1; have k13 := blkc hSw.2 13 (strV x.target) rfl; have k12 := blkc hSw.2 12 (strV x.name) rfl
    go_simp
    try with_reducible rfl
  try simp only [Act.put, List.setIfInBounds_toArray, List.set_cons_zero, List.set_cons_succ, List.getElem_toArray, List.getElem_cons_succ, List.getElem_cons_zero]
  refine wpAnyH_take (i := 14) (v := _) rfl (by kernel_rfl) (by kernel_rfl) (by kernel_rfl) (fun _ _ _ h => h) ((Or.inl ⟨by rfl, fun w' _ => by kernel_rfl⟩ : YieldsIf _ _ _ _ (.agg (linkL ⟨x.target, x.name, i⟩).toArray) _)) (by assumption) ?_
  try simp only [Act.put, List.setIfInBounds_toArray, List.set_cons_zero, List.set_cons_succ, List.getElem_toArray, List.getElem_cons_succ, List.getElem_cons_zero]
  refine wpAnyH_ready (rs := [5, 15]) (by kernel_rfl) (by simp) ?_
  refine AllReadyH.cons rfl (fun K hK => ?_) (AllReadyH.cons rfl (fun K hK => ?_) AllReadyH.nil)
  ·
    rw [if_pos (by rfl)]
    refine wp_load1 rfl (by rfl) (blkc HBW.out 2 _ rfl) Tryz.underlying55 rfl ?_
    refine hK.out _ _ hHeld (fun hH2 => ?_)
    clear hK K
    try simp only [Act.put, List.setIfInBounds_toArray, List.set_cons_zero, List.set_cons_succ, List.getElem_toArray, List.getElem_cons_succ, List.getElem_cons_zero]
    refine wpAnyH_ready (rs := [15]) (by kernel_rfl) (by simp) ?_
    refine AllReadyH.cons rfl (fun K hK => ?_) AllReadyH.nil
    rw [if_pos (by rfl)]
    refine wp_built (e := 102) (cs := (linkL ⟨x.target, x.name, i⟩).toArray) rfl (by rfl) (fun _ => by kernel_rfl) ?_
    have hfn := Fr.new w2.drew (.cells (linkL ⟨x.target, x.name, i⟩).toArray 102) (fun _ => False)
    refine hK.out _ _ (keep hfn hH2) (fun hH3 => ?_)
    clear hK K
    try simp only [Act.put, List.setIfInBounds_toArray, List.set_cons_zero, List.set_cons_succ, List.getElem_toArray, List.getElem_cons_succ, List.getElem_cons_zero]
    have hr2 := (HR.out.kept (Fr.drew w2 (fun _ => False))).kept hfn
    have hbA := hfn.blk HBW.out (fun h => h)
    have hx := rd_made w2.drew 102 (linkL ⟨x.target, x.name, i⟩).toArray
    refine wpAnyH_ready (rs := [16]) (by kernel_rfl) (by simp) ?_
    refine AllReadyH.cons rfl (fun K hK => ?_) AllReadyH.nil
    rw [if_pos (by rfl)]
    refine wp_append_rd _ (.tmp 11) (.tmp 21) 55 rfl B 102 i0 _ 3 40 Tryz.underlying55 hi0 hz0 hz1 hz2 rfl (by decide) _ _ _ rfl hr2.l _ 1 1 (linkL ⟨x.target, x.name, i⟩).toArray.toList rfl hx H1.out (by have h : (brk s i).links.length = s.links.length := congrArg List.length HO.out; simp only [maxLen]; omega) (by have h : (brk s i).links.length = s.links.length := congrArg List.length HO.out; omega) hr2.base ?_
    intro v9 w9 hown9 hg9 _
    obtain ⟨A9, cap9, rfl⟩ := Go.Mem.own_slice hown9
    have hf9 := tb_own hr2.l (Fr.ofGrown hg9)
    have hb9 := (Fr.ofGrown hg9).blk hbA (fun e => by have := (own_block hr2.l e.symm).1; omega)
    have hq9 := (tb_gx (g := g) hf9 (by decide)).blk hH3.2 (gx_line hbA hH3.2)
    have c9 := blkc hb9 2 _ rfl
    have f9 := free_at hb9 2
    have HO9 := Lib.hid (own_more (x := LinkL.mk x.target x.name i) hown9 rfl)
    refine hK.out _ _ ⟨blkc hb9 4 _ rfl, hq9⟩ (fun hH9 => ?_)
    clear hK K hx hown9
    try simp only [Act.put, List.setIfInBounds_toArray, List.set_cons_zero, List.set_cons_succ, List.getElem_toArray, List.getElem_cons_succ, List.getElem_cons_zero]
    refine wpAnyH_take (i := 17) (v := ?_) rfl (by kernel_rfl) (by kernel_rfl) (by kernel_rfl) (fun _ _ _ h => h) (Or.inl ⟨by rfl, ?_⟩) (by assumption) ?_
    rotate_left
    · intro w' hSw
      skip
      go_simp
      try with_reducible rfl
    try simp only [Act.put, List.setIfInBounds_toArray, List.set_cons_zero, List.set_cons_succ, List.getElem_toArray, List.getElem_cons_succ, List.getElem_cons_zero]
    refine wpAnyH_take (i := 18) (v := ?_) rfl (by kernel_rfl) (by kernel_rfl) (by kernel_rfl) (fun _ _ _ h => h) (Or.inl ⟨by rfl, ?_⟩) (by assumption) ?_
    rotate_left
    · intro w' hSw
      skip
      go_simp
      try with_reducible rfl
    try simp only [Act.put, List.setIfInBounds_toArray, List.set_cons_zero, List.set_cons_succ, List.getElem_toArray, List.getElem_cons_succ, List.getElem_cons_zero]
    refine wpAnyH_take (i := 19) (v := ?_) rfl (by kernel_rfl) (by kernel_rfl) (by kernel_rfl) (fun _ _ _ h => h) (Or.inl ⟨by rfl, ?_⟩) (by assumption) ?_
    rotate_left
    · intro w' hSw
      skip
      go_simp
      try with_reducible rfl
    try simp only [Act.put, List.setIfInBounds_toArray, List.set_cons_zero, List.set_cons_succ, List.getElem_toArray, List.getElem_cons_succ, List.getElem_cons_zero]
    refine wpAnyH_ready (rs := [20]) (by kernel_rfl) (by simp) ?_
    refine AllReadyH.cons rfl (fun K hK => ?_) AllReadyH.nil
    rw [if_pos (by rfl)]
    refine wp_store1 (v := .slice A9 ((brk s i).links.length + 1) cap9) rfl rfl (by rfl) (by rfl) hb9 info_l rfl (show 2 < 6 by decide) ?_
    have hS := Fr.set (w := w9) (a := ⟨g, 2, none⟩) (v := .slice A9 ((brk s i).links.length + 1) cap9) (S := fun i => i = g) rfl
    refine hK.out _ _ ⟨(World.cell?_setCell_other _ _ _ _ (by simp)).trans (blkc hb9 4 _ rfl), hS.blk hq9 (fun e => absurd (blk_same hq9 (e ▸ hb9)) (by decide))⟩ (fun _ => ?_)
    clear hK K
    refine wpAnyH_done (by kernel_rfl) ?_ _
    go_wp2_with fail
    go_end0
    exact ⟨rfl, gat_put hlt hb9 rfl ⟨far_tb hr2.r hf9 (by decide), Go.Proofs.YtodcnbejnchmhaaGreatDoor.zs_tb hr2.z hf9 (by decide) (by decide) (by decide), (by show Own w9 B _ _ _ _ (s.links ++ [⟨x.target, x.name, i⟩]); rw [← HO.out]; exact HO9.out), far_tb hr2.d hf9 (by decide)⟩, gx_put (gx_trans HF2.out (gx_none (Fr.drew w2 _) |> fun h => gx_trans h (gx_new hfn (tb_gx hf9 (by decide)))))⟩
  ·
    rw [if_pos (by rfl)]
    refine wp_built (e := 102) (cs := (linkL ⟨x.target, x.name, i⟩).toArray) rfl (by rfl) (fun _ => by kernel_rfl) ?_
    have hfn := Fr.new w2.drew (.cells (linkL ⟨x.target, x.name, i⟩).toArray 102) (fun _ => False)
    refine hK.out _ _ (keep hfn hHeld) (fun hH2 => ?_)
    clear hK K
    try simp only [Act.put, List.setIfInBounds_toArray, List.set_cons_zero, List.set_cons_succ, List.getElem_toArray, List.getElem_cons_succ, List.getElem_cons_zero]
    have HBW2 := Lib.hid (hfn.blk HBW.out (fun h => h))
    refine wpAnyH_ready (rs := [5]) (by kernel_rfl) (by simp) ?_
    refine AllReadyH.cons rfl (fun K hK => ?_) AllReadyH.nil
    rw [if_pos (by rfl)]
    refine wp_load1 rfl (by rfl) (blkc HBW2.out 2 _ rfl) Tryz.underlying55 rfl ?_
    refine hK.out _ _ hH2 (fun hH3 => ?_)
    clear hK K
    try simp only [Act.put, List.setIfInBounds_toArray, List.set_cons_zero, List.set_cons_succ, List.getElem_toArray, List.getElem_cons_succ, List.getElem_cons_zero]
    have hr2 := (HR.out.kept (Fr.drew w2 (fun _ => False))).kept hfn
    have hbA := hfn.blk HBW.out (fun h => h)
    have hx := rd_made w2.drew 102 (linkL ⟨x.target, x.name, i⟩).toArray
    refine wpAnyH_ready (rs := [16]) (by kernel_rfl) (by simp) ?_
    refine AllReadyH.cons rfl (fun K hK => ?_) AllReadyH.nil
    rw [if_pos (by rfl)]
    refine wp_append_rd _ (.tmp 11) (.tmp 21) 55 rfl B 102 i0 _ 3 40 Tryz.underlying55 hi0 hz0 hz1 hz2 rfl (by decide) _ _ _ rfl hr2.l _ 1 1 (linkL ⟨x.target, x.name, i⟩).toArray.toList rfl hx H1.out (by have h : (brk s i).links.length = s.links.length := congrArg List.length HO.out; simp only [maxLen]; omega) (by have h : (brk s i).links.length = s.links.length := congrArg List.length HO.out; omega) hr2.base ?_
    intro v9 w9 hown9 hg9 _
    obtain ⟨A9, cap9, rfl⟩ := Go.Mem.own_slice hown9
    have hf9 := tb_own hr2.l (Fr.ofGrown hg9)
    have hb9 := (Fr.ofGrown hg9).blk hbA (fun e => by have := (own_block hr2.l e.symm).1; omega)
    have hq9 := (tb_gx (g := g) hf9 (by decide)).blk hH3.2 (gx_line hbA hH3.2)
    have c9 := blkc hb9 2 _ rfl
    have f9 := free_at hb9 2
    have HO9 := Lib.hid (own_more (x := LinkL.mk x.target x.name i) hown9 rfl)
    refine hK.out _ _ ⟨blkc hb9 4 _ rfl, hq9⟩ (fun hH9 => ?_)
    clear hK K hx hown9
    try simp only [Act.put, List.setIfInBounds_toArray, List.set_cons_zero, List.set_cons_succ, List.getElem_toArray, List.getElem_cons_succ, List.getElem_cons_zero]
    refine wpAnyH_take (i := 17) (v := ?_) rfl (by kernel_rfl) (by kernel_rfl) (by kernel_rfl) (fun _ _ _ h => h) (Or.inl ⟨by rfl, ?_⟩) (by assumption) ?_
    rotate_left
    · intro w' hSw
      skip
      go_simp
      try with_reducible rfl
    try simp only [Act.put, List.setIfInBounds_toArray, List.set_cons_zero, List.set_cons_succ, List.getElem_toArray, List.getElem_cons_succ, List.getElem_cons_zero]
    refine wpAnyH_take (i := 18) (v := ?_) rfl (by kernel_rfl) (by kernel_rfl) (by kernel_rfl) (fun _ _ _ h => h) (Or.inl ⟨by rfl, ?_⟩) (by assumption) ?_
    rotate_left
    · intro w' hSw
      skip
      go_simp
      try with_reducible rfl
    try simp only [Act.put, List.setIfInBounds_toArray, List.set_cons_zero, List.set_cons_succ, List.getElem_toArray, List.getElem_cons_succ, List.getElem_cons_zero]
    refine wpAnyH_take (i := 19) (v := ?_) rfl (by kernel_rfl) (by kernel_rfl) (by kernel_rfl) (fun _ _ _ h => h) (Or.inl ⟨by rfl, ?_⟩) (by assumption) ?_
    rotate_left
    · intro w' hSw
      skip
      go_simp
      try with_reducible rfl
    try simp only [Act.put, List.setIfInBounds_toArray, List.set_cons_zero, List.set_cons_succ, List.getElem_toArray, List.getElem_cons_succ, List.getElem_cons_zero]
    refine wpAnyH_ready (rs := [20]) (by kernel_rfl) (by simp) ?_
    refine AllReadyH.cons rfl (fun K hK => ?_) AllReadyH.nil
    rw [if_pos (by rfl)]
    refine wp_store1 (v := .slice A9 ((brk s i).links.length + 1) cap9) rfl rfl (by rfl) (by rfl) hb9 info_l rfl (show 2 < 6 by decide) ?_
    have hS := Fr.set (w := w9) (a := ⟨g, 2, none⟩) (v := .slice A9 ((brk s i).links.length + 1) cap9) (S := fun i => i = g) rfl
    refine hK.out _ _ ⟨(World.cell?_setCell_other _ _ _ _ (by simp)).trans (blkc hb9 4 _ rfl), hS.blk hq9 (fun e => absurd (blk_same hq9 (e ▸ hb9)) (by decide))⟩ (fun _ => ?_)
    clear hK K
    refine wpAnyH_done (by kernel_rfl) ?_ _
    go_wp2_with fail
    go_end0
    exact ⟨rfl, gat_put hlt hb9 rfl ⟨far_tb hr2.r hf9 (by decide), Go.Proofs.YtodcnbejnchmhaaGreatDoor.zs_tb hr2.z hf9 (by decide) (by decide) (by decide), (by show Own w9 B _ _ _ _ (s.links ++ [⟨x.target, x.name, i⟩]); rw [← HO.out]; exact HO9.out), far_tb hr2.d hf9 (by decide)⟩, gx_put (gx_trans HF2.out (gx_none (Fr.drew w2 _) |> fun h => gx_trans h (gx_new hfn (tb_gx hf9 (by decide)))))⟩
set_option maxRecDepth 100000 in
set_option maxHeartbeats 3200000 in
theorem gfault_any (w : World) (g B : Nat) (i : Int) (s : StL) (h : GAt w g B i s) (hs : size s ≤ 100000) (x : LineL) : Calls Tryz.prog 99 #[gP g, lineV x] w (GPost w g B i (tell s i x.col x.err)) := by
  have hn := Fr.new w (.cells (lineC x) 71) (fun _ => False)
  have hd := (size_parts hs).2.2.2
  have HG := Lib.hid ((h.kept hn).kept (Fr.drew _ (fun _ => False)))
  have HT := Lib.hid (tell_any _ g B i s HG.out hd i x.col x.err)
  have HN := Lib.hid (gx_none (g := g) (B := B) hn)
  have HQ := Lib.hid ((Fr.drew _ (fun _ => False)).blk (Blk.made w 71 (lineC x)) (fun h => h))
  have h0 : HS g w.heap.size i x (w.alloc (.cells (lineC x) 71)).drew := by
    obtain ⟨vr, vz, vl, vd, hb, -⟩ := HG.out.open_
    exact ⟨blkc hb 4 _ rfl, HQ.out⟩
  clear h hn hd
  go_enter Tryz.func99, Tryz.ntmps99
  go_wp2_with fail
  refine wp_region_held_drew (S := HS g w.heap.size i x) (by kernel_rfl) (h0) (fun hHeld => ?_)
  refine wpAnyH_take (i := 0) (v := ?_) rfl (by kernel_rfl) (by kernel_rfl) (by kernel_rfl) (fun _ _ _ h => h) (Or.inl ⟨by rfl, ?_⟩) (by assumption) ?_
  rotate_left
  · intro w' hSw
    have k4 := hSw.1; have k28 := blkc hSw.2 28 (intV x.col) rfl; have k27 := blkc hSw.2 27 (intV x.err) rfl
    go_simp
    try with_reducible rfl
  try simp only [Act.put, List.setIfInBounds_toArray, List.set_cons_zero, List.set_cons_succ, List.getElem_toArray, List.getElem_cons_zero]
  refine wpAnyH_take (i := 1) (v := ?_) rfl (by kernel_rfl) (by kernel_rfl) (by kernel_rfl) (fun _ _ _ h => h) (Or.inl ⟨by rfl, ?_⟩) (by assumption) ?_
  rotate_left
  · intro w' hSw
    have k4 := hSw.1; have k28 := blkc hSw.2 28 (intV x.col) rfl; have k27 := blkc hSw.2 27 (intV x.err) rfl
    go_simp
    try with_reducible rfl
  try simp only [Act.put, List.setIfInBounds_toArray, List.set_cons_zero, List.set_cons_succ, List.getElem_toArray, List.getElem_cons_succ, List.getElem_cons_zero]
  refine wpAnyH_take (i := 2) (v := ?_) rfl (by kernel_rfl) (by kernel_rfl) (by kernel_rfl) (fun _ _ _ h => h) (Or.inl ⟨by rfl, ?_⟩) (by assumption) ?_
  rotate_left
  · intro w' hSw
    have k4 := hSw.1; have k28 := blkc hSw.2 28 (intV x.col) rfl; have k27 := blkc hSw.2 27 (intV x.err) rfl
    go_simp
    try with_reducible rfl
  try simp only [Act.put, List.setIfInBounds_toArray, List.set_cons_zero, List.set_cons_succ, List.getElem_toArray, List.getElem_cons_succ, List.getElem_cons_zero]
  refine wpAnyH_take (i := 3) (v := ?_) rfl (by kernel_rfl) (by kernel_rfl) (by kernel_rfl) (fun _ _ _ h => h) (Or.inl ⟨by rfl, ?_⟩) (by assumption) ?_
  rotate_left
  · intro w' hSw
    have k4 := hSw.1; have k28 := blkc hSw.2 28 (intV x.col) rfl; have k27 := blkc hSw.2 27 (intV x.err) rfl
    go_simp
    try with_reducible rfl
  try simp only [Act.put, List.setIfInBounds_toArray, List.set_cons_zero, List.set_cons_succ, List.getElem_toArray, List.getElem_cons_succ, List.getElem_cons_zero]
  refine wpAnyH_take (i := 4) (v := ?_) rfl (by kernel_rfl) (by kernel_rfl) (by kernel_rfl) (fun _ _ _ h => h) (Or.inl ⟨by rfl, ?_⟩) (by assumption) ?_
  rotate_left
  · intro w' hSw
    have k4 := hSw.1; have k28 := blkc hSw.2 28 (intV x.col) rfl; have k27 := blkc hSw.2 27 (intV x.err) rfl
    go_simp
    try with_reducible rfl
  try simp only [Act.put, List.setIfInBounds_toArray, List.set_cons_zero, List.set_cons_succ, List.getElem_toArray, List.getElem_cons_succ, List.getElem_cons_zero]
  refine wpAnyH_take (i := 5) (v := ?_) rfl (by kernel_rfl) (by kernel_rfl) (by kernel_rfl) (fun _ _ _ h => h) (Or.inl ⟨by rfl, ?_⟩) (by assumption) ?_
  rotate_left
  · intro w' hSw
    have k4 := hSw.1; have k28 := blkc hSw.2 28 (intV x.col) rfl; have k27 := blkc hSw.2 27 (intV x.err) rfl
    go_simp
    try with_reducible rfl
  try simp only [Act.put, List.setIfInBounds_toArray, List.set_cons_zero, List.set_cons_succ, List.getElem_toArray, List.getElem_cons_succ, List.getElem_cons_zero]
  refine wpAnyH_take (i := 6) (v := ?_) rfl (by kernel_rfl) (by kernel_rfl) (by kernel_rfl) (fun _ _ _ h => h) (Or.inl ⟨by rfl, ?_⟩) (by assumption) ?_
  rotate_left
  · intro w' hSw
    have k4 := hSw.1; have k28 := blkc hSw.2 28 (intV x.col) rfl; have k27 := blkc hSw.2 27 (intV x.err) rfl
    go_simp
    try with_reducible rfl
  try simp only [Act.put, List.setIfInBounds_toArray, List.set_cons_zero, List.set_cons_succ, List.getElem_toArray, List.getElem_cons_succ, List.getElem_cons_zero]
  refine wpAnyH_take (i := 7) (v := ?_) rfl (by kernel_rfl) (by kernel_rfl) (by kernel_rfl) (fun _ _ _ h => h) (Or.inl ⟨by rfl, ?_⟩) (by assumption) ?_
  rotate_left
  · intro w' hSw
    have k4 := hSw.1; have k28 := blkc hSw.2 28 (intV x.col) rfl; have k27 := blkc hSw.2 27 (intV x.err) rfl
    go_simp
    try with_reducible rfl
  try simp only [Act.put, List.setIfInBounds_toArray, List.set_cons_zero, List.set_cons_succ, List.getElem_toArray, List.getElem_cons_succ, List.getElem_cons_zero]
  refine wpAnyH_take (i := 8) (v := ?_) rfl (by kernel_rfl) (by kernel_rfl) (by kernel_rfl) (fun _ _ _ h => h) (Or.inl ⟨by rfl, ?_⟩) (by assumption) ?_
  rotate_left
  · intro w' hSw
    have k4 := hSw.1; have k28 := blkc hSw.2 28 (intV x.col) rfl; have k27 := blkc hSw.2 27 (intV x.err) rfl
    go_simp
    try with_reducible rfl
  try simp only [Act.put, List.setIfInBounds_toArray, List.set_cons_zero, List.set_cons_succ, List.getElem_toArray, List.getElem_cons_succ, List.getElem_cons_zero]
  refine wpAnyH_ready (rs := [9]) (by kernel_rfl) (by simp) ?_
  refine AllReadyH.cons rfl (fun K hK => ?_) AllReadyH.nil
  go_simp
  refine HT.out.mono ?_
  rintro e w4 ⟨rfl, hg4, hf4⟩
  have hq4 := hf4.blk HQ.out (gx_at HG.out HQ.out)
  obtain ⟨vr, vz, vl, vd, hb4, hr4⟩ := hg4.open_
  refine hK.out _ _ ⟨blkc hb4 4 _ rfl, hq4⟩ (fun hHeld2 => ?_)
  clear hK K
  refine wpAnyH_done (by kernel_rfl) ?_ _
  go_wp2_with fail
  go_end0
  exact ⟨rfl, hg4, gx_trans HN.out (gx_trans (gx_none (Fr.drew _ _)) hf4)⟩
end Go.Proofs.YtodcnbejnchmhaaGreatDoor
