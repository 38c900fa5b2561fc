import Derived.Test.YtlfjknndkjgciaaGreatDoorYe25
import Derived.Test.YtlfjknndkjgciaaGreatDoorYe16
import Derived.Test.YtlfjknndkjgciaaGreatDoorYe20
import Derived.Test.YtlfjknndkjgciaaGreatDoorYe07
namespace Go.Proofs.YtlfjknndkjgciaaGreatDoor
open Go.RowKit Go.Mem Go.Lin Go.Dcm
/- a document's parts are the same as themselves -/
theorem eq_diag (d : Nat) (x : DiagL) (w : World) : (Op.equalIn (d + 2) 65 (.agg (diagL x).toArray) (.agg (diagL x).toArray)).run Tryz.prog w = .ok true w := by
  have hS : Tryz.prog.underlying 65 = some (.struct (Tryz.prog.fieldsOf 65)) := by kernel_rfl
  have hp : Tryz.prog.stoodInHeld 65 = false := by kernel_rfl
  rw [run_equalIn_agg w (d + 1) 65 _ _ hS hp]
  simp only [Program.fieldsOf, Tryz.underlying65]
  refine Eq.trans (eqF_cons (x := strV []) (y := strV []) (by decide) (by kernel_rfl) (by kernel_rfl) (eqS d [] [] w) (eqF_cons (x := intV x.line) (y := intV x.line) (by decide) (by kernel_rfl) (by kernel_rfl) (eqI d x.line x.line w) (eqF_cons (x := intV x.col) (y := intV x.col) (by decide) (by kernel_rfl) (by kernel_rfl) (eqI d x.col x.col w) (eqF_cons (x := intV x.k) (y := intV x.k) (by decide) (by kernel_rfl) (by kernel_rfl) (eqK d x.k x.k w) eqF_nil)))) ?_
  simp
theorem eq_rlink (d : Nat) (x : LinkL) (w : World) : (Op.equalIn (d + 2) 63 (.agg (linkL x).toArray) (.agg (linkL x).toArray)).run Tryz.prog w = .ok true w := by
  have hS : Tryz.prog.underlying 63 = some (.struct (Tryz.prog.fieldsOf 63)) := by kernel_rfl
  have hp : Tryz.prog.stoodInHeld 63 = false := by kernel_rfl
  rw [run_equalIn_agg w (d + 1) 63 _ _ hS hp]
  simp only [Program.fieldsOf, Tryz.underlying63]
  refine Eq.trans (eqF_cons (x := strV x.target) (y := strV x.target) (by decide) (by kernel_rfl) (by kernel_rfl) (eqS d x.target x.target w) (eqF_cons (x := strV x.name) (y := strV x.name) (by decide) (by kernel_rfl) (by kernel_rfl) (eqS d x.name x.name w) (eqF_cons (x := intV x.line) (y := intV x.line) (by decide) (by kernel_rfl) (by kernel_rfl) (eqI d x.line x.line w) eqF_nil))) ?_
  simp
theorem eq_rrule (d : Nat) (x : RuleL × Int) (w : World) : (Op.equalIn (d + 4) 61 (.agg (ruleL x).toArray) (.agg (ruleL x).toArray)).run Tryz.prog w = .ok true w := by
  have hS : Tryz.prog.underlying 61 = some (.struct (Tryz.prog.fieldsOf 61)) := by kernel_rfl
  have hp : Tryz.prog.stoodInHeld 61 = false := by kernel_rfl
  rw [run_equalIn_agg w (d + 3) 61 _ _ hS hp]
  simp only [Program.fieldsOf, Tryz.underlying61]
  refine Eq.trans (eqF_cons (x := ruleV x.1) (y := ruleV x.1) (by decide) (by kernel_rfl) (by kernel_rfl) (eq_rule d x.1 x.1 w) (eqF_cons (x := intV x.2) (y := intV x.2) (by decide) (by kernel_rfl) (by kernel_rfl) (eqI (d + 2) x.2 x.2 w) eqF_nil)) ?_
  simp
theorem same_diag (x : DiagL) : ∀ w, (binOp .neq 65 (.agg (diagL x).toArray) (.agg (diagL x).toArray)).run Tryz.prog w = .ok (.bool false) w := fun w => by
  rw [run_neq_struct, show (10000 : Nat) = 9998 + 2 from rfl, eq_diag 9998 x w]
  rfl
theorem same_rlink (x : LinkL) : ∀ w, (binOp .neq 63 (.agg (linkL x).toArray) (.agg (linkL x).toArray)).run Tryz.prog w = .ok (.bool false) w := fun w => by
  rw [run_neq_struct, show (10000 : Nat) = 9998 + 2 from rfl, eq_rlink 9998 x w]
  rfl
theorem same_rrule (x : RuleL × Int) : ∀ w, (binOp .neq 61 (.agg (ruleL x).toArray) (.agg (ruleL x).toArray)).run Tryz.prog w = .ok (.bool false) w := fun w => by
  rw [run_neq_struct, show (10000 : Nat) = 9996 + 4 from rfl, eq_rrule 9996 x w]
  rfl
theorem guard_diag (x y : Operand) (cs ds : Array Value) : ∀ w, (eqGuard .neq 65 x y (.agg cs) (.agg ds)).run Tryz.prog w = .ok () w := fun _ => by kernel_rfl
theorem guard_rlink (x y : Operand) (cs ds : Array Value) : ∀ w, (eqGuard .neq 63 x y (.agg cs) (.agg ds)).run Tryz.prog w = .ok () w := fun _ => by kernel_rfl
theorem guard_rrule (x y : Operand) (cs ds : Array Value) : ∀ w, (eqGuard .neq 61 x y (.agg cs) (.agg ds)).run Tryz.prog w = .ok () w := fun _ => by kernel_rfl
/- a struct of a row, as the walk loads it -/
theorem elem_at {X : Type} {f : X → List Value} {k : Nat} (hf : ∀ x, (f x).length = k) {w : World} {A : Option Addr} {l : List X} (h : Rd w k A l.length (l.flatMap f)) {i : Nat} (hi : i < l.length) : ∃ b off, A = some ⟨b, off, none⟩ ∧ ∀ j, j < (f l[i]).toArray.size → w.cell? ⟨b, off + i * k + j, none⟩ = (f l[i]).toArray[j]? := by
  obtain ⟨b, off, e, hc⟩ := rows_at hf h (List.getElem?_eq_getElem hi)
  refine ⟨b, off, e, fun j hj => ?_⟩
  rw [hc j (by simpa [hf] using hj)]
  simp
end Go.Proofs.YtlfjknndkjgciaaGreatDoor
namespace Go.Mem
open Go.RowKit
section
variable {P : Program} {ops : Array Oper} {rest : List Oper} {o : Oper} {a : Act} {w : World} {Q : Exit → Act → World → Prop}
/-- a slice of one element is made: the world behind it is opaque -/
theorem wpList_made {t e : TypeId} {y : Operand} {v : Value} (cs : Array Value) (hgd : Region.wanted o (yielded ops a.tmps) = true) (ho : o.op = .buildSlice t 1 #[(0, y)]) (hy : a.eval y = v)
    (hm : ∀ w, (Instr.buildSlice t 1 #[(0, v)]).run P w = .ok (.slice (some ⟨w.heap.size, 0, none⟩) 1 1) (w.alloc (.cells cs e)))
    (h : ∀ W, Fr w W (fun _ => False) → W.heap.size = w.heap.size + 1 → Blk W w.heap.size e cs → Rd W cs.size (some ⟨w.heap.size, 0, none⟩) 1 cs.toList → wpList P ops Q rest (a.put o.dst (.slice (some ⟨w.heap.size, 0, none⟩) 1 1)) W) : wpList P ops Q (o :: rest) a w :=
  wpList_step fun _ hK => by
    rw [if_pos hgd]
    unfold Oper.wp execOp
    simp only [ho, Sem.run_bind, List.map_toArray, List.map_cons, List.map_nil, hy, hm, Result.andThen_ok]
    refine hK _ _ (h _ (Fr.new w _ _) (by simp) (Blk.made w e cs) ?_)
    refine ⟨by simp, fun _ => ⟨w.heap.size, 0, rfl, fun j u hu => ?_⟩⟩
    have := cell_at (Blk.made w e cs) j
    rw [Nat.zero_add, this]
    simpa using hu
end
end Go.Mem
namespace Go.Proofs.YtlfjknndkjgciaaGreatDoor
open Go.RowKit Go.Mem Go.Lin Go.Dcm
/-- one element more: the row behind it, the world opaque -/
theorem wpList_append1 {P : Program} {ops : Array Oper} {rest : List Oper} {o : Oper} {a : Act} {w : World} {Q : Exit → Act → World → Prop} {X : Type} {f : X → List Value} {l : List X} (s y : Operand) (t : TypeId)
    (hgd : o.guard = none) (ho : o.op = .call { callee := .builtin .append, args := #[s, y], argTypes := #[t, t] })
    (base : Nat) (e : TypeId) (z : Value) (size bytes : Nat) (ht : P.underlying t = some (.slice e)) (hi : (P.info? e).map (fun i => (i.zero, i.size, i.bytes)) = some (some z, size, bytes)) (hzs : z.cells.size = size) (hsz : 0 < size)
    (v : Value) (hs : a.eval s = v) (hown : Own w base e size f v l) (A : Option Addr) (c : Nat) (x : X) (cs : List Value) (hx : a.eval y = .slice A 1 c) (hr : Rd w size A 1 cs) (hcs : cs = f x) (h1 : ∀ u ∈ cs, u.oneCell' = true)
    (h63 : l.length ≤ 100000) (hby : bytes ≤ 1000) (hbase : base ≤ w.heap.size)
    (h : ∀ A9 c9 w9, Own w9 base e size f (.slice A9 (l.length + 1) c9) (l ++ [x]) → Fr w w9 (fun i => some i = v.ownBlock) → wpList P ops Q rest (a.put o.dst (.slice A9 (l.length + 1) c9)) w9) : wpList P ops Q (o :: rest) a w := by
  obtain ⟨i0, hi0, hz0, hz1, hz2⟩ := info_parts hi
  refine wpList_append_rd w hgd s y t ho base e i0 z size bytes ht hi0 hz0 hz1 hz2 hzs hsz v l.length _ hs hown A 1 c cs hx hr h1 (by simp only [maxLen]; omega) ?_ hbase ?_
  · have : (l.length + 1) * bytes ≤ 100001 * 1000 := Nat.mul_le_mul (by omega) hby
    omega
  · intro v9 w9 hown9 hg9 _
    obtain ⟨A9, c9, rfl⟩ := Go.Mem.own_slice hown9
    exact h A9 c9 w9 (own_more hown9 hcs) (Fr.ofGrown hg9)
namespace R
/-- v owns a row of zones, the last one's rows behind all others' -/
def ZsAt (w : World) (base : Nat) (v : Value) (zs : List ZoneL) : Prop := ∃ (zv : List ZV) (M : Nat), zv.map (·.1) = zs ∧ Own w base 69 3 zoneL v zv ∧ (∀ x ∈ zv, ZAt w base x) ∧ base ≤ M ∧ M ≤ w.heap.size ∧
  ∀ a x, zv = a ++ [x] → ZAt w M x ∧ ∀ y ∈ a, Under M y
theorem ZsAt.fr {w w' : World} {S : Nat → Prop} {base : Nat} {v : Value} {zs : List ZoneL} (h : ZsAt w base v zs) (hf : Fr w w' S) (h0 : ∀ k cs, base ≤ k → Blk w k 69 cs → ¬ S k) (h1 : ∀ k cs, base ≤ k → Blk w k 55 cs → ¬ S k) (h2 : ∀ k cs, base ≤ k → Blk w k 3 cs → ¬ S k) : ZsAt w' base v zs := by
  obtain ⟨zv, M, e, ho, hz, hb, hM, hl⟩ := h
  refine ⟨zv, M, e, ho.fr hf fun g hg => ?_, fun x hx => (hz x hx).fr hf h1 h2, hb, Nat.le_trans hM hf.size, fun a x ex => ?_⟩
  · obtain ⟨hb, -, cs, hk⟩ := own_block ho hg
    exact h0 g cs hb hk
  · obtain ⟨k1, k2⟩ := hl a x ex
    exact ⟨k1.fr hf (fun k cs hk => h1 k cs (by omega)) (fun k cs hk => h2 k cs (by omega)), k2⟩
theorem zs_tb {w w' : World} {B : Nat} {e : TypeId} {v : Value} {zs : List ZoneL} (h : ZsAt w B v zs) (hf : Fr w w' (TB B e w)) (h0 : 69 ≠ e) (h1 : 55 ≠ e) (h2 : 3 ≠ e) : ZsAt w' B v zs :=
  h.fr hf (fun _ _ _ hb hx => h0 (blk_same hb hx.2.choose_spec)) (fun _ _ _ hb hx => h1 (blk_same hb hx.2.choose_spec)) (fun _ _ _ hb hx => h2 (blk_same hb hx.2.choose_spec))
/-- the rows of a state -/
structure GR (w : World) (B : Nat) (vr vz vl vd : Value) (s : StL) : Prop where
  r : Own w B 61 12 ruleL vr s.rules
  z : ZsAt w B vz s.zones
  l : Own w B 63 3 linkL vl s.links
  d : Own w B 65 4 diagL vd s.diags
theorem GR.kept {w w' : World} {B : Nat} {vr vz vl vd : Value} {s : StL} (h : GR w B vr vz vl vd s) (hf : Fr w w' (fun _ => False)) : GR w' B vr vz vl vd s :=
  ⟨h.r.kept hf, h.z.fr hf (fun _ _ _ _ h => h) (fun _ _ _ _ h => h) (fun _ _ _ _ h => h), h.l.kept hf, h.d.kept hf⟩
theorem GR.base {w : World} {B : Nat} {vr vz vl vd : Value} {s : StL} (h : GR w B vr vz vl vd s) : B ≤ w.heap.size := by
  obtain ⟨zv, M, -, -, -, h1, h2, -⟩ := h.z
  omega
/-- a zone more -/
theorem zs_snoc {w w9 : World} {B : Nat} {v : Value} {zv : List ZV} {z : ZV} (hall : ∀ y ∈ zv, ZAt w B y) (hf : Fr w w9 (TB B 69 w)) (hown : Own w9 B 69 3 zoneL v (zv ++ [z])) (hz : ZAt w9 w.heap.size z) (hB : B ≤ w.heap.size) : ZsAt w9 B v (zv.map (·.1) ++ [z.1]) := by
  refine ⟨zv ++ [z], w.heap.size, by simp, hown, fun y hy => ?_, hB, hf.size, fun a y e => ?_⟩
  · rcases List.mem_append.1 hy with hy | hy
    · exact ⟨far_tb (hall y hy).e hf (by decide), far_tb (hall y hy).l hf (by decide)⟩
    · have hy : y = z := by simpa using hy
      subst hy
      exact ⟨own_base hz.e hB, own_base hz.l hB⟩
  · obtain ⟨rfl, e2⟩ := List.append_inj' e rfl
    have e2 : z = y := by simpa using e2
    subst e2
    exact ⟨hz, fun y hy => ⟨fun k hk => (own_block (hall y hy).e hk).2.1, fun k hk => (own_block (hall y hy).l hk).2.1⟩⟩
/-- a zone's row of eras, or of lines, is turned -/
theorem zrow_put {w : World} {B bz n cap : Nat} {a : List ZV} {y z : ZV} {v : Value} (j : Nat) (h : Own w B 69 3 zoneL (.slice (some ⟨bz, 0, none⟩) n cap) (a ++ [y])) (hn : n = (a ++ [y]).length) (hj : (zoneL y).set j v = zoneL z) : Own (w.setCell ⟨bz, a.length * 3 + j, none⟩ v) B 69 3 zoneL (.slice (some ⟨bz, 0, none⟩) n cap) (a ++ [z]) := by
  subst hn
  have h1 := (World.ownsRow.stored h (a.length * 3 + j) v).1
  have e : ((a ++ [y]).flatMap zoneL).set (a.length * 3 + j) v = (a ++ [z]).flatMap zoneL := by
    rw [List.flatMap_append, List.flatMap_append, ← zrow_len, List.set_append_right _ _ (Nat.le_add_right _ _), Nat.add_sub_cancel_left]
    rw [show [y].flatMap zoneL = zoneL y by simp, show [z].flatMap zoneL = zoneL z by simp, hj]
  rw [e] at h1
  show World.ownsRow _ _ _ _ _ (a ++ [z]).length _
  simpa using h1
theorem zs_again {w : World} {B M : Nat} {v : Value} {a : List ZV} {z : ZV} (hoz : Own w B 69 3 zoneL v (a ++ [z])) (ha : ∀ y ∈ a, ZAt w B y) (hu : ∀ y ∈ a, Under M y) (hz : ZAt w M z) (hB : B ≤ M) (hM : M ≤ w.heap.size) : ZsAt w B v (a.map (·.1) ++ [z.1]) := by
  refine ⟨a ++ [z], M, by simp, hoz, fun y hy => ?_, hB, hM, fun b y e => ?_⟩
  · rcases List.mem_append.1 hy with hy | hy
    · exact ha y hy
    · have hy : y = z := by simpa using hy
      subst hy
      exact ⟨own_base hz.e hB, own_base hz.l hB⟩
  · obtain ⟨rfl, e2⟩ := List.append_inj' e rfl
    have e2 : z = y := by simpa using e2
    subst e2
    exact ⟨hz, hu⟩
/-- what is known where an era is told of an open zone -/
structure OpenZ (w : World) (B M bz cap : Nat) (a : List ZV) (y : ZV) (vr vl vd : Value) (s : StL) : Prop where
  oz : Own w B 69 3 zoneL (.slice (some ⟨bz, 0, none⟩) (a.length + 1) cap) (a ++ [y])
  ha : ∀ z ∈ a, ZAt w B z
  hu : ∀ z ∈ a, Under M z
  hy : ZAt w M y
  hB : B ≤ M
  hM : M ≤ w.heap.size
  r : Own w B 61 12 ruleL vr s.rules
  l : Own w B 63 3 linkL vl s.links
  d : Own w B 65 4 diagL vd s.diags
theorem OpenZ.kept {w w' : World} {B M bz cap : Nat} {a : List ZV} {y : ZV} {vr vl vd : Value} {s : StL} (h : OpenZ w B M bz cap a y vr vl vd s) (hf : Fr w w' (fun _ => False)) : OpenZ w' B M bz cap a y vr vl vd s :=
  ⟨h.oz.kept hf, fun z hz => (h.ha z hz).kept hf, h.hu, h.hy.kept hf, h.hB, Nat.le_trans h.hM hf.size, h.r.kept hf, h.l.kept hf, h.d.kept hf⟩
theorem open_z {w : World} {B : Nat} {vr vz vl vd : Value} {s : StL} {z : ZoneL} (h : GR w B vr vz vl vd s) (hc : s.cur = some z) : ∃ M bz cap a y, vz = .slice (some ⟨bz, 0, none⟩) (a.length + 1) cap ∧ y.1 = z ∧ a.map (·.1) = s.done ∧ OpenZ w B M bz cap a y vr vl vd s := by
  obtain ⟨zv, M, e1, h1, h2, h3, h4, h5⟩ := h.z
  have e2 : s.zones = s.done ++ [z] := by unfold StL.zones; rw [hc]; rfl
  rw [e2] at e1
  obtain ⟨a, y, rfl, ea, ey⟩ : ∃ a y, zv = a ++ [y] ∧ a.map (·.1) = s.done ∧ y.1 = z := by
    rcases List.eq_nil_or_concat zv with rfl | ⟨a, y, rfl⟩
    · simp at e1
    · simp only [List.concat_eq_append, List.map_append] at e1
      obtain ⟨e3, e4⟩ := List.append_inj' e1 rfl
      exact ⟨a, y, List.concat_eq_append, e3, by simpa using e4⟩
  obtain ⟨k1, k2⟩ := h5 a y rfl
  obtain ⟨A, c, rfl, -, -, -, hA, hA2⟩ := own_rd h1
  cases A with
  | none => exact absurd (hA rfl).1 (by simp)
  | some A =>
    obtain ⟨bz, rfl, -⟩ := hA2 A rfl
    exact ⟨M, bz, c, a, y, by simp, ey, ea, by simpa using h1, fun z hz => h2 z (by simp [hz]), k2, k1, h3, h4, h.r, h.l, h.d⟩
theorem OpenZ.gr {w : World} {B M bz cap : Nat} {a : List ZV} {y : ZV} {vr vl vd : Value} {s t : StL} (h : OpenZ w B M bz cap a y vr vl vd s) (hz : t.zones = a.map (·.1) ++ [y.1]) (h1 : t.rules = s.rules) (h2 : t.links = s.links) (h3 : t.diags = s.diags) : GR w B vr (.slice (some ⟨bz, 0, none⟩) (a.length + 1) cap) vl vd t :=
  ⟨h1 ▸ h.r, hz ▸ zs_again h.oz h.ha h.hu h.hy h.hB h.hM, h2 ▸ h.l, h3 ▸ h.d⟩
theorem OpenZ.cells {w : World} {B M bz cap : Nat} {a : List ZV} {y : ZV} {vr vl vd : Value} {s : StL} (h : OpenZ w B M bz cap a y vr vl vd s) : ∃ cs : Array Value, B ≤ bz ∧ Blk w bz 69 cs ∧ a.length * 3 + 2 < cs.size ∧ cs[a.length * 3 + 1]? = some y.2.1 ∧ cs[a.length * 3 + 2]? = some y.2.2 := by
  obtain ⟨cs, h1, h2, h3, h4⟩ := own_blk h.oz (by simp)
  have hl := zrow_len a
  have hx : ∀ j, j < 3 → ((a ++ [y]).flatMap zoneL)[a.length * 3 + j]? = (zoneL y)[j]? := fun j hj => flat_get zoneL 3 zoneL_len (by simp) j hj
  refine ⟨cs, h1, h2, ?_, h4 _ _ (hx 1 (by omega)), h4 _ _ (hx 2 (by omega))⟩
  rw [List.length_append] at h3
  simp only [List.length_cons, List.length_nil] at h3
  omega
theorem zs_plain {w : World} {B : Nat} {v : Value} {zs : List ZoneL} (h : ZsAt w B v zs) : ∃ zv : List ZV, zv.map (·.1) = zs ∧ Own w B 69 3 zoneL v zv ∧ ∀ x ∈ zv, ZAt w B x := by
  obtain ⟨zv, M, h1, h2, h3, -⟩ := h
  exact ⟨zv, h1, h2, h3⟩
theorem doc_of {w : World} {a B : Nat} {vr vz vl vd : Value} {s : StL} (h : GR w B vr vz vl vd s) (hb : a ≤ B) : DocAt 61 69 63 w a vr vz vl vd s.doc := by
  obtain ⟨zv, h1, h2, h3⟩ := zs_plain h.z
  exact ⟨own_base h.r hb, ⟨zv, h1, own_base h2 hb, fun x hx => zat_base (h3 x hx) hb⟩, own_base h.l hb, own_base h.d hb⟩
/-- a document stays where a block of documents turns -/
theorem doc_far {w w' : World} {B q : Nat} {vr vz vl vd : Value} {d : DocL} {cs : Array Value} (h : DocAt 61 69 63 w B vr vz vl vd d) (hf : Fr w w' (fun i => i = q)) (hq : Blk w q 31 cs) : DocAt 61 69 63 w' B vr vz vl vd d := by
  obtain ⟨zv, h1, h2, h3⟩ := h.z
  have key : ∀ {X : Type} {b : Nat} {e : TypeId} {k : Nat} {f : X → List Value} {v : Value} {l : List X}, e ≠ 31 → Own w b e k f v l → Own w' b e k f v l := fun hne ho =>
    own_far ho hf fun i cs' _ hb e => by subst e; exact hne (blk_same hb hq)
  exact ⟨key (by decide) h.r, ⟨zv, h1, key (by decide) h2, fun x hx => ⟨key (by decide) (h3 x hx).e, key (by decide) (h3 x hx).l⟩⟩, key (by decide) h.l, key (by decide) h.g⟩
/-- the document at D holds the state s -/
def At (w : World) (D B : Nat) (s : StL) : Prop := D < B ∧ ∃ vr vz vl vd, Blk w D 31 #[vr, vz, vl, vd] ∧ GR w B vr vz vl vd s
theorem At.kept {w w' : World} {D B : Nat} {s : StL} (h : At w D B s) (hf : Fr w w' (fun _ => False)) : At w' D B s := by
  obtain ⟨h0, vr, vz, vl, vd, h1, h2⟩ := h
  exact ⟨h0, vr, vz, vl, vd, hf.blk h1 (fun h => h), h2.kept hf⟩
end R
end Go.Proofs.YtlfjknndkjgciaaGreatDoor
namespace Go.Mem
open Go.RowKit
section
variable {P : Program} {ops : Array Oper} {rest : List Oper} {a : Act} {w : World} {Q : Exit → Act → World → Prop}
/- the next operation's kind, seen at once ('with_reducible refine at_load T ?_' ahead of a law): a law that does not fit is not tried -/
theorem at_load {d : Option Tmp} {x : Operand} {ty : TypeId} {pos : String} {af : Array Edge} {g : Option (Nat × Bool)} (t : TypeId) (h : wpList P ops Q (⟨d, .load t x, ty, pos, af, g⟩ :: rest) a w) : wpList P ops Q (⟨d, .load t x, ty, pos, af, g⟩ :: rest) a w := h
theorem at_store {d : Option Tmp} {x y : Operand} {ty : TypeId} {pos : String} {af : Array Edge} {g : Option (Nat × Bool)} (t : TypeId) (h : wpList P ops Q (⟨d, .store t x y, ty, pos, af, g⟩ :: rest) a w) : wpList P ops Q (⟨d, .store t x y, ty, pos, af, g⟩ :: rest) a w := h
theorem at_slice {d : Option Tmp} {y : Operand} {ty : TypeId} {pos : String} {af : Array Edge} {g : Option (Nat × Bool)} (t : TypeId) (h : wpList P ops Q (⟨d, .buildSlice t 1 #[(0, y)], ty, pos, af, g⟩ :: rest) a w) : wpList P ops Q (⟨d, .buildSlice t 1 #[(0, y)], ty, pos, af, g⟩ :: rest) a w := h
theorem at_append {d : Option Tmp} {t : TypeId} {ty : TypeId} {pos : String} {af : Array Edge} {g : Option (Nat × Bool)} (s x : Operand) (h : wpList P ops Q (⟨d, .call { callee := .builtin .append, args := #[s, x], argTypes := #[t, t] }, ty, pos, af, g⟩ :: rest) a w) : wpList P ops Q (⟨d, .call { callee := .builtin .append, args := #[s, x], argTypes := #[t, t] }, ty, pos, af, g⟩ :: rest) a w := h
end
end Go.Mem
namespace Go.Proofs.YtlfjknndkjgciaaGreatDoor
open Go.RowKit Go.Mem Go.Lin Go.Dcm
/-- what is turned by x.f = append(x.f, y): the block of x, and rows of that type -/
def PB (D B : Nat) (e : TypeId) (w : World) (i : Nat) : Prop := i = D ∨ TB B e w i
section
variable {P : Program} {ops : Array Oper} {Q : Exit → Act → World → Prop} {md : Region.Mode} {S : World → Prop}
/-- x.f = append(x.f, y) in a region that draws its order: what is left of it once all that only reads is taken: the load of x.f, the slice of one element, append, the store -/
theorem wpAnyH_push {X : Type} {f : X → List Value} {l : List X} {fuel : Nat} {listed : Array Bool} {a : Act} {w : World} (i j k : Nat) (oi oj ok : Oper)
    (hi : ops[i]? = some oi) (hj : ops[j]? = some oj) (hk : ops[k]? = some ok)
    (hr0 : Region.ready md ops listed = [i, j]) (hr1 : Region.ready md ops (listed.setIfInBounds i true) = [j]) (hr2 : Region.ready md ops (listed.setIfInBounds j true) = [i])
    (hr3 : Region.ready md ops ((listed.setIfInBounds i true).setIfInBounds j true) = [k]) (hij : i ≠ j)
    (gi : oi.guard = none) (gj : oj.guard = none) (gk : ok.guard = none)
    {ts e : TypeId} {xi yj sk xk : Operand} {di dj : Nat}
    (ho : oi.op = .load ts xi) (hdi : oi.dst = some di) (hoj : oj.op = .buildSlice ts 1 #[(0, yj)]) (hdj : oj.dst = some dj) (hdd : di ≠ dj)
    (hok : ok.op = .call { callee := .builtin .append, args := #[sk, xk], argTypes := #[ts, ts] })
    (D J B : Nat) (t : TypeId) (C : Array Value) (n c : Nat) (A : Option Addr) (cs : Array Value) (v : Value) (x : X)
    (hD : D < B) (hb : Blk w D t C) (hC : C[J]? = some (.slice A n c)) (hn : n = l.length) (hxi : a.eval xi = .pointer (some ⟨D, J, none⟩)) (hxj : (a.put (some dj) (.slice (some ⟨w.heap.size, 0, none⟩) 1 1)).eval xi = .pointer (some ⟨D, J, none⟩))
    (hyj : a.eval yj = v) (hyi : (a.put (some di) (.slice A n c)).eval yj = v) (hrun : ∀ w, (Instr.buildSlice ts 1 #[(0, v)]).run P w = .ok (.slice (some ⟨w.heap.size, 0, none⟩) 1 1) (w.alloc (.cells cs e)))
    (hcs : cs.toList = f x) (h1 : cs.all (·.oneCell') = true)
    (hsk : ((a.put (some di) (.slice A n c)).put (some dj) (.slice (some ⟨w.heap.size, 0, none⟩) 1 1)).eval sk = .slice A n c)
    (hxk : ((a.put (some di) (.slice A n c)).put (some dj) (.slice (some ⟨w.heap.size, 0, none⟩) 1 1)).eval xk = .slice (some ⟨w.heap.size, 0, none⟩) 1 1)
    (z : Value) (size bytes : Nat) (ht : P.underlying ts = some (.slice e)) (hinf : (P.info? e).map (fun i => (i.zero, i.size, i.bytes)) = some (some z, size, bytes))
    (hzs : z.cells.size = size) (hsz : 0 < size) (hcz : cs.size = size) (hown : Own w B e size f (.slice A n c) l) (h63 : n ≤ 100000) (hby : bytes ≤ 1000) (hbase : B ≤ w.heap.size)
    (hS : ∀ W, Fr w W (TB B e w) → S W)
    (h : ∀ A9 c9 W, S W → Own W B e size f (.slice A9 (n + 1) c9) (l ++ [x]) → Blk W D t C → Fr w W (TB B e w) →
      wpAnyH P md ops Q S fuel (((listed.setIfInBounds i true).setIfInBounds j true).setIfInBounds k true) (((a.put (some di) (.slice A n c)).put (some dj) (.slice (some ⟨w.heap.size, 0, none⟩) 1 1)).put ok.dst (.slice A9 (n + 1) c9)) W) :
    wpAnyH P md ops Q S (fuel + 3) listed a w := by
  subst hn
  have hnew := Fr.new w (.cells cs e) (fun _ => False)
  have hp0 : Fr w w (TB B e w) := Fr.refl _ _
  have hpn : Fr w (w.alloc (.cells cs e)) (TB B e w) := hnew.mono (fun _ _ h => h.elim)
  have hw : ∀ (o : Oper) (y : Nat → Option Bool) (hg : o.guard = none), Region.wanted o y = true := fun o y hg => by simp only [Region.wanted, hg]
  have hui : ∀ (a : Act) (w : World) (K : Act → World → Prop), Blk w D t C → a.eval xi = .pointer (some ⟨D, J, none⟩) → K (a.put oi.dst (.slice A l.length c)) w → oi.wp P a w K Q := by
    intro a w K hb hx hK
    exact wp_load1 ho hx (blkc hb J _ hC) ht rfl hK
  -- what follows behind both
  have last : wpAnyH P md ops Q S (fuel + 1) ((listed.setIfInBounds i true).setIfInBounds j true) ((a.put (some di) (.slice A l.length c)).put (some dj) (.slice (some ⟨w.heap.size, 0, none⟩) 1 1)) (w.alloc (.cells cs e)) := by
    refine wpAnyH_ready hr3 (by simp) (AllReadyH.cons hk (fun K hK => ?_) AllReadyH.nil)
    rw [if_pos (hw _ _ gk)]
    obtain ⟨i0, hi0, hz0, hz1, hz2⟩ := info_parts hinf
    have hownA := hown.kept hnew
    have hbA := hnew.blk hb (fun h => h)
    have hx := rd_made w e cs
    rw [hcz] at hx
    have hbe : B ≤ (w.alloc (.cells cs e)).heap.size := Nat.le_trans hbase hnew.size
    refine wp_append_rd _ sk xk ts hok B e i0 z size bytes ht hi0 hz0 hz1 hz2 hzs hsz _ _ _ hsk hownA _ 1 1 cs.toList hxk hx (one_made h1) (by simp only [maxLen]; omega) ?_ hbe ?_
    · have : (l.length + 1) * bytes ≤ 100001 * 1000 := Nat.mul_le_mul (by omega) hby
      omega
    · intro v9 w9 hown9 hg9 _
      obtain ⟨A9, c9, rfl⟩ := Go.Mem.own_slice hown9
      have hf9 := tb_own hownA (Fr.ofGrown hg9)
      have hb9 : Blk w9 D t C := (Fr.ofGrown hg9).blk hbA (fun e => by have := (own_block hownA e.symm).1; omega)
      have hown9 := own_more (x := x) hown9 hcs
      have hend := tb_new hnew hf9
      exact hK.out _ _ (hS _ hend) (fun hs => h A9 c9 w9 hs hown9 hb9 hend)
  refine wpAnyH_ready hr0 (by simp) (AllReadyH.cons hi (fun K hK => ?_) (AllReadyH.cons hj (fun K hK => ?_) AllReadyH.nil))
  · rw [if_pos (hw _ _ gi)]
    refine hui a w K hb hxi (hK.out _ _ (hS _ hp0) (fun _ => ?_))
    refine wpAnyH_ready hr1 (by simp) (AllReadyH.cons hj (fun K2 hK2 => ?_) AllReadyH.nil)
    rw [if_pos (hw _ _ gj)]
    rw [hdi]
    refine wp_built hoj hyi hrun (hK2.out _ _ (hS _ hpn) (fun _ => ?_))
    rw [hdj]
    exact last
  · rw [if_pos (hw _ _ gj)]
    refine wp_built hoj hyj hrun (hK.out _ _ (hS _ hpn) (fun _ => ?_))
    refine wpAnyH_ready hr2 (by simp) (AllReadyH.cons hi (fun K2 hK2 => ?_) AllReadyH.nil)
    rw [if_pos (hw _ _ gi), hdj]
    refine hui _ _ K2 (hnew.blk hb (fun h => h)) hxj (hK2.out _ _ (hS _ hpn) (fun _ => ?_))
    rw [hdi, ← Act.put_comm a _ _ (by intro d hd e; injection hd with hd; injection e with e; omega), Array.setIfInBounds_comm _ _ hij.symm]
    exact last
/-- the last store of a region that draws its order: one cell of the block D -/
theorem wpAnyH_put {fuel : Nat} {listed : Array Bool} {a : Act} {w : World} (m : Nat) (om : Oper) (hm : ops[m]? = some om) (hr4 : Region.ready md ops listed = [m]) (hr5 : Region.ready md ops (listed.setIfInBounds m true) = []) (gm : om.guard = none)
    {ts : TypeId} {xm ym : Operand} (hom : om.op = .store ts xm ym) (hdm : om.dst = none) (D J : Nat) (t : TypeId) (C : Array Value) (v : Value) (hb : Blk w D t C) (hJ : J < C.size) (hxm : a.eval xm = .pointer (some ⟨D, J, none⟩)) (hym : a.eval ym = v) (h1 : v.oneCell' = true)
    (hits : (P.info? ts).map (·.size) = some 1) (hS : ∀ W, Fr w W (fun i => i = D) → S W) (h : ∀ W, Fr w W (fun i => i = D) → Blk W D t (C.setIfInBounds J v) → Q .normal a W) : wpAnyH P md ops Q S (fuel + 1) listed a w := by
  have hw : ∀ (o : Oper) (y : Nat → Option Bool) (hg : o.guard = none), Region.wanted o y = true := fun o y hg => by simp only [Region.wanted, hg]
  refine wpAnyH_ready hr4 (by simp) (AllReadyH.cons hm (fun K2 hK2 => ?_) AllReadyH.nil)
  rw [if_pos (hw _ _ gm)]
  refine wp_store1 hom hdm hxm hym hb hits h1 hJ ?_
  have hs9 := Fr.set (w := w) (a := ⟨D, J, none⟩) (v := v) (S := fun i => i = D) rfl
  exact hK2.out _ _ (hS _ hs9) (fun _ => wpAnyH_done hr5 (h _ hs9 (hb.put' J _ rfl)) _)
end
section
variable {P : Program} {ops : Array Oper} {Q : Exit → Act → World → Prop} {md : Region.Mode} {S : World → Prop}
/-- a struct is stored into a row: the world behind it is opaque -/
theorem wp_store_blk {o : Oper} {a : Act} {w : World} {K : Act → World → Prop} (ty : TypeId) (x y : Operand) (g off : Nat) (t : TypeId) (old cells new : Array Value) (ho : o.op = .store ty x y) (hd : o.dst = none) (hx : a.eval x = .pointer (some ⟨g, off, none⟩)) (hy : a.eval y = .agg cells)
    (hg : Blk w g t old) (hi : (P.info? ty).map (·.size) = some cells.size) (h1 : cells.all (·.oneCell') = true) (hfit : off + cells.size ≤ old.size) (hnew : setMany old off cells.toList = new)
    (h : ∀ W, Fr w W (fun i => i = g) → Blk W g t new → K a W) : o.wp P a w K Q := by
  have ht : w.there g off cells.size := fun j hj => ⟨by rw [cell_at hg, Array.getElem?_eq_getElem (by omega)]; rfl, free_at hg _⟩
  unfold Oper.wp execOp
  simp only [ho, hx, hy, run_storeAt_mid w g off ty cells ht hi h1, Sem.run_bind, Sem.run_pure, Result.andThen_ok]
  have := h _ (Fr.many cells.toList off w) (by have := Blk.many cells.toList off old w hg; rw [hnew] at this; exact this)
  simpa only [Oper.upon, hd, Act.put] using this
theorem wp_alloc1 {o : Oper} {a : Act} {w : World} {K : Act → World → Prop} {e : TypeId} {zs : Array Value} (ho : o.op = .alloc e) (hrun : ∀ w, (Instr.alloc e true (.tuple #[])).run P w = .ok (.pointer (some ⟨w.heap.size, 0, none⟩)) (w.alloc (.cells zs e)))
    (h : K (a.put o.dst (.pointer (some ⟨w.heap.size, 0, none⟩))) (w.alloc (.cells zs e))) : o.wp P a w K Q := by
  unfold Oper.wp execOp
  simp only [ho, hrun, Sem.run_bind, Sem.run_pure, Result.andThen_ok]
  exact h
/-- x, y := two structs, in a region that draws its order: what is left of it once all that only reads is taken: two variables are made, and stored into -/
theorem wpAnyH_pair {fuel : Nat} {listed : Array Bool} {a : Act} {w : World} (i j k m : Nat) (oi oj ok om : Oper)
    (hi : ops[i]? = some oi) (hj : ops[j]? = some oj) (hk : ops[k]? = some ok) (hm : ops[m]? = some om)
    (hr0 : Region.ready md ops listed = [i, j]) (hr1 : Region.ready md ops (listed.setIfInBounds i true) = [j]) (hr2 : Region.ready md ops (listed.setIfInBounds j true) = [i])
    (hr3 : Region.ready md ops ((listed.setIfInBounds i true).setIfInBounds j true) = [k]) (hr4 : Region.ready md ops (((listed.setIfInBounds i true).setIfInBounds j true).setIfInBounds k true) = [m])
    (hr5 : Region.ready md ops ((((listed.setIfInBounds i true).setIfInBounds j true).setIfInBounds k true).setIfInBounds m true) = []) (hij : i ≠ j)
    (gi : oi.guard = none) (gj : oj.guard = none) (gk : ok.guard = none) (gm : om.guard = none)
    {e : TypeId} {xk yk xm ym : Operand} {di dj : Nat}
    (hoi : oi.op = .alloc e) (hdi : oi.dst = some di) (hoj : oj.op = .alloc e) (hdj : oj.dst = some dj) (hdd : di ≠ dj)
    (hok : ok.op = .store e xk yk) (hdk : ok.dst = none) (hom : om.op = .store e xm ym) (hdm : om.dst = none)
    (zs cs ds : Array Value) (hrun : ∀ w, (Instr.alloc e true (.tuple #[])).run P w = .ok (.pointer (some ⟨w.heap.size, 0, none⟩)) (w.alloc (.cells zs e)))
    (hic : (P.info? e).map (·.size) = some cs.size) (hid : (P.info? e).map (·.size) = some ds.size) (hzc : zs.size = cs.size) (hzd : zs.size = ds.size) (h1c : cs.all (·.oneCell') = true) (h1d : ds.all (·.oneCell') = true)
    (hxk : ∀ p q, ((a.put (some di) (.pointer (some ⟨p, 0, none⟩))).put (some dj) (.pointer (some ⟨q, 0, none⟩))).eval xk = .pointer (some ⟨p, 0, none⟩))
    (hyk : ∀ p q, ((a.put (some di) (.pointer (some ⟨p, 0, none⟩))).put (some dj) (.pointer (some ⟨q, 0, none⟩))).eval yk = .agg cs)
    (hxm : ∀ p q, ((a.put (some di) (.pointer (some ⟨p, 0, none⟩))).put (some dj) (.pointer (some ⟨q, 0, none⟩))).eval xm = .pointer (some ⟨q, 0, none⟩))
    (hym : ∀ p q, ((a.put (some di) (.pointer (some ⟨p, 0, none⟩))).put (some dj) (.pointer (some ⟨q, 0, none⟩))).eval ym = .agg ds)
    (hS : ∀ W, Fr w W (fun _ => False) → S W)
    (h : ∀ p q W, p ≠ q → w.heap.size ≤ p → w.heap.size ≤ q → Blk W p e cs → Blk W q e ds → Fr w W (fun _ => False) → Q .normal ((a.put (some di) (.pointer (some ⟨p, 0, none⟩))).put (some dj) (.pointer (some ⟨q, 0, none⟩))) W) :
    wpAnyH P md ops Q S (fuel + 4) listed a w := by
  have hw : ∀ (o : Oper) (y : Nat → Option Bool) (hg : o.guard = none), Region.wanted o y = true := fun o y hg => by simp only [Region.wanted, hg]
  have n1 := Fr.new w (.cells zs e) (fun _ => False)
  have n2 := Fr.new (w.alloc (.cells zs e)) (.cells zs e) (fun _ => False)
  have s1 : (w.alloc (.cells zs e)).heap.size = w.heap.size + 1 := by simp
  have hf2 := n1.trans n2 (fun _ _ h => h) (fun _ _ h => h)
  have b1 : Blk ((w.alloc (.cells zs e)).alloc (.cells zs e)) w.heap.size e zs := n2.blk (Blk.made w e zs) (fun h => h)
  have b2 := Blk.made (w.alloc (.cells zs e)) e zs
  rw [s1] at b2
  have last : ∀ p q, p ≠ q → w.heap.size ≤ p → w.heap.size ≤ q → Blk ((w.alloc (.cells zs e)).alloc (.cells zs e)) p e zs → Blk ((w.alloc (.cells zs e)).alloc (.cells zs e)) q e zs →
      wpAnyH P md ops Q S (fuel + 2) ((listed.setIfInBounds i true).setIfInBounds j true) ((a.put (some di) (.pointer (some ⟨p, 0, none⟩))).put (some dj) (.pointer (some ⟨q, 0, none⟩))) ((w.alloc (.cells zs e)).alloc (.cells zs e)) := by
    intro p q hpq hp hq bp bq
    refine wpAnyH_ready hr3 (by simp) (AllReadyH.cons hk (fun K hK => ?_) AllReadyH.nil)
    rw [if_pos (hw _ _ gk)]
    refine wp_store_blk e xk yk p 0 e zs cs cs hok hdk (hxk p q) (hyk p q) bp hic h1c (by omega) (put_all hzc) ?_
    intro W3 f3 bp3
    have hf3 : Fr w W3 (fun _ => False) := hf2.fresh f3 (fun i e => by subst e; exact hp)
    have bq3 := f3.blk bq (Ne.symm hpq)
    refine hK.out _ _ (hS _ hf3) (fun _ => ?_)
    refine wpAnyH_ready hr4 (by simp) (AllReadyH.cons hm (fun K2 hK2 => ?_) AllReadyH.nil)
    rw [if_pos (hw _ _ gm)]
    refine wp_store_blk e xm ym q 0 e zs ds ds hom hdm (hxm p q) (hym p q) bq3 hid h1d (by omega) (put_all hzd) ?_
    intro W4 f4 bq4
    have hf4 : Fr w W4 (fun _ => False) := hf3.fresh f4 (fun i e => by subst e; exact hq)
    refine hK2.out _ _ (hS _ hf4) (fun _ => ?_)
    exact wpAnyH_done hr5 (h p q W4 hpq hp hq (f4.blk bp3 hpq) bq4 hf4) _
  refine wpAnyH_ready hr0 (by simp) (AllReadyH.cons hi (fun K hK => ?_) (AllReadyH.cons hj (fun K hK => ?_) AllReadyH.nil))
  · rw [if_pos (hw _ _ gi)]
    refine wp_alloc1 hoi hrun (hK.out _ _ (hS _ n1) (fun _ => ?_))
    refine wpAnyH_ready hr1 (by simp) (AllReadyH.cons hj (fun K2 hK2 => ?_) AllReadyH.nil)
    rw [if_pos (hw _ _ gj)]
    refine wp_alloc1 hoj hrun (hK2.out _ _ (hS _ hf2) (fun _ => ?_))
    rw [hdi, hdj, s1]
    exact last _ _ (by omega) (Nat.le_refl _) (by omega) b1 b2
  · rw [if_pos (hw _ _ gj)]
    refine wp_alloc1 hoj hrun (hK.out _ _ (hS _ n1) (fun _ => ?_))
    refine wpAnyH_ready hr2 (by simp) (AllReadyH.cons hi (fun K2 hK2 => ?_) AllReadyH.nil)
    rw [if_pos (hw _ _ gi)]
    refine wp_alloc1 hoi hrun (hK2.out _ _ (hS _ hf2) (fun _ => ?_))
    rw [hdi, hdj, s1, ← Act.put_comm a _ _ (by intro d hd e; injection hd with hd; injection e with e; omega), Array.setIfInBounds_comm _ _ hij.symm]
    exact last _ _ (by omega) (by omega) (Nat.le_refl _) b2 b1
end
end Go.Proofs.YtlfjknndkjgciaaGreatDoor
namespace Go.Proofs.YtlfjknndkjgciaaGreatDoor
open Go.RowKit Go.Mem Go.Lin Go.Dcm

theorem infoDiag1 : (Tryz.prog.info? 65).map (·.size) = some 4 := by kernel_rfl
theorem infoRR1 : (Tryz.prog.info? 61).map (·.size) = some 12 := by kernel_rfl
theorem infoRL1 : (Tryz.prog.info? 63).map (·.size) = some 3 := by kernel_rfl
theorem infoRZ1 : (Tryz.prog.info? 69).map (·.size) = some 3 := by kernel_rfl
theorem int_at {w : World} {A : Option Addr} {l : List Int} (h : Rd w 1 A l.length (l.flatMap intL)) {i : Nat} (hi : i < l.length) : ∃ b off, A = some ⟨b, off, none⟩ ∧ w.cell? ⟨b, off + i, none⟩ = some (intV l[i]) := int_cell h hi
set_option maxRecDepth 100000 in
set_option maxHeartbeats 1600000 in
theorem Diags_any (l : List DiagL) (A B : Option Addr) (ca cb : Nat) (w : World) (h1 : Rd w 4 A l.length (l.flatMap diagL)) (h2 : Rd w 4 B l.length (l.flatMap diagL)) (hm : l.length ≤ 1000000) : Calls Tryz.prog 22 #[.slice A l.length ca, .slice B l.length cb] w (TrueR w) := by
  have H1 := Lib.hid h1
  have H2 := Lib.hid h2
  clear h1 h2
  go_enter Tryz.func22, Tryz.ntmps22
  go_wp2_with fail
  go_loopg [5] l.length (fun k v5 wr => ∃ i : Nat, i + k = l.length ∧ v5 = intV (i : Int) ∧ Fr w wr (fun _ => False))
  case atStart => exact ⟨0, by simp, rfl, Fr.refl _ _⟩
  case round =>
    obtain ⟨i, hik, rfl, hf⟩ := hrel
    by_cases hlt : i < l.length
    · have hi1 : (i : Int) < (l.length : Int) := by omega
      obtain ⟨b1, o1, rfl, c1⟩ := elem_at diagL_len (Rd.fr H1.out hf (fun _ _ _ _ h => h)) hlt
      obtain ⟨b2, o2, rfl, c2⟩ := elem_at diagL_len (Rd.fr H2.out hf (fun _ _ _ _ h => h)) hlt
      obtain ⟨x, hx⟩ : ∃ x, l[i] = x := ⟨_, rfl⟩
      rw [hx] at c1 c2
      have HF := Lib.hid hf
      have C1 := Lib.hid c1
      have C2 := Lib.hid c2
      clear c1 c2
      clear hx hf
      go_wp2_with fail
      refine wp_region_held_drew (S := fun w' => Fr wr w' (fun _ => False)) (by kernel_rfl) (Fr.drew wr _) (fun hHeld => ?_)
      refine wpAnyH_take (i := 0) (v := ?_) rfl (by kernel_rfl) (by kernel_rfl) (by kernel_rfl) (fun _ _ _ h => h) (Or.inl ⟨by rfl, ?_⟩) (by assumption) ?_
      rotate_left
      · intro w' hSw
        skip
        go_simp
        try with_reducible rfl
      try simp only [Act.put, List.setIfInBounds_toArray, List.set_cons_zero, List.set_cons_succ, List.getElem_toArray, List.getElem_cons_zero]
      refine wpAnyH_take (i := 1) (v := ?_) rfl (by kernel_rfl) (by kernel_rfl) (by kernel_rfl) (fun _ _ _ h => h) (Or.inl ⟨by rfl, ?_⟩) (by assumption) ?_
      rotate_left
      · intro w' hSw
        skip
        go_simp
        try with_reducible rfl
      try simp only [Act.put, List.setIfInBounds_toArray, List.set_cons_zero, List.set_cons_succ, List.getElem_toArray, List.getElem_cons_succ, List.getElem_cons_zero]
      refine wpAnyH_take (i := 2) (v := ?_) rfl (by kernel_rfl) (by kernel_rfl) (by kernel_rfl) (fun _ _ _ h => h) (Or.inl ⟨by rfl, ?_⟩) (by assumption) ?_
      rotate_left
      · intro w' hSw
        skip
        go_simp
        try with_reducible rfl
      try simp only [Act.put, List.setIfInBounds_toArray, List.set_cons_zero, List.set_cons_succ, List.getElem_toArray, List.getElem_cons_succ, List.getElem_cons_zero]
      refine wpAnyH_take (i := 3) (v := _) rfl (by kernel_rfl) (by kernel_rfl) (by kernel_rfl) (fun _ _ _ h => h) (yields_at 65 _ b1 (o1 + i * 4) (diagL x).toArray _ (by rfl) rfl (by rfl) (fun w' h => cells_far h C1.out (Nat.le_refl _) (fun h => h)) Tryz.underlying65 rfl infoDiag1) (by assumption) ?_
      try simp only [Act.put, List.setIfInBounds_toArray, List.set_cons_zero, List.set_cons_succ, List.getElem_toArray, List.getElem_cons_succ, List.getElem_cons_zero]
      refine wpAnyH_take (i := 4) (v := ?_) rfl (by kernel_rfl) (by kernel_rfl) (by kernel_rfl) (fun _ _ _ h => h) (Or.inl ⟨by rfl, ?_⟩) (by assumption) ?_
      rotate_left
      · intro w' hSw
        skip
        go_simp
        try with_reducible rfl
      try simp only [Act.put, List.setIfInBounds_toArray, List.set_cons_zero, List.set_cons_succ, List.getElem_toArray, List.getElem_cons_succ, List.getElem_cons_zero]
      refine wpAnyH_take (i := 5) (v := ?_) rfl (by kernel_rfl) (by kernel_rfl) (by kernel_rfl) (fun _ _ _ h => h) (Or.inl ⟨by rfl, ?_⟩) (by assumption) ?_
      rotate_left
      · intro w' hSw
        skip
        go_simp
        try with_reducible rfl
      try simp only [Act.put, List.setIfInBounds_toArray, List.set_cons_zero, List.set_cons_succ, List.getElem_toArray, List.getElem_cons_succ, List.getElem_cons_zero]
      refine wpAnyH_take (i := 6) (v := ?_) rfl (by kernel_rfl) (by kernel_rfl) (by kernel_rfl) (fun _ _ _ h => h) (Or.inl ⟨by rfl, ?_⟩) (by assumption) ?_
      rotate_left
      · intro w' hSw
        skip
        go_simp
        try with_reducible rfl
      try simp only [Act.put, List.setIfInBounds_toArray, List.set_cons_zero, List.set_cons_succ, List.getElem_toArray, List.getElem_cons_succ, List.getElem_cons_zero]
      refine wpAnyH_take (i := 7) (v := _) rfl (by kernel_rfl) (by kernel_rfl) (by kernel_rfl) (fun _ _ _ h => h) (yields_at 65 _ b2 (o2 + i * 4) (diagL x).toArray _ (by rfl) rfl (by rfl) (fun w' h => cells_far h C2.out (Nat.le_refl _) (fun h => h)) Tryz.underlying65 rfl infoDiag1) (by assumption) ?_
      try simp only [Act.put, List.setIfInBounds_toArray, List.set_cons_zero, List.set_cons_succ, List.getElem_toArray, List.getElem_cons_succ, List.getElem_cons_zero]
      refine wpAnyH_take (i := 8) (v := _) rfl (by kernel_rfl) (by kernel_rfl) (by kernel_rfl) (fun _ _ _ h => h) (yields_neq (by rfl) rfl (by rfl) (by rfl) (guard_diag _ _ _ _) (same_diag x)) (by assumption) ?_
      try simp only [Act.put, List.setIfInBounds_toArray, List.set_cons_zero, List.set_cons_succ, List.getElem_toArray, List.getElem_cons_succ, List.getElem_cons_zero]
      refine wpAnyH_done (by kernel_rfl) ?_ _
      clear hHeld
      have HD := Lib.hid (ff0 HF.out (Fr.drew wr (fun _ => False)))
      go_wp2_with fail
      go_roundg (l.length - (i + 1))
      case measure => omega
      case rel => exact ⟨i + 1, by omega, by go_num, HD.out⟩
    · obtain rfl : i = l.length := by omega
      have hi1 : (l.length : Int) ≤ (l.length : Int) := Int.le_refl _
      have HF := Lib.hid hf
      clear hf
      go_wp2_with fail
      go_ret
      exact ⟨rfl, HF.out⟩
set_option maxRecDepth 100000 in
set_option maxHeartbeats 1600000 in
theorem Eras_any (l : List EraL) (A B : Option Addr) (ca cb : Nat) (w : World) (h1 : Rd w 13 A l.length (l.flatMap eraL)) (h2 : Rd w 13 B l.length (l.flatMap eraL)) (hm : l.length ≤ 1000000) : Calls Tryz.prog 23 #[.slice A l.length ca, .slice B l.length cb] w (TrueR w) := by
  have H1 := Lib.hid h1
  have H2 := Lib.hid h2
  clear h1 h2
  go_enter Tryz.func23, Tryz.ntmps23
  go_wp2_with fail
  go_loopg [5] l.length (fun k v5 wr => ∃ i : Nat, i + k = l.length ∧ v5 = intV (i : Int) ∧ Fr w wr (fun _ => False))
  case atStart => exact ⟨0, by simp, rfl, Fr.refl _ _⟩
  case round =>
    obtain ⟨i, hik, rfl, hf⟩ := hrel
    by_cases hlt : i < l.length
    · have hi1 : (i : Int) < (l.length : Int) := by omega
      obtain ⟨b1, o1, rfl, c1⟩ := elem_at eraL_len (Rd.fr H1.out hf (fun _ _ _ _ h => h)) hlt
      obtain ⟨b2, o2, rfl, c2⟩ := elem_at eraL_len (Rd.fr H2.out hf (fun _ _ _ _ h => h)) hlt
      obtain ⟨x, hx⟩ : ∃ x, l[i] = x := ⟨_, rfl⟩
      rw [hx] at c1 c2
      have HF := Lib.hid hf
      have C1 := Lib.hid c1
      have C2 := Lib.hid c2
      clear c1 c2
      clear hx hf
      go_wp2_with fail
      refine wp_region_held_drew (S := fun w' => Fr wr w' (fun _ => False)) (by kernel_rfl) (Fr.drew wr _) (fun hHeld => ?_)
      refine wpAnyH_take (i := 0) (v := ?_) rfl (by kernel_rfl) (by kernel_rfl) (by kernel_rfl) (fun _ _ _ h => h) (Or.inl ⟨by rfl, ?_⟩) (by assumption) ?_
      rotate_left
      · intro w' hSw
        skip
        go_simp
        try with_reducible rfl
      try simp only [Act.put, List.setIfInBounds_toArray, List.set_cons_zero, List.set_cons_succ, List.getElem_toArray, List.getElem_cons_zero]
      refine wpAnyH_take (i := 1) (v := ?_) rfl (by kernel_rfl) (by kernel_rfl) (by kernel_rfl) (fun _ _ _ h => h) (Or.inl ⟨by rfl, ?_⟩) (by assumption) ?_
      rotate_left
      · intro w' hSw
        skip
        go_simp
        try with_reducible rfl
      try simp only [Act.put, List.setIfInBounds_toArray, List.set_cons_zero, List.set_cons_succ, List.getElem_toArray, List.getElem_cons_succ, List.getElem_cons_zero]
      refine wpAnyH_take (i := 2) (v := ?_) rfl (by kernel_rfl) (by kernel_rfl) (by kernel_rfl) (fun _ _ _ h => h) (Or.inl ⟨by rfl, ?_⟩) (by assumption) ?_
      rotate_left
      · intro w' hSw
        skip
        go_simp
        try with_reducible rfl
      try simp only [Act.put, List.setIfInBounds_toArray, List.set_cons_zero, List.set_cons_succ, List.getElem_toArray, List.getElem_cons_succ, List.getElem_cons_zero]
      refine wpAnyH_take (i := 3) (v := _) rfl (by kernel_rfl) (by kernel_rfl) (by kernel_rfl) (fun _ _ _ h => h) (yields_at 55 _ b1 (o1 + i * 13) (eraL x).toArray _ (by rfl) rfl (by rfl) (fun w' h => cells_far h C1.out (Nat.le_refl _) (fun h => h)) Tryz.underlying55 rfl (show _ = some 13 by kernel_rfl)) (by assumption) ?_
      try simp only [Act.put, List.setIfInBounds_toArray, List.set_cons_zero, List.set_cons_succ, List.getElem_toArray, List.getElem_cons_succ, List.getElem_cons_zero]
      refine wpAnyH_take (i := 4) (v := ?_) rfl (by kernel_rfl) (by kernel_rfl) (by kernel_rfl) (fun _ _ _ h => h) (Or.inl ⟨by rfl, ?_⟩) (by assumption) ?_
      rotate_left
      · intro w' hSw
        skip
        go_simp
        try with_reducible rfl
      try simp only [Act.put, List.setIfInBounds_toArray, List.set_cons_zero, List.set_cons_succ, List.getElem_toArray, List.getElem_cons_succ, List.getElem_cons_zero]
      refine wpAnyH_take (i := 5) (v := ?_) rfl (by kernel_rfl) (by kernel_rfl) (by kernel_rfl) (fun _ _ _ h => h) (Or.inl ⟨by rfl, ?_⟩) (by assumption) ?_
      rotate_left
      · intro w' hSw
        skip
        go_simp
        try with_reducible rfl
      try simp only [Act.put, List.setIfInBounds_toArray, List.set_cons_zero, List.set_cons_succ, List.getElem_toArray, List.getElem_cons_succ, List.getElem_cons_zero]
      refine wpAnyH_take (i := 6) (v := ?_) rfl (by kernel_rfl) (by kernel_rfl) (by kernel_rfl) (fun _ _ _ h => h) (Or.inl ⟨by rfl, ?_⟩) (by assumption) ?_
      rotate_left
      · intro w' hSw
        skip
        go_simp
        try with_reducible rfl
      try simp only [Act.put, List.setIfInBounds_toArray, List.set_cons_zero, List.set_cons_succ, List.getElem_toArray, List.getElem_cons_succ, List.getElem_cons_zero]
      refine wpAnyH_take (i := 7) (v := _) rfl (by kernel_rfl) (by kernel_rfl) (by kernel_rfl) (fun _ _ _ h => h) (yields_at 55 _ b2 (o2 + i * 13) (eraL x).toArray _ (by rfl) rfl (by rfl) (fun w' h => cells_far h C2.out (Nat.le_refl _) (fun h => h)) Tryz.underlying55 rfl (show _ = some 13 by kernel_rfl)) (by assumption) ?_
      try simp only [Act.put, List.setIfInBounds_toArray, List.set_cons_zero, List.set_cons_succ, List.getElem_toArray, List.getElem_cons_succ, List.getElem_cons_zero]
      refine wpAnyH_take (i := 8) (v := _) rfl (by kernel_rfl) (by kernel_rfl) (by kernel_rfl) (fun _ _ _ h => h) (yields_neq (by rfl) rfl (by rfl) (by rfl) (guard_era _ _ _ _) (show ∀ w, (binOp .neq 55 (.agg (eraL x).toArray) (.agg (eraL x).toArray)).run Tryz.prog w = .ok (.bool false) w from same_era x)) (by assumption) ?_
      try simp only [Act.put, List.setIfInBounds_toArray, List.set_cons_zero, List.set_cons_succ, List.getElem_toArray, List.getElem_cons_succ, List.getElem_cons_zero]
      refine wpAnyH_done (by kernel_rfl) ?_ _
      clear hHeld
      have HD := Lib.hid (ff0 HF.out (Fr.drew wr (fun _ => False)))
      go_wp2_with fail
      go_roundg (l.length - (i + 1))
      case measure => omega
      case rel => exact ⟨i + 1, by omega, by go_num, HD.out⟩
    · obtain rfl : i = l.length := by omega
      have hi1 : (l.length : Int) ≤ (l.length : Int) := Int.le_refl _
      have HF := Lib.hid hf
      clear hf
      go_wp2_with fail
      go_ret
      exact ⟨rfl, HF.out⟩
set_option maxRecDepth 100000 in
set_option maxHeartbeats 1600000 in
theorem Ints_any (l : List Int) (A B : Option Addr) (ca cb : Nat) (w : World) (h1 : Rd w 1 A l.length (l.flatMap intL)) (h2 : Rd w 1 B l.length (l.flatMap intL)) (hm : l.length ≤ 1000000) : Calls Tryz.prog 24 #[.slice A l.length ca, .slice B l.length cb] w (TrueR w) := by
  have H1 := Lib.hid h1
  have H2 := Lib.hid h2
  clear h1 h2
  go_enter Tryz.func24, Tryz.ntmps24
  go_wp2_with fail
  go_loopg [5] l.length (fun k v5 wr => ∃ i : Nat, i + k = l.length ∧ v5 = intV (i : Int) ∧ Fr w wr (fun _ => False))
  case atStart => exact ⟨0, by simp, rfl, Fr.refl _ _⟩
  case round =>
    obtain ⟨i, hik, rfl, hf⟩ := hrel
    by_cases hlt : i < l.length
    · have hi1 : (i : Int) < (l.length : Int) := by omega
      obtain ⟨b1, o1, rfl, c1⟩ := int_at (Rd.fr H1.out hf (fun _ _ _ _ h => h)) hlt
      obtain ⟨b2, o2, rfl, c2⟩ := int_at (Rd.fr H2.out hf (fun _ _ _ _ h => h)) hlt
      obtain ⟨x, hx⟩ : ∃ x, l[i] = x := ⟨_, rfl⟩
      rw [hx] at c1 c2
      have HF := Lib.hid hf
      clear hx hf
      go_wp2_with fail
      refine wp_region_held_drew (S := fun w' => Fr wr w' (fun _ => False)) (by kernel_rfl) (Fr.drew wr _) (fun hHeld => ?_)
      refine wpAnyH_take (i := 0) (v := ?_) rfl (by kernel_rfl) (by kernel_rfl) (by kernel_rfl) (fun _ _ _ h => h) (Or.inl ⟨by rfl, ?_⟩) (by assumption) ?_
      rotate_left
      · intro w' hSw
        skip
        go_simp
        try with_reducible rfl
      try simp only [Act.put, List.setIfInBounds_toArray, List.set_cons_zero, List.set_cons_succ, List.getElem_toArray, List.getElem_cons_zero]
      refine wpAnyH_take (i := 1) (v := ?_) rfl (by kernel_rfl) (by kernel_rfl) (by kernel_rfl) (fun _ _ _ h => h) (Or.inl ⟨by rfl, ?_⟩) (by assumption) ?_
      rotate_left
      · intro w' hSw
        skip
        go_simp
        try with_reducible rfl
      try simp only [Act.put, List.setIfInBounds_toArray, List.set_cons_zero, List.set_cons_succ, List.getElem_toArray, List.getElem_cons_succ, List.getElem_cons_zero]
      refine wpAnyH_take (i := 2) (v := ?_) rfl (by kernel_rfl) (by kernel_rfl) (by kernel_rfl) (fun _ _ _ h => h) (Or.inl ⟨by rfl, ?_⟩) (by assumption) ?_
      rotate_left
      · intro w' hSw
        skip
        go_simp
        try with_reducible rfl
      try simp only [Act.put, List.setIfInBounds_toArray, List.set_cons_zero, List.set_cons_succ, List.getElem_toArray, List.getElem_cons_succ, List.getElem_cons_zero]
      refine wpAnyH_take (i := 3) (v := ?_) rfl (by kernel_rfl) (by kernel_rfl) (by kernel_rfl) (fun _ _ _ h => h) (Or.inl ⟨by rfl, ?_⟩) (by assumption) ?_
      rotate_left
      · intro w' hSw
        have k1 := cell_far hSw c1 (fun h => h)
        go_simp
        try with_reducible rfl
      try simp only [Act.put, List.setIfInBounds_toArray, List.set_cons_zero, List.set_cons_succ, List.getElem_toArray, List.getElem_cons_succ, List.getElem_cons_zero]
      refine wpAnyH_take (i := 4) (v := ?_) rfl (by kernel_rfl) (by kernel_rfl) (by kernel_rfl) (fun _ _ _ h => h) (Or.inl ⟨by rfl, ?_⟩) (by assumption) ?_
      rotate_left
      · intro w' hSw
        skip
        go_simp
        try with_reducible rfl
      try simp only [Act.put, List.setIfInBounds_toArray, List.set_cons_zero, List.set_cons_succ, List.getElem_toArray, List.getElem_cons_succ, List.getElem_cons_zero]
      refine wpAnyH_take (i := 5) (v := ?_) rfl (by kernel_rfl) (by kernel_rfl) (by kernel_rfl) (fun _ _ _ h => h) (Or.inl ⟨by rfl, ?_⟩) (by assumption) ?_
      rotate_left
      · intro w' hSw
        skip
        go_simp
        try with_reducible rfl
      try simp only [Act.put, List.setIfInBounds_toArray, List.set_cons_zero, List.set_cons_succ, List.getElem_toArray, List.getElem_cons_succ, List.getElem_cons_zero]
      refine wpAnyH_take (i := 6) (v := ?_) rfl (by kernel_rfl) (by kernel_rfl) (by kernel_rfl) (fun _ _ _ h => h) (Or.inl ⟨by rfl, ?_⟩) (by assumption) ?_
      rotate_left
      · intro w' hSw
        skip
        go_simp
        try with_reducible rfl
      try simp only [Act.put, List.setIfInBounds_toArray, List.set_cons_zero, List.set_cons_succ, List.getElem_toArray, List.getElem_cons_succ, List.getElem_cons_zero]
      refine wpAnyH_take (i := 7) (v := ?_) rfl (by kernel_rfl) (by kernel_rfl) (by kernel_rfl) (fun _ _ _ h => h) (Or.inl ⟨by rfl, ?_⟩) (by assumption) ?_
      rotate_left
      · intro w' hSw
        have k2 := cell_far hSw c2 (fun h => h)
        go_simp
        try with_reducible rfl
      try simp only [Act.put, List.setIfInBounds_toArray, List.set_cons_zero, List.set_cons_succ, List.getElem_toArray, List.getElem_cons_succ, List.getElem_cons_zero]
      refine wpAnyH_take (i := 8) (v := ?_) rfl (by kernel_rfl) (by kernel_rfl) (by kernel_rfl) (fun _ _ _ h => h) (Or.inl ⟨by rfl, ?_⟩) (by assumption) ?_
      rotate_left
      · intro w' hSw
        skip
        go_simp
        try with_reducible rfl
      try simp only [Act.put, List.setIfInBounds_toArray, List.set_cons_zero, List.set_cons_succ, List.getElem_toArray, List.getElem_cons_succ, List.getElem_cons_zero]
      refine wpAnyH_done (by kernel_rfl) ?_ _
      clear hHeld
      have HD := Lib.hid (ff0 HF.out (Fr.drew wr (fun _ => False)))
      go_wp2_with fail
      go_roundg (l.length - (i + 1))
      case measure => omega
      case rel => exact ⟨i + 1, by omega, by go_num, HD.out⟩
    · obtain rfl : i = l.length := by omega
      have hi1 : (l.length : Int) ≤ (l.length : Int) := Int.le_refl _
      have HF := Lib.hid hf
      clear hf
      go_wp2_with fail
      go_ret
      exact ⟨rfl, HF.out⟩
end Go.Proofs.YtlfjknndkjgciaaGreatDoor
namespace Go.Proofs.YtlfjknndkjgciaaGreatDoor
open Go.RowKit Go.Mem Go.Lin Go.Dcm

theorem rule_part (r : RuleL × Int) : ∀ j, j < (ruleC r.1).size → (ruleL r)[j]? = (ruleC r.1)[j]? := by
  intro j hj
  unfold ruleL
  rw [List.getElem?_append_left (by simpa using hj)]
  simp
theorem doc_d {tr tz tl : TypeId} {w : World} {B : Nat} {d : DocL} {vr vz vl : Value} {Ad : Option Addr} {n cd : Nat} (h : DocAt tr tz tl w B vr vz vl (.slice Ad n cd) d) : Rd w 4 Ad d.diags.length (d.diags.flatMap diagL) := by
  obtain ⟨A, c, e, -, -, hr⟩ := h.g.rd
  injection e with e
  subst e
  exact hr
theorem doc_r {tr tz tl : TypeId} {w : World} {B : Nat} {d : DocL} {vd vz vl : Value} {Ad : Option Addr} {n cd : Nat} (h : DocAt tr tz tl w B (.slice Ad n cd) vz vl vd d) : Rd w 12 Ad d.rules.length (d.rules.flatMap ruleL) := by
  obtain ⟨A, c, e, -, -, hr⟩ := h.r.rd
  injection e with e
  subst e
  exact hr
theorem num_range : ∀ (l : List LineL) (i : Int) (p : Int × LineL), p ∈ num i l → i ≤ p.1 ∧ p.1 < i + l.length
  | [], _, _, h => by simp [num] at h
  | x :: l, i, p, h => by
    rcases List.mem_cons.1 h with h | h
    · rw [h]; simp only [List.length_cons]; constructor <;> omega
    · have := num_range l (i + 1) p h
      simp only [List.length_cons]
      omega
/-- what is known once both texts are parsed -/
structure J2 (w W : World) (p q : Nat) (da db : DocL) (ar az al ad br bz bl bd : Value) : Prop where
  a : DVar 72 71 78 37 W p da ar az al ad
  b : DVar 72 71 78 37 W q db br bz bl bd
  f : Fr w W (fun _ => False)
theorem J2.kept {w W W' : World} {p q : Nat} {da db : DocL} {ar az al ad br bz bl bd : Value} (h : J2 w W p q da db ar az al ad br bz bl bd) (hf : Fr W W' (fun _ => False)) : J2 w W' p q da db ar az al ad br bz bl bd := ⟨h.a.kept hf, h.b.kept hf, ff0 h.f hf⟩
end Go.Proofs.YtlfjknndkjgciaaGreatDoor
