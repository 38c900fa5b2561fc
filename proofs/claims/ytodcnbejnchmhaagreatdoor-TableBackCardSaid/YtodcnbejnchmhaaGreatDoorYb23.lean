import Derived.Test.YtodcnbejnchmhaaGreatDoorYb22
import Derived.BigQuiet
import Derived.Deep.QuietTactic
namespace Go.Proofs.YtodcnbejnchmhaaGreatDoor
open Go.RowKit Go.Mem Go.Lin Go.Dcm

theorem last_any (w : World) (g m cap bz : Nat) (C : Array Value) (hb : Blk w g 128 C) (h1 : C[1]? = some (.slice (some ⟨bz, 0, none⟩) (m + 1) cap)) (hm : m ≤ 100000) :
    Calls Tryz.prog 101 #[gP g] w fun e w' => e = .returned (.pointer (some ⟨bz, m * 3, none⟩)) ∧ Fr w w' (fun _ => False) := by
  have c1 := blkc hb 1 _ h1
  clear hb h1
  go_enter Tryz.func101, Tryz.ntmps101
  go_wp2_with fail
  go_quiet (fail)
  go_wp2_with fail
  go_ret
  exact ⟨rfl, Fr.drewN _ _ _⟩
/-- a row in its block -/
theorem own_blk {X : Type} {w : World} {B : Nat} {e : TypeId} {k : Nat} {f : X → List Value} {b n cap : Nat} {l : List X} (h : Own w B e k f (.slice (some ⟨b, 0, none⟩) n cap) l) (_hn : n = l.length) : ∃ cs : Array Value, B ≤ b ∧ Blk w b e cs ∧ l.length * k ≤ cs.size ∧ ∀ (j : Nat) (u : Value), (l.flatMap f)[j]? = some u → cs[j]? = some u := by
  rcases h.2 with ⟨h', _⟩ | ⟨g', cap', cur, h', hb, hg, hnc, hcm, hcs, ht⟩
  · simp at h'
  · injection h' with h1 h2 h3
    injection h1 with h1
    injection h1 with h1
    subst h1 h3
    refine ⟨cur, hb, hg, by rw [hcs]; exact Nat.mul_le_mul_right _ hnc, fun j u hu => ?_⟩
    rw [← ht, List.getElem?_take] at hu
    split at hu
    · simpa using hu
    · cases hu
theorem zrow_len (a : List ZV) : (a.flatMap zoneL).length = a.length * 3 := flat_len zoneL 3 zoneL_len a
/-- a zone's row of eras, or of lines, is turned -/
theorem zrow_put {w : World} {B bz n cap : Nat} {a : List ZV} {y z : ZV} {v : Value} (j : Nat) (h : Own w B 101 3 zoneL (.slice (some ⟨bz, 0, none⟩) n cap) (a ++ [y])) (hn : n = (a ++ [y]).length) (hj : (zoneL y).set j v = zoneL z) : Own (w.setCell ⟨bz, a.length * 3 + j, none⟩ v) B 101 3 zoneL (.slice (some ⟨bz, 0, none⟩) n cap) (a ++ [z]) := by
  subst hn
  have h1 := (World.ownsRow.stored h (a.length * 3 + j) v).1
  have e : ((a ++ [y]).flatMap zoneL).set (a.length * 3 + j) v = (a ++ [z]).flatMap zoneL := by
    rw [List.flatMap_append, List.flatMap_append, ← zrow_len, List.set_append_right _ _ (Nat.le_add_right _ _), Nat.add_sub_cancel_left]
    rw [show [y].flatMap zoneL = zoneL y by simp, show [z].flatMap zoneL = zoneL z by simp, hj]
  rw [e] at h1
  show World.ownsRow _ _ _ _ _ (a ++ [z]).length _
  simpa using h1
theorem zat_under {w w' : World} {S : Nat → Prop} {B M : Nat} {y : ZV} (h : ZAt w B y) (hu : Under M y) (hf : Fr w w' S) (hs : ∀ k, S k → M ≤ k) : ZAt w' B y :=
  ⟨h.e.fr hf fun k hk hx => by have := hu.1 k hk; have := hs k hx; omega, h.l.fr hf fun k hk hx => by have := hu.2 k hk; have := hs k hx; omega⟩
theorem zat_far {w w' : World} {B B' : Nat} {e : TypeId} {y : ZV} (h : ZAt w B' y) (hf : Fr w w' (TB B e w)) (h1 : 69 ≠ e) (h2 : 3 ≠ e) : ZAt w' B' y := ⟨far_tb h.e hf h1, far_tb h.l hf h2⟩
theorem tb_set {w : World} {B b j : Nat} {e : TypeId} {cs : Array Value} {v : Value} (hb : Blk w b e cs) (hB : B ≤ b) : Fr w (w.setCell ⟨b, j, none⟩ v) (TB B e w) := Fr.set (S := TB B e w) ⟨hB, cs, hb⟩
theorem info_es : (Tryz.prog.info? 92).map (·.size) = some 1 := by kernel_rfl
theorem info_is : (Tryz.prog.info? 93).map (·.size) = some 1 := by kernel_rfl
theorem zs_again {w : World} {B M : Nat} {v : Value} {a : List ZV} {z : ZV} (hoz : Own w B 101 3 zoneL v (a ++ [z])) (ha : ∀ y ∈ a, ZAt w B y) (hu : ∀ y ∈ a, Under M y) (hz : ZAt w M z) (hB : B ≤ M) (hM : M ≤ w.heap.size) : ZsAt w B v (a.map (·.1) ++ [z.1]) := by
  refine ⟨a ++ [z], M, by simp, hoz, fun y hy => ?_, hB, hM, fun b y e => ?_⟩
  · rcases List.mem_append.1 hy with hy | hy
    · exact ha y hy
    · have hy : y = z := by simpa using hy
      subst hy
      exact ⟨own_base hz.e hB, own_base hz.l hB⟩
  · obtain ⟨rfl, e2⟩ := List.append_inj' e rfl
    have e2 : z = y := by simpa using e2
    subst e2
    exact ⟨hz, hu⟩
set_option maxRecDepth 100000 in
set_option maxHeartbeats 3200000 in
theorem gera_none (w : World) (g B : Nat) (i : Int) (s : StL) (h : GAt w g B i s) (hs : size s ≤ 100000) (x : LineL) (ho : s.opn = false) : Calls Tryz.prog 97 #[gP g, lineV x] w (GPost w g B i (tell s i 0 10)) := by
  have hn := Fr.new w (.cells (lineC x) 71) (fun _ => False)
  obtain ⟨vr, vz, vl, vd, hb, hr⟩ := (h.kept hn).open_
  have hd := (size_parts hs).2.2.2
  have c5 := blkc hb 5 _ rfl
  have c4 := blkc hb 4 _ rfl
  rw [ho] at c5
  have HT := Lib.hid (tell_any _ g B i s (h.kept hn) hd i 0 10)
  have HN := Lib.hid (gx_none (g := g) (B := B) hn)
  clear h hn hb hr hd
  go_enter Tryz.func97, Tryz.ntmps97
  go_wp2_with fail
  refine HT.out.mono ?_
  rintro e w2 ⟨rfl, hg2, hf2⟩
  have HG := Lib.hid hg2
  have HF := Lib.hid hf2
  clear hg2 hf2
  go_wp2_with fail
  go_end0
  exact ⟨rfl, HG.out, gx_trans HN.out HF.out⟩
/-- what is known where an era is told of an open zone -/
structure OpenZ (w : World) (B M bz cap : Nat) (a : List ZV) (y : ZV) (vr vl vd : Value) (s : StL) : Prop where
  oz : Own w B 101 3 zoneL (.slice (some ⟨bz, 0, none⟩) (a.length + 1) cap) (a ++ [y])
  ha : ∀ z ∈ a, ZAt w B z
  hu : ∀ z ∈ a, Under M z
  hy : ZAt w M y
  hB : B ≤ M
  hM : M ≤ w.heap.size
  r : Own w B 100 12 ruleL vr s.rules
  l : Own w B 102 3 linkL vl s.links
  d : Own w B 125 4 diagL vd s.diags
theorem OpenZ.kept {w w' : World} {B M bz cap : Nat} {a : List ZV} {y : ZV} {vr vl vd : Value} {s : StL} (h : OpenZ w B M bz cap a y vr vl vd s) (hf : Fr w w' (fun _ => False)) : OpenZ w' B M bz cap a y vr vl vd s :=
  ⟨h.oz.kept hf, fun z hz => (h.ha z hz).kept hf, h.hu, h.hy.kept hf, h.hB, Nat.le_trans h.hM hf.size, h.r.kept hf, h.l.kept hf, h.d.kept hf⟩
theorem OpenZ.g {w w' : World} {B M bz cap : Nat} {a : List ZV} {y : ZV} {vr vl vd : Value} {s : StL} {g : Nat} (h : OpenZ w B M bz cap a y vr vl vd s) (hf : Fr w w' (fun i => i = g)) (hg : g < B) : OpenZ w' B M bz cap a y vr vl vd s :=
  ⟨far_g h.oz hf hg, fun z hz => ⟨far_g (h.ha z hz).e hf hg, far_g (h.ha z hz).l hf hg⟩, h.hu, ⟨far_g h.hy.e hf (Nat.lt_of_lt_of_le hg h.hB), far_g h.hy.l hf (Nat.lt_of_lt_of_le hg h.hB)⟩, h.hB, Nat.le_trans h.hM hf.size, far_g h.r hf hg, far_g h.l hf hg, far_g h.d hf hg⟩
theorem open_z {w : World} {B : Nat} {vr vz vl vd : Value} {s : StL} {z : ZoneL} (h : GR w B vr vz vl vd s) (hc : s.cur = some z) : ∃ M bz cap a y, vz = .slice (some ⟨bz, 0, none⟩) (a.length + 1) cap ∧ y.1 = z ∧ a.map (·.1) = s.done ∧ OpenZ w B M bz cap a y vr vl vd s := by
  obtain ⟨zv, M, e1, h1, h2, h3, h4, h5⟩ := h.z
  have e2 : s.zones = s.done ++ [z] := by unfold StL.zones; rw [hc]; rfl
  rw [e2] at e1
  obtain ⟨a, y, rfl, ea, ey⟩ : ∃ a y, zv = a ++ [y] ∧ a.map (·.1) = s.done ∧ y.1 = z := by
    rcases List.eq_nil_or_concat zv with rfl | ⟨a, y, rfl⟩
    · simp at e1
    · simp only [List.concat_eq_append, List.map_append] at e1
      obtain ⟨e3, e4⟩ := List.append_inj' e1 rfl
      exact ⟨a, y, List.concat_eq_append, e3, by simpa using e4⟩
  obtain ⟨k1, k2⟩ := h5 a y rfl
  obtain ⟨A, c, rfl, -, -, -, hA, hA2⟩ := own_rd h1
  cases A with
  | none => exact absurd (hA rfl).1 (by simp)
  | some A =>
    obtain ⟨bz, rfl, -⟩ := hA2 A rfl
    exact ⟨M, bz, c, a, y, by simp, ey, ea, by simpa using h1, fun z hz => h2 z (by simp [hz]), k2, k1, h3, h4, h.r, h.l, h.d⟩
theorem OpenZ.gr {w : World} {B M bz cap : Nat} {a : List ZV} {y : ZV} {vr vl vd : Value} {s t : StL} (h : OpenZ w B M bz cap a y vr vl vd s) (hz : t.zones = a.map (·.1) ++ [y.1]) (h1 : t.rules = s.rules) (h2 : t.links = s.links) (h3 : t.diags = s.diags) : GR w B vr (.slice (some ⟨bz, 0, none⟩) (a.length + 1) cap) vl vd t :=
  ⟨h1 ▸ h.r, hz ▸ zs_again h.oz h.ha h.hu h.hy h.hB h.hM, h2 ▸ h.l, h3 ▸ h.d⟩
theorem OpenZ.cells {w : World} {B M bz cap : Nat} {a : List ZV} {y : ZV} {vr vl vd : Value} {s : StL} (h : OpenZ w B M bz cap a y vr vl vd s) : ∃ cs : Array Value, B ≤ bz ∧ Blk w bz 101 cs ∧ a.length * 3 + 2 < cs.size ∧ cs[a.length * 3 + 1]? = some y.2.1 ∧ cs[a.length * 3 + 2]? = some y.2.2 := by
  obtain ⟨cs, h1, h2, h3, h4⟩ := own_blk h.oz (by simp)
  have hl := zrow_len a
  have hx : ∀ j, j < 3 → ((a ++ [y]).flatMap zoneL)[a.length * 3 + j]? = (zoneL y)[j]? := fun j hj => flat_get zoneL 3 zoneL_len (by simp) j hj
  refine ⟨cs, h1, h2, ?_, h4 _ _ (hx 1 (by omega)), h4 _ _ (hx 2 (by omega))⟩
  rw [List.length_append] at h3
  simp only [List.length_cons, List.length_nil] at h3
  omega
theorem openz_era {w w9 : World} {B M bz cap : Nat} {a : List ZV} {z : ZoneL} {ve vn : Value} {vr vl vd v : Value} {s : StL} {e : EraL} (h : OpenZ w B M bz cap a (z, ve, vn) vr vl vd s) (hf : Fr w w9 (fun i => some i = ve.ownBlock)) (hown : Own w9 M 69 13 eraL v (z.eras ++ [e])) :
    OpenZ (w9.setCell ⟨bz, a.length * 3 + 1, none⟩ v) B M bz cap a (⟨z.name, z.eras ++ [e], z.lines⟩, v, vn) vr vl vd s := by
  have hg := tb_own h.hy.e hf
  have hg2 : Fr w w9 (TB B 69 w) := hg.mono fun _ _ hx => ⟨Nat.le_trans h.hB hx.1, hx.2⟩
  obtain ⟨cs, hb, hk, -⟩ := h.cells
  have hk9 := hf.blk hk (fun e => by obtain ⟨-, -, cs2, hb2⟩ := own_block h.hy.e e.symm; exact absurd (blk_same hk hb2) (by decide))
  have hs := tb_set (j := a.length * 3 + 1) (v := v) hk9 hb
  have oz9 := far_tb h.oz hg2 (by decide)
  exact ⟨zrow_put 1 oz9 (by simp) rfl, fun y hy => zat_far (zat_under (h.ha y hy) (h.hu y hy) hf (fun k hk => (own_block h.hy.e hk.symm).1)) hs (by decide) (by decide), h.hu, ⟨far_tb hown hs (by decide), far_tb (far_tb h.hy.l hg2 (by decide)) hs (by decide)⟩, h.hB, Nat.le_trans h.hM (Nat.le_trans hf.size hs.size),
    far_tb (far_tb h.r hg2 (by decide)) hs (by decide), far_tb (far_tb h.l hg2 (by decide)) hs (by decide), far_tb (far_tb h.d hg2 (by decide)) hs (by decide)⟩
theorem openz_line {w w9 : World} {B M bz cap : Nat} {a : List ZV} {z : ZoneL} {ve vn : Value} {vr vl vd v : Value} {s : StL} {i : Int} (h : OpenZ w B M bz cap a (z, ve, vn) vr vl vd s) (hf : Fr w w9 (fun k => some k = vn.ownBlock)) (hown : Own w9 M 3 1 intL v (z.lines ++ [i])) :
    OpenZ (w9.setCell ⟨bz, a.length * 3 + 2, none⟩ v) B M bz cap a (⟨z.name, z.eras, z.lines ++ [i]⟩, ve, v) vr vl vd s := by
  have hg := tb_own h.hy.l hf
  have hg2 : Fr w w9 (TB B 3 w) := hg.mono fun _ _ hx => ⟨Nat.le_trans h.hB hx.1, hx.2⟩
  obtain ⟨cs, hb, hk, -⟩ := h.cells
  have hk9 := hf.blk hk (fun e => by obtain ⟨-, -, cs2, hb2⟩ := own_block h.hy.l e.symm; exact absurd (blk_same hk hb2) (by decide))
  have hs := tb_set (j := a.length * 3 + 2) (v := v) hk9 hb
  have oz9 := far_tb h.oz hg2 (by decide)
  exact ⟨zrow_put 2 oz9 (by simp) rfl, fun y hy => zat_far (zat_under (h.ha y hy) (h.hu y hy) hf (fun k hk => (own_block h.hy.l hk.symm).1)) hs (by decide) (by decide), h.hu, ⟨far_tb (far_tb h.hy.e hg2 (by decide)) hs (by decide), far_tb hown hs (by decide)⟩, h.hB, Nat.le_trans h.hM (Nat.le_trans hf.size hs.size),
    far_tb (far_tb h.r hg2 (by decide)) hs (by decide), far_tb (far_tb h.l hg2 (by decide)) hs (by decide), far_tb (far_tb h.d hg2 (by decide)) hs (by decide)⟩
end Go.Proofs.YtodcnbejnchmhaaGreatDoor
namespace Go.Proofs.YtodcnbejnchmhaaGreatDoor
open Go.RowKit Go.Mem Go.Lin Go.Dcm

theorem line_kept {w w' : World} {q : Nat} {x : LineL} (hf : Fr w w' (fun _ => False)) (h : Blk w q 71 (lineC x)) : Blk w' q 71 (lineC x) := hf.blk h (fun h => h)
theorem cell4_kept {w w' : World} {g : Nat} {i : Int} (hf : Fr w w' (fun _ => False)) (h : w.cell? ⟨g, 4, none⟩ = some (intV i)) : w'.cell? ⟨g, 4, none⟩ = some (intV i) := cell_far hf h (fun h => h)
set_option maxRecDepth 100000 in
set_option maxHeartbeats 6400000 in
theorem gera_many (w : World) (g B : Nat) (i : Int) (s : StL) (h : GAt w g B i s) (hs : size s ≤ 100000) (x : LineL) (z : ZoneL) (ho : s.opn = true) (hc : s.cur = some z) (h8 : 8 ≤ z.eras.length) : Calls Tryz.prog 97 #[gP g, lineV x] w (GPost w g B i ({ tell s i 0 17 with opn := x.era.til.has })) := by
  have hlt := h.lt
  have hn := Fr.new w (.cells (lineC x) 71) (fun _ => False)
  obtain ⟨vr, vz, vl, vd, hb, hr⟩ := (h.kept hn).open_
  obtain ⟨M, bz, cap, a, ⟨z', ve, vn⟩, rfl, rfl, ha, hO⟩ := open_z hr hc
  have hsz : a.length ≤ 100000 := by
    have h1 := (size_parts hs).2.1
    have h2 := congrArg List.length ha
    unfold StL.zones at h1
    rw [List.length_append] at h1
    rw [List.length_map] at h2
    omega
  have hQ := Blk.made w 71 (lineC x)
  have q19 := blkc hQ 19 (.bool x.era.til.has) rfl
  have c5 := blkc hb 5 _ rfl
  have f5 := free_at hb 5
  rw [ho] at c5
  have hS := Fr.set (w := w.alloc (.cells (lineC x) 71)) (a := ⟨g, 5, none⟩) (v := .bool x.era.til.has) (S := fun i => i = g) rfl
  have hb1 := hb.put' 5 (.bool x.era.til.has) rfl
  have HL := Lib.hid (last_any _ g a.length cap bz _ hb1 rfl hsz)
  have HN := Lib.hid (gx_put (j := 5) (v := .bool x.era.til.has) (gx_none (g := g) (B := B) hn))
  have HB1 := Lib.hid hb1
  have HO1 := Lib.hid (hO.g hS hlt)
  have HQ1 := Lib.hid (hS.blk hQ (fun e => by subst e; exact absurd (blk_same hb hQ) (by decide)))
  clear h hn hb hr hO hQ hS hb1
  go_enter Tryz.func97, Tryz.ntmps97
  go_wp2_with fail
  refine HL.out.mono ?_
  rintro e w2 ⟨rfl, hf2⟩
  have HB := Lib.hid (hf2.blk HB1.out (fun h => h))
  have HO := Lib.hid (HO1.out.kept hf2)
  have HQ := Lib.hid (line_kept hf2 HQ1.out)
  have HF2 := Lib.hid (gx_trans HN.out (gx_none hf2))
  clear hf2 HB1 HO1 HQ1 HN HL
  obtain ⟨cs, hBz, hk, hcs, k1, k2⟩ := HO.out.cells
  have cE := blkc hk (a.length * 3 + 1) _ k1
  have HK := Lib.hid hk
  obtain ⟨Ae, ce, hve⟩ := HO.out.hy.e.slice
  have hve : ve = .slice Ae z'.eras.length ce := hve
  subst hve
  have c4 := blkc HB.out 4 _ rfl
  have h8i : (8 : Int) ≤ (z'.eras.length : Int) := by omega
  have hG : GAt w2 g B i { s with opn := x.era.til.has } := gat_mk hlt HB.out (HO.out.gr (by show s.done ++ s.cur.toList = _; rw [hc, ha]; rfl) rfl rfl rfl)
  have HT := Lib.hid (tell_any _ g B i _ hG (size_parts hs).2.2.2 i 0 17)
  clear hG hk k1 k2 hcs hBz h8
  go_wp2_with fail
  refine HT.out.mono ?_
  rintro e w3 ⟨rfl, hg3, hf3⟩
  have HG := Lib.hid hg3
  have HF3 := Lib.hid hf3
  clear hg3 hf3
  go_wp2_with fail
  go_end0
  exact ⟨rfl, HG.out, gx_trans HF2.out HF3.out⟩
set_option maxRecDepth 100000 in
set_option maxHeartbeats 6400000 in
theorem gera_more (w : World) (g B : Nat) (i : Int) (s : StL) (h : GAt w g B i s) (hs : size s ≤ 100000) (x : LineL) (z : ZoneL) (ho : s.opn = true) (hc : s.cur = some z) (h8 : z.eras.length < 8) (hz : z.eras.length = z.lines.length) : Calls Tryz.prog 97 #[gP g, lineV x] w (GPost w g B i ({ s with cur := some ⟨z.name, z.eras ++ [x.era], z.lines ++ [i]⟩, opn := x.era.til.has })) := by
  have hlt := h.lt
  have hn := Fr.new w (.cells (lineC x) 71) (fun _ => False)
  obtain ⟨vr, vz, vl, vd, hb, hr⟩ := (h.kept hn).open_
  obtain ⟨M, bz, cap, a, ⟨z', ve, vn⟩, rfl, rfl, ha, hO⟩ := open_z hr hc
  have hsz : a.length ≤ 100000 := by
    have h1 := (size_parts hs).2.1
    have h2 := congrArg List.length ha
    unfold StL.zones at h1
    rw [List.length_append] at h1
    rw [List.length_map] at h2
    omega
  have hQ := Blk.made w 71 (lineC x)
  have q19 := blkc hQ 19 (.bool x.era.til.has) rfl
  have c5 := blkc hb 5 _ rfl
  have f5 := free_at hb 5
  rw [ho] at c5
  have hS := Fr.set (w := w.alloc (.cells (lineC x) 71)) (a := ⟨g, 5, none⟩) (v := .bool x.era.til.has) (S := fun i => i = g) rfl
  have hb1 := hb.put' 5 (.bool x.era.til.has) rfl
  have HL := Lib.hid (last_any _ g a.length cap bz _ hb1 rfl hsz)
  have HN := Lib.hid (gx_put (j := 5) (v := .bool x.era.til.has) (gx_none (g := g) (B := B) hn))
  have HB1 := Lib.hid hb1
  have HO1 := Lib.hid (hO.g hS hlt)
  have HQ1 := Lib.hid (hS.blk hQ (fun e => by subst e; exact absurd (blk_same hb hQ) (by decide)))
  clear h hn hb hr hO hQ hS hb1
  go_enter Tryz.func97, Tryz.ntmps97
  go_wp2_with fail
  refine HL.out.mono ?_
  rintro e w2 ⟨rfl, hf2⟩
  have HB := Lib.hid (hf2.blk HB1.out (fun h => h))
  have HO := Lib.hid (HO1.out.kept hf2)
  have HQ := Lib.hid (line_kept hf2 HQ1.out)
  have HF2 := Lib.hid (gx_trans HN.out (gx_none hf2))
  clear hf2 HB1 HO1 HQ1 HN HL
  obtain ⟨cs, hBz, hk, hcs, k1, k2⟩ := HO.out.cells
  have cE := blkc hk (a.length * 3 + 1) _ k1
  have HK := Lib.hid hk
  obtain ⟨Ae, ce, hve⟩ := HO.out.hy.e.slice
  have hve : ve = .slice Ae z'.eras.length ce := hve
  subst hve
  have c4 := blkc HB.out 4 _ rfl
  have h8i : (z'.eras.length : Int) < 8 := by omega
  have h8' : z'.eras.length < 8 := h8
  have hz' : z'.eras.length = z'.lines.length := hz
  obtain ⟨i0, hi0, hz0, hz1, hz2⟩ := info_parts infoEra
  obtain ⟨j0, hj0, jz0, jz1, jz2⟩ := info_parts infoInt
  have H1 := Lib.hid (one_made (cs := eraC x.era) (eraC_one x.era))
  have HKd := Lib.hid ((Fr.drew w2 (fun _ => False)).blk hk (fun h => h))
  have hOd := HO.out.kept (Fr.drew w2 (fun _ => False))
  have hBd := (Fr.drew w2 (fun _ => False)).blk HB.out (fun h => h)
  clear hk h8 hz
  go_wp2_with fail
  refine wp_region_held_drew (S := fun w' => Blk w' w.heap.size 71 (lineC x)) (by kernel_rfl) (line_kept (Fr.drew w2 _) HQ.out) (fun hHeld => ?_)
  refine wpAnyH_take (i := 0) (v := ?_) rfl (by kernel_rfl) (by kernel_rfl) (by kernel_rfl) (fun _ _ _ h => h) (Or.inl ⟨by rfl, ?_⟩) (by assumption) ?_
  rotate_left
  · intro w' hSw
    skip
    go_simp
    try with_reducible rfl
  try simp only [Act.put, List.setIfInBounds_toArray, List.set_cons_zero, List.set_cons_succ, List.getElem_toArray, List.getElem_cons_zero]
  refine wpAnyH_take (i := 1) (v := ?_) rfl (by kernel_rfl) (by kernel_rfl) (by kernel_rfl) (fun _ _ _ h => h) (Or.inl ⟨by rfl, ?_⟩) (by assumption) ?_
  rotate_left
  · intro w' hSw
    skip
    go_simp
    try with_reducible rfl
  try simp only [Act.put, List.setIfInBounds_toArray, List.set_cons_zero, List.set_cons_succ, List.getElem_toArray, List.getElem_cons_succ, List.getElem_cons_zero]
  refine wpAnyH_take (i := 2) (v := ?_) rfl (by kernel_rfl) (by kernel_rfl) (by kernel_rfl) (fun _ _ _ h => h) (Or.inl ⟨by rfl, ?_⟩) (by assumption) ?_
  rotate_left
  · intro w' hSw
    skip
    go_simp
    try with_reducible rfl
  try simp only [Act.put, List.setIfInBounds_toArray, List.set_cons_zero, List.set_cons_succ, List.getElem_toArray, List.getElem_cons_succ, List.getElem_cons_zero]
  refine wpAnyH_take (i := 3) (v := ?_) rfl (by kernel_rfl) (by kernel_rfl) (by kernel_rfl) (fun _ _ _ h => h) (Or.inl ⟨by rfl, ?_⟩) (by assumption) ?_
  rotate_left
  · intro w' hSw
    skip
    go_simp
    try with_reducible rfl
  try simp only [Act.put, List.setIfInBounds_toArray, List.set_cons_zero, List.set_cons_succ, List.getElem_toArray, List.getElem_cons_succ, List.getElem_cons_zero]
  refine wpAnyH_take (i := 5) (v := ?_) rfl (by kernel_rfl) (by kernel_rfl) (by kernel_rfl) (fun _ _ _ h => h) (Or.inl ⟨by rfl, ?_⟩) (by assumption) ?_
  rotate_left
  · intro w' hSw
    skip
    go_simp
    try with_reducible rfl
  try simp only [Act.put, List.setIfInBounds_toArray, List.set_cons_zero, List.set_cons_succ, List.getElem_toArray, List.getElem_cons_succ, List.getElem_cons_zero]
  refine wpAnyH_take (i := 6) (v := _) rfl (by kernel_rfl) (by kernel_rfl) (by kernel_rfl) (fun _ _ _ h => h) (yields_blk 69 _ w.heap.size 14 71 (lineC x) (eraC x.era) _ (by rfl) rfl rfl (fun _ h => h) Tryz.underlying69 rfl (infoE _) (part_era _)) (by assumption) ?_
  try simp only [Act.put, List.setIfInBounds_toArray, List.set_cons_zero, List.set_cons_succ, List.getElem_toArray, List.getElem_cons_succ, List.getElem_cons_zero]
  refine wpAnyH_ready (rs := [4, 7]) (by kernel_rfl) (by simp) ?_
  refine AllReadyH.cons rfl (fun K hK => ?_) (AllReadyH.cons rfl (fun K hK => ?_) AllReadyH.nil)
  ·
    rw [if_pos (by rfl)]
    refine wp_load1 rfl (by rfl) (blkc HKd.out _ _ k1) Tryz.underlying92 rfl ?_
    refine hK.out _ _ hHeld (fun hH2 => ?_)
    clear hK K
    try simp only [Act.put, List.setIfInBounds_toArray, List.set_cons_zero, List.set_cons_succ, List.getElem_toArray, List.getElem_cons_succ, List.getElem_cons_zero]
    refine wpAnyH_ready (rs := [7]) (by kernel_rfl) (by simp) ?_
    refine AllReadyH.cons rfl (fun K hK => ?_) AllReadyH.nil
    rw [if_pos (by rfl)]
    refine wp_built (e := 69) (cs := (eraC x.era)) rfl (by rfl) (info_ze x) ?_
    have hx := rd_made w2.drew 69 (eraC x.era)
    generalize hwn : World.alloc _ _ = wn at hx ⊢
    have hfn : Fr w2.drew wn (fun _ => False) := hwn ▸ Fr.new _ _ _
    refine hK.out _ _ (line_kept hfn hH2) (fun hH3 => ?_)
    clear hK K
    try simp only [Act.put, List.setIfInBounds_toArray, List.set_cons_zero, List.set_cons_succ, List.getElem_toArray, List.getElem_cons_succ, List.getElem_cons_zero]
    have hOa := hOd.kept hfn
    have hBa := hfn.blk hBd (fun h => h)
    refine wpAnyH_ready (rs := [8]) (by kernel_rfl) (by simp) ?_
    refine AllReadyH.cons rfl (fun K hK => ?_) AllReadyH.nil
    rw [if_pos (by rfl)]
    refine wp_append_rd _ (.tmp 41) (.tmp 44) 92 rfl M 69 i0 _ 13 120 Tryz.underlying92 hi0 hz0 hz1 hz2 rfl (by decide) _ z'.eras.length _ rfl hOa.hy.e _ 1 1 (eraC x.era).toList rfl hx H1.out (by simp only [maxLen]; omega) (by omega) hOa.hM ?_
    intro v9 w9 hown9 hg9 _
    obtain ⟨A9, cap9, rfl⟩ := Go.Mem.own_slice hown9
    have hf9 := Fr.ofGrown hg9
    have hO9 := openz_era hOa hf9 (own_more (x := x.era) hown9 rfl)
    obtain ⟨cs9, -, hk9, hcs9, -, -⟩ := hOa.cells
    have hkk := hf9.blk hk9 (fun e => by obtain ⟨-, -, cs2, hb2⟩ := own_block hOa.hy.e e.symm; exact absurd (blk_same hk9 hb2) (by decide))
    have hq9 := hf9.blk hH3 (fun e => by obtain ⟨-, -, cs2, hb2⟩ := own_block hOa.hy.e e.symm; exact absurd (blk_same hH3 hb2) (by decide))
    have hb9 := hf9.blk hBa (fun e => by have := (own_block hOa.hy.e e.symm).1; have := hOa.hB; omega)
    have hgx := gx_trans HF2.out (gx_trans (gx_none (Fr.drew w2 _)) (gx_new hfn ((tb_own hOa.hy.e hf9).mono (fun i _ hx => .inr ⟨Nat.le_trans hOa.hB hx.1, _, hx.2.choose, hx.2.choose_spec, by decide⟩))))
    refine hK.out _ _ hq9 (fun hH9 => ?_)
    clear hK K hx hown9
    try simp only [Act.put, List.setIfInBounds_toArray, List.set_cons_zero, List.set_cons_succ, List.getElem_toArray, List.getElem_cons_succ, List.getElem_cons_zero]
    refine wpAnyH_take (i := 9) (v := ?_) rfl (by kernel_rfl) (by kernel_rfl) (by kernel_rfl) (fun _ _ _ h => h) (Or.inl ⟨by rfl, ?_⟩) (by assumption) ?_
    rotate_left
    · intro w' hSw
      skip
      go_simp
      try with_reducible rfl
    try simp only [Act.put, List.setIfInBounds_toArray, List.set_cons_zero, List.set_cons_succ, List.getElem_toArray, List.getElem_cons_succ, List.getElem_cons_zero]
    refine wpAnyH_take (i := 10) (v := ?_) rfl (by kernel_rfl) (by kernel_rfl) (by kernel_rfl) (fun _ _ _ h => h) (Or.inl ⟨by rfl, ?_⟩) (by assumption) ?_
    rotate_left
    · intro w' hSw
      skip
      go_simp
      try with_reducible rfl
    try simp only [Act.put, List.setIfInBounds_toArray, List.set_cons_zero, List.set_cons_succ, List.getElem_toArray, List.getElem_cons_succ, List.getElem_cons_zero]
    refine wpAnyH_ready (rs := [11]) (by kernel_rfl) (by simp) ?_
    refine AllReadyH.cons rfl (fun K hK => ?_) AllReadyH.nil
    rw [if_pos (by rfl)]
    refine wp_store1 (v := .slice A9 (z'.eras.length + 1) cap9) rfl rfl (by rfl) (by rfl) hkk info_es rfl (by omega) ?_
    have hgy := gx_trans hgx (tb_gx (g := g) (tb_set (j := a.length * 3 + 1) (v := .slice A9 (z'.eras.length + 1) cap9) hkk hBz) (by decide))
    generalize hwg : World.setCell w9 _ _ = wg at hgy hO9 ⊢
    have hsg : Fr w9 wg (fun k => k = bz) := hwg ▸ Fr.set (S := fun k => k = bz) rfl
    have hbg := hsg.blk hb9 (fun e => by subst e; exact absurd (blk_same hb9 hkk) (by decide))
    refine hK.out _ _ (hsg.blk hq9 (fun e => by subst e; exact absurd (blk_same hq9 hkk) (by decide))) (fun _ => ?_)
    clear hK K
    refine wpAnyH_done (by kernel_rfl) ?_ _
    have HOg := Lib.hid hO9
    have HBg := Lib.hid hbg
    have HFg := Lib.hid hgy
    clear hO9 hbg hgy hsg hb9 hq9 hkk hOa hBa hf9 hgx hwg hk9 hcs9
    obtain ⟨csg, -, hkg, hcsg, -, kg⟩ := HOg.out.cells
    obtain ⟨An, cn, hvn⟩ := HOg.out.hy.l.slice
    have hvn : vn = .slice An z'.lines.length cn := hvn
    subst hvn
    have c4g := blkc HBg.out 4 _ rfl
    have HKg := Lib.hid ((Fr.drew wg (fun _ => False)).blk hkg (fun h => h))
    have hOd2 := HOg.out.kept (Fr.drew wg (fun _ => False))
    have hBd2 := (Fr.drew wg (fun _ => False)).blk HBg.out (fun h => h)
    clear hkg
    go_wp2_with fail
    refine wp_region_held_drew (S := fun w' => w'.cell? ⟨g, 4, none⟩ = some (intV i)) (by kernel_rfl) (cell4_kept (Fr.drew wg _) c4g) (fun hHeld => ?_)
    refine wpAnyH_take (i := 0) (v := ?_) rfl (by kernel_rfl) (by kernel_rfl) (by kernel_rfl) (fun _ _ _ h => h) (Or.inl ⟨by rfl, ?_⟩) (by assumption) ?_
    rotate_left
    · intro w' hSw
      have k4 := hSw
      go_simp
      try with_reducible rfl
    try simp only [Act.put, List.setIfInBounds_toArray, List.set_cons_zero, List.set_cons_succ, List.getElem_toArray, List.getElem_cons_zero]
    refine wpAnyH_take (i := 1) (v := ?_) rfl (by kernel_rfl) (by kernel_rfl) (by kernel_rfl) (fun _ _ _ h => h) (Or.inl ⟨by rfl, ?_⟩) (by assumption) ?_
    rotate_left
    · intro w' hSw
      have k4 := hSw
      go_simp
      try with_reducible rfl
    try simp only [Act.put, List.setIfInBounds_toArray, List.set_cons_zero, List.set_cons_succ, List.getElem_toArray, List.getElem_cons_succ, List.getElem_cons_zero]
    refine wpAnyH_take (i := 2) (v := ?_) rfl (by kernel_rfl) (by kernel_rfl) (by kernel_rfl) (fun _ _ _ h => h) (Or.inl ⟨by rfl, ?_⟩) (by assumption) ?_
    rotate_left
    · intro w' hSw
      have k4 := hSw
      go_simp
      try with_reducible rfl
    try simp only [Act.put, List.setIfInBounds_toArray, List.set_cons_zero, List.set_cons_succ, List.getElem_toArray, List.getElem_cons_succ, List.getElem_cons_zero]
    refine wpAnyH_take (i := 3) (v := ?_) rfl (by kernel_rfl) (by kernel_rfl) (by kernel_rfl) (fun _ _ _ h => h) (Or.inl ⟨by rfl, ?_⟩) (by assumption) ?_
    rotate_left
    · intro w' hSw
      have k4 := hSw
      go_simp
      try with_reducible rfl
    try simp only [Act.put, List.setIfInBounds_toArray, List.set_cons_zero, List.set_cons_succ, List.getElem_toArray, List.getElem_cons_succ, List.getElem_cons_zero]
    refine wpAnyH_take (i := 5) (v := ?_) rfl (by kernel_rfl) (by kernel_rfl) (by kernel_rfl) (fun _ _ _ h => h) (Or.inl ⟨by rfl, ?_⟩) (by assumption) ?_
    rotate_left
    · intro w' hSw
      have k4 := hSw
      go_simp
      try with_reducible rfl
    try simp only [Act.put, List.setIfInBounds_toArray, List.set_cons_zero, List.set_cons_succ, List.getElem_toArray, List.getElem_cons_succ, List.getElem_cons_zero]
    refine wpAnyH_take (i := 6) (v := ?_) rfl (by kernel_rfl) (by kernel_rfl) (by kernel_rfl) (fun _ _ _ h => h) (Or.inl ⟨by rfl, ?_⟩) (by assumption) ?_
    rotate_left
    · intro w' hSw
      have k4 := hSw
      go_simp
      try with_reducible rfl
    try simp only [Act.put, List.setIfInBounds_toArray, List.set_cons_zero, List.set_cons_succ, List.getElem_toArray, List.getElem_cons_succ, List.getElem_cons_zero]
    refine wpAnyH_take (i := 7) (v := ?_) rfl (by kernel_rfl) (by kernel_rfl) (by kernel_rfl) (fun _ _ _ h => h) (Or.inl ⟨by rfl, ?_⟩) (by assumption) ?_
    rotate_left
    · intro w' hSw
      have k4 := hSw
      go_simp
      try with_reducible rfl
    try simp only [Act.put, List.setIfInBounds_toArray, List.set_cons_zero, List.set_cons_succ, List.getElem_toArray, List.getElem_cons_succ, List.getElem_cons_zero]
    refine wpAnyH_take (i := 8) (v := ?_) rfl (by kernel_rfl) (by kernel_rfl) (by kernel_rfl) (fun _ _ _ h => h) (Or.inl ⟨by rfl, ?_⟩) (by assumption) ?_
    rotate_left
    · intro w' hSw
      have k4 := hSw
      go_simp
      try with_reducible rfl
    try simp only [Act.put, List.setIfInBounds_toArray, List.set_cons_zero, List.set_cons_succ, List.getElem_toArray, List.getElem_cons_succ, List.getElem_cons_zero]
    refine wpAnyH_ready (rs := [4, 9]) (by kernel_rfl) (by simp) ?_
    refine AllReadyH.cons rfl (fun K hK => ?_) (AllReadyH.cons rfl (fun K hK => ?_) AllReadyH.nil)
    ·
      rw [if_pos (by rfl)]
      refine wp_load1 rfl (by rfl) (blkc HKg.out _ _ kg) Tryz.underlying93 rfl ?_
      refine hK.out _ _ hHeld (fun hH12 => ?_)
      clear hK K
      try simp only [Act.put, List.setIfInBounds_toArray, List.set_cons_zero, List.set_cons_succ, List.getElem_toArray, List.getElem_cons_succ, List.getElem_cons_zero]
      refine wpAnyH_ready (rs := [9]) (by kernel_rfl) (by simp) ?_
      refine AllReadyH.cons rfl (fun K hK => ?_) AllReadyH.nil
      rw [if_pos (by rfl)]
      refine wp_built (e := 3) (cs := #[intV i]) rfl (by rfl) (info_zl i) ?_
      have hx := rd_made wg.drew 3 #[intV i]
      generalize hwn : World.alloc _ _ = wm at hx ⊢
      have hfn : Fr wg.drew wm (fun _ => False) := hwn ▸ Fr.new _ _ _
      refine hK.out _ _ (cell4_kept hfn hH12) (fun hH13 => ?_)
      clear hK K
      try simp only [Act.put, List.setIfInBounds_toArray, List.set_cons_zero, List.set_cons_succ, List.getElem_toArray, List.getElem_cons_succ, List.getElem_cons_zero]
      have hOa := hOd2.kept hfn
      have hBa := hfn.blk hBd2 (fun h => h)
      refine wpAnyH_ready (rs := [10]) (by kernel_rfl) (by simp) ?_
      refine AllReadyH.cons rfl (fun K hK => ?_) AllReadyH.nil
      rw [if_pos (by rfl)]
      refine wp_append_rd _ (.tmp 52) (.tmp 57) 93 rfl M 3 j0 _ 1 8 Tryz.underlying93 hj0 jz0 jz1 jz2 rfl (by decide) _ z'.lines.length _ rfl hOa.hy.l _ 1 1 [intV i] rfl hx (by intro u hu; simp at hu; subst hu; rfl) (by simp only [maxLen]; omega) (by omega) hOa.hM ?_
      intro v9 w19 hown9 hg9 _
      obtain ⟨A19, cap19, rfl⟩ := Go.Mem.own_slice hown9
      have hf9 := Fr.ofGrown hg9
      have hO9 := openz_line hOa hf9 (own_more (x := i) hown9 rfl)
      obtain ⟨cs9, -, hk9, hcs9, -, -⟩ := hOa.cells
      have hkk := hf9.blk hk9 (fun e => by obtain ⟨-, -, cs2, hb2⟩ := own_block hOa.hy.l e.symm; exact absurd (blk_same hk9 hb2) (by decide))
      have hb9 := hf9.blk hBa (fun e => by have := (own_block hOa.hy.l e.symm).1; have := hOa.hB; omega)
      have hgx := gx_trans HFg.out (gx_trans (gx_none (Fr.drew wg _)) (gx_new hfn ((tb_own hOa.hy.l hf9).mono (fun i _ hx => .inr ⟨Nat.le_trans hOa.hB hx.1, _, hx.2.choose, hx.2.choose_spec, by decide⟩))))
      refine hK.out _ _ (blkc hb9 4 _ rfl) (fun hH9 => ?_)
      clear hK K hx hown9
      try simp only [Act.put, List.setIfInBounds_toArray, List.set_cons_zero, List.set_cons_succ, List.getElem_toArray, List.getElem_cons_succ, List.getElem_cons_zero]
      refine wpAnyH_take (i := 11) (v := ?_) rfl (by kernel_rfl) (by kernel_rfl) (by kernel_rfl) (fun _ _ _ h => h) (Or.inl ⟨by rfl, ?_⟩) (by assumption) ?_
      rotate_left
      · intro w' hSw
        skip
        go_simp
        try with_reducible rfl
      try simp only [Act.put, List.setIfInBounds_toArray, List.set_cons_zero, List.set_cons_succ, List.getElem_toArray, List.getElem_cons_succ, List.getElem_cons_zero]
      refine wpAnyH_take (i := 12) (v := ?_) rfl (by kernel_rfl) (by kernel_rfl) (by kernel_rfl) (fun _ _ _ h => h) (Or.inl ⟨by rfl, ?_⟩) (by assumption) ?_
      rotate_left
      · intro w' hSw
        skip
        go_simp
        try with_reducible rfl
      try simp only [Act.put, List.setIfInBounds_toArray, List.set_cons_zero, List.set_cons_succ, List.getElem_toArray, List.getElem_cons_succ, List.getElem_cons_zero]
      refine wpAnyH_ready (rs := [13]) (by kernel_rfl) (by simp) ?_
      refine AllReadyH.cons rfl (fun K hK => ?_) AllReadyH.nil
      rw [if_pos (by rfl)]
      refine wp_store1 (v := .slice A19 (z'.lines.length + 1) cap19) rfl rfl (by rfl) (by rfl) hkk info_is rfl (by omega) ?_
      have hgy := gx_trans hgx (tb_gx (g := g) (tb_set (j := a.length * 3 + 2) (v := .slice A19 (z'.lines.length + 1) cap19) hkk hBz) (by decide))
      generalize hwg : World.setCell w19 _ _ = wk at hgy hO9 ⊢
      have hsg : Fr w19 wk (fun k => k = bz) := hwg ▸ Fr.set (S := fun k => k = bz) rfl
      have hbg := hsg.blk hb9 (fun e => by subst e; exact absurd (blk_same hb9 hkk) (by decide))
      refine hK.out _ _ (blkc hbg 4 _ rfl) (fun _ => ?_)
      clear hK K
      refine wpAnyH_done (by kernel_rfl) ?_ _
      have HOk := Lib.hid hO9
      have HBk := Lib.hid hbg
      have HFk := Lib.hid hgy
      clear hO9 hbg hgy hsg hb9 hkk hOa hBa hf9 hgx hwg hk9 hcs9
      go_wp2_with fail
      go_end0
      exact ⟨rfl, gat_mk hlt HBk.out (HOk.out.gr (by show s.done ++ [_] = _; rw [ha]) rfl rfl rfl), HFk.out⟩
    ·
      rw [if_pos (by rfl)]
      refine wp_built (e := 3) (cs := #[intV i]) rfl (by rfl) (info_zl i) ?_
      have hx := rd_made wg.drew 3 #[intV i]
      generalize hwn : World.alloc _ _ = wm at hx ⊢
      have hfn : Fr wg.drew wm (fun _ => False) := hwn ▸ Fr.new _ _ _
      refine hK.out _ _ (cell4_kept hfn hHeld) (fun hH12 => ?_)
      clear hK K
      try simp only [Act.put, List.setIfInBounds_toArray, List.set_cons_zero, List.set_cons_succ, List.getElem_toArray, List.getElem_cons_succ, List.getElem_cons_zero]
      have hKm := hfn.blk HKg.out (fun h => h)
      refine wpAnyH_ready (rs := [4]) (by kernel_rfl) (by simp) ?_
      refine AllReadyH.cons rfl (fun K hK => ?_) AllReadyH.nil
      rw [if_pos (by rfl)]
      refine wp_load1 rfl (by rfl) (blkc hKm _ _ kg) Tryz.underlying93 rfl ?_
      refine hK.out _ _ hH12 (fun hH13 => ?_)
      clear hK K
      try simp only [Act.put, List.setIfInBounds_toArray, List.set_cons_zero, List.set_cons_succ, List.getElem_toArray, List.getElem_cons_succ, List.getElem_cons_zero]
      have hOa := hOd2.kept hfn
      have hBa := hfn.blk hBd2 (fun h => h)
      refine wpAnyH_ready (rs := [10]) (by kernel_rfl) (by simp) ?_
      refine AllReadyH.cons rfl (fun K hK => ?_) AllReadyH.nil
      rw [if_pos (by rfl)]
      refine wp_append_rd _ (.tmp 52) (.tmp 57) 93 rfl M 3 j0 _ 1 8 Tryz.underlying93 hj0 jz0 jz1 jz2 rfl (by decide) _ z'.lines.length _ rfl hOa.hy.l _ 1 1 [intV i] rfl hx (by intro u hu; simp at hu; subst hu; rfl) (by simp only [maxLen]; omega) (by omega) hOa.hM ?_
      intro v9 w19 hown9 hg9 _
      obtain ⟨A19, cap19, rfl⟩ := Go.Mem.own_slice hown9
      have hf9 := Fr.ofGrown hg9
      have hO9 := openz_line hOa hf9 (own_more (x := i) hown9 rfl)
      obtain ⟨cs9, -, hk9, hcs9, -, -⟩ := hOa.cells
      have hkk := hf9.blk hk9 (fun e => by obtain ⟨-, -, cs2, hb2⟩ := own_block hOa.hy.l e.symm; exact absurd (blk_same hk9 hb2) (by decide))
      have hb9 := hf9.blk hBa (fun e => by have := (own_block hOa.hy.l e.symm).1; have := hOa.hB; omega)
      have hgx := gx_trans HFg.out (gx_trans (gx_none (Fr.drew wg _)) (gx_new hfn ((tb_own hOa.hy.l hf9).mono (fun i _ hx => .inr ⟨Nat.le_trans hOa.hB hx.1, _, hx.2.choose, hx.2.choose_spec, by decide⟩))))
      refine hK.out _ _ (blkc hb9 4 _ rfl) (fun hH9 => ?_)
      clear hK K hx hown9
      try simp only [Act.put, List.setIfInBounds_toArray, List.set_cons_zero, List.set_cons_succ, List.getElem_toArray, List.getElem_cons_succ, List.getElem_cons_zero]
      refine wpAnyH_take (i := 11) (v := ?_) rfl (by kernel_rfl) (by kernel_rfl) (by kernel_rfl) (fun _ _ _ h => h) (Or.inl ⟨by rfl, ?_⟩) (by assumption) ?_
      rotate_left
      · intro w' hSw
        skip
        go_simp
        try with_reducible rfl
      try simp only [Act.put, List.setIfInBounds_toArray, List.set_cons_zero, List.set_cons_succ, List.getElem_toArray, List.getElem_cons_succ, List.getElem_cons_zero]
      refine wpAnyH_take (i := 12) (v := ?_) rfl (by kernel_rfl) (by kernel_rfl) (by kernel_rfl) (fun _ _ _ h => h) (Or.inl ⟨by rfl, ?_⟩) (by assumption) ?_
      rotate_left
      · intro w' hSw
        skip
        go_simp
        try with_reducible rfl
      try simp only [Act.put, List.setIfInBounds_toArray, List.set_cons_zero, List.set_cons_succ, List.getElem_toArray, List.getElem_cons_succ, List.getElem_cons_zero]
      refine wpAnyH_ready (rs := [13]) (by kernel_rfl) (by simp) ?_
      refine AllReadyH.cons rfl (fun K hK => ?_) AllReadyH.nil
      rw [if_pos (by rfl)]
      refine wp_store1 (v := .slice A19 (z'.lines.length + 1) cap19) rfl rfl (by rfl) (by rfl) hkk info_is rfl (by omega) ?_
      have hgy := gx_trans hgx (tb_gx (g := g) (tb_set (j := a.length * 3 + 2) (v := .slice A19 (z'.lines.length + 1) cap19) hkk hBz) (by decide))
      generalize hwg : World.setCell w19 _ _ = wk at hgy hO9 ⊢
      have hsg : Fr w19 wk (fun k => k = bz) := hwg ▸ Fr.set (S := fun k => k = bz) rfl
      have hbg := hsg.blk hb9 (fun e => by subst e; exact absurd (blk_same hb9 hkk) (by decide))
      refine hK.out _ _ (blkc hbg 4 _ rfl) (fun _ => ?_)
      clear hK K
      refine wpAnyH_done (by kernel_rfl) ?_ _
      have HOk := Lib.hid hO9
      have HBk := Lib.hid hbg
      have HFk := Lib.hid hgy
      clear hO9 hbg hgy hsg hb9 hkk hOa hBa hf9 hgx hwg hk9 hcs9
      go_wp2_with fail
      go_end0
      exact ⟨rfl, gat_mk hlt HBk.out (HOk.out.gr (by show s.done ++ [_] = _; rw [ha]) rfl rfl rfl), HFk.out⟩
  ·
    rw [if_pos (by rfl)]
    refine wp_built (e := 69) (cs := (eraC x.era)) rfl (by rfl) (info_ze x) ?_
    have hx := rd_made w2.drew 69 (eraC x.era)
    generalize hwn : World.alloc _ _ = wn at hx ⊢
    have hfn : Fr w2.drew wn (fun _ => False) := hwn ▸ Fr.new _ _ _
    refine hK.out _ _ (line_kept hfn hHeld) (fun hH2 => ?_)
    clear hK K
    try simp only [Act.put, List.setIfInBounds_toArray, List.set_cons_zero, List.set_cons_succ, List.getElem_toArray, List.getElem_cons_succ, List.getElem_cons_zero]
    have hKm := hfn.blk HKd.out (fun h => h)
    refine wpAnyH_ready (rs := [4]) (by kernel_rfl) (by simp) ?_
    refine AllReadyH.cons rfl (fun K hK => ?_) AllReadyH.nil
    rw [if_pos (by rfl)]
    refine wp_load1 rfl (by rfl) (blkc hKm _ _ k1) Tryz.underlying92 rfl ?_
    refine hK.out _ _ hH2 (fun hH3 => ?_)
    clear hK K
    try simp only [Act.put, List.setIfInBounds_toArray, List.set_cons_zero, List.set_cons_succ, List.getElem_toArray, List.getElem_cons_succ, List.getElem_cons_zero]
    have hOa := hOd.kept hfn
    have hBa := hfn.blk hBd (fun h => h)
    refine wpAnyH_ready (rs := [8]) (by kernel_rfl) (by simp) ?_
    refine AllReadyH.cons rfl (fun K hK => ?_) AllReadyH.nil
    rw [if_pos (by rfl)]
    refine wp_append_rd _ (.tmp 41) (.tmp 44) 92 rfl M 69 i0 _ 13 120 Tryz.underlying92 hi0 hz0 hz1 hz2 rfl (by decide) _ z'.eras.length _ rfl hOa.hy.e _ 1 1 (eraC x.era).toList rfl hx H1.out (by simp only [maxLen]; omega) (by omega) hOa.hM ?_
    intro v9 w9 hown9 hg9 _
    obtain ⟨A9, cap9, rfl⟩ := Go.Mem.own_slice hown9
    have hf9 := Fr.ofGrown hg9
    have hO9 := openz_era hOa hf9 (own_more (x := x.era) hown9 rfl)
    obtain ⟨cs9, -, hk9, hcs9, -, -⟩ := hOa.cells
    have hkk := hf9.blk hk9 (fun e => by obtain ⟨-, -, cs2, hb2⟩ := own_block hOa.hy.e e.symm; exact absurd (blk_same hk9 hb2) (by decide))
    have hq9 := hf9.blk hH3 (fun e => by obtain ⟨-, -, cs2, hb2⟩ := own_block hOa.hy.e e.symm; exact absurd (blk_same hH3 hb2) (by decide))
    have hb9 := hf9.blk hBa (fun e => by have := (own_block hOa.hy.e e.symm).1; have := hOa.hB; omega)
    have hgx := gx_trans HF2.out (gx_trans (gx_none (Fr.drew w2 _)) (gx_new hfn ((tb_own hOa.hy.e hf9).mono (fun i _ hx => .inr ⟨Nat.le_trans hOa.hB hx.1, _, hx.2.choose, hx.2.choose_spec, by decide⟩))))
    refine hK.out _ _ hq9 (fun hH9 => ?_)
    clear hK K hx hown9
    try simp only [Act.put, List.setIfInBounds_toArray, List.set_cons_zero, List.set_cons_succ, List.getElem_toArray, List.getElem_cons_succ, List.getElem_cons_zero]
    refine wpAnyH_take (i := 9) (v := ?_) rfl (by kernel_rfl) (by kernel_rfl) (by kernel_rfl) (fun _ _ _ h => h) (Or.inl ⟨by rfl, ?_⟩) (by assumption) ?_
    rotate_left
    · intro w' hSw
      skip
      go_simp
      try with_reducible rfl
    try simp only [Act.put, List.setIfInBounds_toArray, List.set_cons_zero, List.set_cons_succ, List.getElem_toArray, List.getElem_cons_succ, List.getElem_cons_zero]
    refine wpAnyH_take (i := 10) (v := ?_) rfl (by kernel_rfl) (by kernel_rfl) (by kernel_rfl) (fun _ _ _ h => h) (Or.inl ⟨by rfl, ?_⟩) (by assumption) ?_
    rotate_left
    · intro w' hSw
      skip
      go_simp
      try with_reducible rfl
    try simp only [Act.put, List.setIfInBounds_toArray, List.set_cons_zero, List.set_cons_succ, List.getElem_toArray, List.getElem_cons_succ, List.getElem_cons_zero]
    refine wpAnyH_ready (rs := [11]) (by kernel_rfl) (by simp) ?_
    refine AllReadyH.cons rfl (fun K hK => ?_) AllReadyH.nil
    rw [if_pos (by rfl)]
    refine wp_store1 (v := .slice A9 (z'.eras.length + 1) cap9) rfl rfl (by rfl) (by rfl) hkk info_es rfl (by omega) ?_
    have hgy := gx_trans hgx (tb_gx (g := g) (tb_set (j := a.length * 3 + 1) (v := .slice A9 (z'.eras.length + 1) cap9) hkk hBz) (by decide))
    generalize hwg : World.setCell w9 _ _ = wg at hgy hO9 ⊢
    have hsg : Fr w9 wg (fun k => k = bz) := hwg ▸ Fr.set (S := fun k => k = bz) rfl
    have hbg := hsg.blk hb9 (fun e => by subst e; exact absurd (blk_same hb9 hkk) (by decide))
    refine hK.out _ _ (hsg.blk hq9 (fun e => by subst e; exact absurd (blk_same hq9 hkk) (by decide))) (fun _ => ?_)
    clear hK K
    refine wpAnyH_done (by kernel_rfl) ?_ _
    have HOg := Lib.hid hO9
    have HBg := Lib.hid hbg
    have HFg := Lib.hid hgy
    clear hO9 hbg hgy hsg hb9 hq9 hkk hOa hBa hf9 hgx hwg hk9 hcs9
    obtain ⟨csg, -, hkg, hcsg, -, kg⟩ := HOg.out.cells
    obtain ⟨An, cn, hvn⟩ := HOg.out.hy.l.slice
    have hvn : vn = .slice An z'.lines.length cn := hvn
    subst hvn
    have c4g := blkc HBg.out 4 _ rfl
    have HKg := Lib.hid ((Fr.drew wg (fun _ => False)).blk hkg (fun h => h))
    have hOd2 := HOg.out.kept (Fr.drew wg (fun _ => False))
    have hBd2 := (Fr.drew wg (fun _ => False)).blk HBg.out (fun h => h)
    clear hkg
    go_wp2_with fail
    refine wp_region_held_drew (S := fun w' => w'.cell? ⟨g, 4, none⟩ = some (intV i)) (by kernel_rfl) (cell4_kept (Fr.drew wg _) c4g) (fun hHeld => ?_)
    refine wpAnyH_take (i := 0) (v := ?_) rfl (by kernel_rfl) (by kernel_rfl) (by kernel_rfl) (fun _ _ _ h => h) (Or.inl ⟨by rfl, ?_⟩) (by assumption) ?_
    rotate_left
    · intro w' hSw
      have k4 := hSw
      go_simp
      try with_reducible rfl
    try simp only [Act.put, List.setIfInBounds_toArray, List.set_cons_zero, List.set_cons_succ, List.getElem_toArray, List.getElem_cons_zero]
    refine wpAnyH_take (i := 1) (v := ?_) rfl (by kernel_rfl) (by kernel_rfl) (by kernel_rfl) (fun _ _ _ h => h) (Or.inl ⟨by rfl, ?_⟩) (by assumption) ?_
    rotate_left
    · intro w' hSw
      have k4 := hSw
      go_simp
      try with_reducible rfl
    try simp only [Act.put, List.setIfInBounds_toArray, List.set_cons_zero, List.set_cons_succ, List.getElem_toArray, List.getElem_cons_succ, List.getElem_cons_zero]
    refine wpAnyH_take (i := 2) (v := ?_) rfl (by kernel_rfl) (by kernel_rfl) (by kernel_rfl) (fun _ _ _ h => h) (Or.inl ⟨by rfl, ?_⟩) (by assumption) ?_
    rotate_left
    · intro w' hSw
      have k4 := hSw
      go_simp
      try with_reducible rfl
    try simp only [Act.put, List.setIfInBounds_toArray, List.set_cons_zero, List.set_cons_succ, List.getElem_toArray, List.getElem_cons_succ, List.getElem_cons_zero]
    refine wpAnyH_take (i := 3) (v := ?_) rfl (by kernel_rfl) (by kernel_rfl) (by kernel_rfl) (fun _ _ _ h => h) (Or.inl ⟨by rfl, ?_⟩) (by assumption) ?_
    rotate_left
    · intro w' hSw
      have k4 := hSw
      go_simp
      try with_reducible rfl
    try simp only [Act.put, List.setIfInBounds_toArray, List.set_cons_zero, List.set_cons_succ, List.getElem_toArray, List.getElem_cons_succ, List.getElem_cons_zero]
    refine wpAnyH_take (i := 5) (v := ?_) rfl (by kernel_rfl) (by kernel_rfl) (by kernel_rfl) (fun _ _ _ h => h) (Or.inl ⟨by rfl, ?_⟩) (by assumption) ?_
    rotate_left
    · intro w' hSw
      have k4 := hSw
      go_simp
      try with_reducible rfl
    try simp only [Act.put, List.setIfInBounds_toArray, List.set_cons_zero, List.set_cons_succ, List.getElem_toArray, List.getElem_cons_succ, List.getElem_cons_zero]
    refine wpAnyH_take (i := 6) (v := ?_) rfl (by kernel_rfl) (by kernel_rfl) (by kernel_rfl) (fun _ _ _ h => h) (Or.inl ⟨by rfl, ?_⟩) (by assumption) ?_
    rotate_left
    · intro w' hSw
      have k4 := hSw
      go_simp
      try with_reducible rfl
    try simp only [Act.put, List.setIfInBounds_toArray, List.set_cons_zero, List.set_cons_succ, List.getElem_toArray, List.getElem_cons_succ, List.getElem_cons_zero]
    refine wpAnyH_take (i := 7) (v := ?_) rfl (by kernel_rfl) (by kernel_rfl) (by kernel_rfl) (fun _ _ _ h => h) (Or.inl ⟨by rfl, ?_⟩) (by assumption) ?_
    rotate_left
    · intro w' hSw
      have k4 := hSw
      go_simp
      try with_reducible rfl
    try simp only [Act.put, List.setIfInBounds_toArray, List.set_cons_zero, List.set_cons_succ, List.getElem_toArray, List.getElem_cons_succ, List.getElem_cons_zero]
    refine wpAnyH_take (i := 8) (v := ?_) rfl (by kernel_rfl) (by kernel_rfl) (by kernel_rfl) (fun _ _ _ h => h) (Or.inl ⟨by rfl, ?_⟩) (by assumption) ?_
    rotate_left
    · intro w' hSw
      have k4 := hSw
      go_simp
      try with_reducible rfl
    try simp only [Act.put, List.setIfInBounds_toArray, List.set_cons_zero, List.set_cons_succ, List.getElem_toArray, List.getElem_cons_succ, List.getElem_cons_zero]
    refine wpAnyH_ready (rs := [4, 9]) (by kernel_rfl) (by simp) ?_
    refine AllReadyH.cons rfl (fun K hK => ?_) (AllReadyH.cons rfl (fun K hK => ?_) AllReadyH.nil)
    ·
      rw [if_pos (by rfl)]
      refine wp_load1 rfl (by rfl) (blkc HKg.out _ _ kg) Tryz.underlying93 rfl ?_
      refine hK.out _ _ hHeld (fun hH12 => ?_)
      clear hK K
      try simp only [Act.put, List.setIfInBounds_toArray, List.set_cons_zero, List.set_cons_succ, List.getElem_toArray, List.getElem_cons_succ, List.getElem_cons_zero]
      refine wpAnyH_ready (rs := [9]) (by kernel_rfl) (by simp) ?_
      refine AllReadyH.cons rfl (fun K hK => ?_) AllReadyH.nil
      rw [if_pos (by rfl)]
      refine wp_built (e := 3) (cs := #[intV i]) rfl (by rfl) (info_zl i) ?_
      have hx := rd_made wg.drew 3 #[intV i]
      generalize hwn : World.alloc _ _ = wm at hx ⊢
      have hfn : Fr wg.drew wm (fun _ => False) := hwn ▸ Fr.new _ _ _
      refine hK.out _ _ (cell4_kept hfn hH12) (fun hH13 => ?_)
      clear hK K
      try simp only [Act.put, List.setIfInBounds_toArray, List.set_cons_zero, List.set_cons_succ, List.getElem_toArray, List.getElem_cons_succ, List.getElem_cons_zero]
      have hOa := hOd2.kept hfn
      have hBa := hfn.blk hBd2 (fun h => h)
      refine wpAnyH_ready (rs := [10]) (by kernel_rfl) (by simp) ?_
      refine AllReadyH.cons rfl (fun K hK => ?_) AllReadyH.nil
      rw [if_pos (by rfl)]
      refine wp_append_rd _ (.tmp 52) (.tmp 57) 93 rfl M 3 j0 _ 1 8 Tryz.underlying93 hj0 jz0 jz1 jz2 rfl (by decide) _ z'.lines.length _ rfl hOa.hy.l _ 1 1 [intV i] rfl hx (by intro u hu; simp at hu; subst hu; rfl) (by simp only [maxLen]; omega) (by omega) hOa.hM ?_
      intro v9 w19 hown9 hg9 _
      obtain ⟨A19, cap19, rfl⟩ := Go.Mem.own_slice hown9
      have hf9 := Fr.ofGrown hg9
      have hO9 := openz_line hOa hf9 (own_more (x := i) hown9 rfl)
      obtain ⟨cs9, -, hk9, hcs9, -, -⟩ := hOa.cells
      have hkk := hf9.blk hk9 (fun e => by obtain ⟨-, -, cs2, hb2⟩ := own_block hOa.hy.l e.symm; exact absurd (blk_same hk9 hb2) (by decide))
      have hb9 := hf9.blk hBa (fun e => by have := (own_block hOa.hy.l e.symm).1; have := hOa.hB; omega)
      have hgx := gx_trans HFg.out (gx_trans (gx_none (Fr.drew wg _)) (gx_new hfn ((tb_own hOa.hy.l hf9).mono (fun i _ hx => .inr ⟨Nat.le_trans hOa.hB hx.1, _, hx.2.choose, hx.2.choose_spec, by decide⟩))))
      refine hK.out _ _ (blkc hb9 4 _ rfl) (fun hH9 => ?_)
      clear hK K hx hown9
      try simp only [Act.put, List.setIfInBounds_toArray, List.set_cons_zero, List.set_cons_succ, List.getElem_toArray, List.getElem_cons_succ, List.getElem_cons_zero]
      refine wpAnyH_take (i := 11) (v := ?_) rfl (by kernel_rfl) (by kernel_rfl) (by kernel_rfl) (fun _ _ _ h => h) (Or.inl ⟨by rfl, ?_⟩) (by assumption) ?_
      rotate_left
      · intro w' hSw
        skip
        go_simp
        try with_reducible rfl
      try simp only [Act.put, List.setIfInBounds_toArray, List.set_cons_zero, List.set_cons_succ, List.getElem_toArray, List.getElem_cons_succ, List.getElem_cons_zero]
      refine wpAnyH_take (i := 12) (v := ?_) rfl (by kernel_rfl) (by kernel_rfl) (by kernel_rfl) (fun _ _ _ h => h) (Or.inl ⟨by rfl, ?_⟩) (by assumption) ?_
      rotate_left
      · intro w' hSw
        skip
        go_simp
        try with_reducible rfl
      try simp only [Act.put, List.setIfInBounds_toArray, List.set_cons_zero, List.set_cons_succ, List.getElem_toArray, List.getElem_cons_succ, List.getElem_cons_zero]
      refine wpAnyH_ready (rs := [13]) (by kernel_rfl) (by simp) ?_
      refine AllReadyH.cons rfl (fun K hK => ?_) AllReadyH.nil
      rw [if_pos (by rfl)]
      refine wp_store1 (v := .slice A19 (z'.lines.length + 1) cap19) rfl rfl (by rfl) (by rfl) hkk info_is rfl (by omega) ?_
      have hgy := gx_trans hgx (tb_gx (g := g) (tb_set (j := a.length * 3 + 2) (v := .slice A19 (z'.lines.length + 1) cap19) hkk hBz) (by decide))
      generalize hwg : World.setCell w19 _ _ = wk at hgy hO9 ⊢
      have hsg : Fr w19 wk (fun k => k = bz) := hwg ▸ Fr.set (S := fun k => k = bz) rfl
      have hbg := hsg.blk hb9 (fun e => by subst e; exact absurd (blk_same hb9 hkk) (by decide))
      refine hK.out _ _ (blkc hbg 4 _ rfl) (fun _ => ?_)
      clear hK K
      refine wpAnyH_done (by kernel_rfl) ?_ _
      have HOk := Lib.hid hO9
      have HBk := Lib.hid hbg
      have HFk := Lib.hid hgy
      clear hO9 hbg hgy hsg hb9 hkk hOa hBa hf9 hgx hwg hk9 hcs9
      go_wp2_with fail
      go_end0
      exact ⟨rfl, gat_mk hlt HBk.out (HOk.out.gr (by show s.done ++ [_] = _; rw [ha]) rfl rfl rfl), HFk.out⟩
    ·
      rw [if_pos (by rfl)]
      refine wp_built (e := 3) (cs := #[intV i]) rfl (by rfl) (info_zl i) ?_
      have hx := rd_made wg.drew 3 #[intV i]
      generalize hwn : World.alloc _ _ = wm at hx ⊢
      have hfn : Fr wg.drew wm (fun _ => False) := hwn ▸ Fr.new _ _ _
      refine hK.out _ _ (cell4_kept hfn hHeld) (fun hH12 => ?_)
      clear hK K
      try simp only [Act.put, List.setIfInBounds_toArray, List.set_cons_zero, List.set_cons_succ, List.getElem_toArray, List.getElem_cons_succ, List.getElem_cons_zero]
      have hKm := hfn.blk HKg.out (fun h => h)
      refine wpAnyH_ready (rs := [4]) (by kernel_rfl) (by simp) ?_
      refine AllReadyH.cons rfl (fun K hK => ?_) AllReadyH.nil
      rw [if_pos (by rfl)]
      refine wp_load1 rfl (by rfl) (blkc hKm _ _ kg) Tryz.underlying93 rfl ?_
      refine hK.out _ _ hH12 (fun hH13 => ?_)
      clear hK K
      try simp only [Act.put, List.setIfInBounds_toArray, List.set_cons_zero, List.set_cons_succ, List.getElem_toArray, List.getElem_cons_succ, List.getElem_cons_zero]
      have hOa := hOd2.kept hfn
      have hBa := hfn.blk hBd2 (fun h => h)
      refine wpAnyH_ready (rs := [10]) (by kernel_rfl) (by simp) ?_
      refine AllReadyH.cons rfl (fun K hK => ?_) AllReadyH.nil
      rw [if_pos (by rfl)]
      refine wp_append_rd _ (.tmp 52) (.tmp 57) 93 rfl M 3 j0 _ 1 8 Tryz.underlying93 hj0 jz0 jz1 jz2 rfl (by decide) _ z'.lines.length _ rfl hOa.hy.l _ 1 1 [intV i] rfl hx (by intro u hu; simp at hu; subst hu; rfl) (by simp only [maxLen]; omega) (by omega) hOa.hM ?_
      intro v9 w19 hown9 hg9 _
      obtain ⟨A19, cap19, rfl⟩ := Go.Mem.own_slice hown9
      have hf9 := Fr.ofGrown hg9
      have hO9 := openz_line hOa hf9 (own_more (x := i) hown9 rfl)
      obtain ⟨cs9, -, hk9, hcs9, -, -⟩ := hOa.cells
      have hkk := hf9.blk hk9 (fun e => by obtain ⟨-, -, cs2, hb2⟩ := own_block hOa.hy.l e.symm; exact absurd (blk_same hk9 hb2) (by decide))
      have hb9 := hf9.blk hBa (fun e => by have := (own_block hOa.hy.l e.symm).1; have := hOa.hB; omega)
      have hgx := gx_trans HFg.out (gx_trans (gx_none (Fr.drew wg _)) (gx_new hfn ((tb_own hOa.hy.l hf9).mono (fun i _ hx => .inr ⟨Nat.le_trans hOa.hB hx.1, _, hx.2.choose, hx.2.choose_spec, by decide⟩))))
      refine hK.out _ _ (blkc hb9 4 _ rfl) (fun hH9 => ?_)
      clear hK K hx hown9
      try simp only [Act.put, List.setIfInBounds_toArray, List.set_cons_zero, List.set_cons_succ, List.getElem_toArray, List.getElem_cons_succ, List.getElem_cons_zero]
      refine wpAnyH_take (i := 11) (v := ?_) rfl (by kernel_rfl) (by kernel_rfl) (by kernel_rfl) (fun _ _ _ h => h) (Or.inl ⟨by rfl, ?_⟩) (by assumption) ?_
      rotate_left
      · intro w' hSw
        skip
        go_simp
        try with_reducible rfl
      try simp only [Act.put, List.setIfInBounds_toArray, List.set_cons_zero, List.set_cons_succ, List.getElem_toArray, List.getElem_cons_succ, List.getElem_cons_zero]
      refine wpAnyH_take (i := 12) (v := ?_) rfl (by kernel_rfl) (by kernel_rfl) (by kernel_rfl) (fun _ _ _ h => h) (Or.inl ⟨by rfl, ?_⟩) (by assumption) ?_
      rotate_left
      · intro w' hSw
        skip
        go_simp
        try with_reducible rfl
      try simp only [Act.put, List.setIfInBounds_toArray, List.set_cons_zero, List.set_cons_succ, List.getElem_toArray, List.getElem_cons_succ, List.getElem_cons_zero]
      refine wpAnyH_ready (rs := [13]) (by kernel_rfl) (by simp) ?_
      refine AllReadyH.cons rfl (fun K hK => ?_) AllReadyH.nil
      rw [if_pos (by rfl)]
      refine wp_store1 (v := .slice A19 (z'.lines.length + 1) cap19) rfl rfl (by rfl) (by rfl) hkk info_is rfl (by omega) ?_
      have hgy := gx_trans hgx (tb_gx (g := g) (tb_set (j := a.length * 3 + 2) (v := .slice A19 (z'.lines.length + 1) cap19) hkk hBz) (by decide))
      generalize hwg : World.setCell w19 _ _ = wk at hgy hO9 ⊢
      have hsg : Fr w19 wk (fun k => k = bz) := hwg ▸ Fr.set (S := fun k => k = bz) rfl
      have hbg := hsg.blk hb9 (fun e => by subst e; exact absurd (blk_same hb9 hkk) (by decide))
      refine hK.out _ _ (blkc hbg 4 _ rfl) (fun _ => ?_)
      clear hK K
      refine wpAnyH_done (by kernel_rfl) ?_ _
      have HOk := Lib.hid hO9
      have HBk := Lib.hid hbg
      have HFk := Lib.hid hgy
      clear hO9 hbg hgy hsg hb9 hkk hOa hBa hf9 hgx hwg hk9 hcs9
      go_wp2_with fail
      go_end0
      exact ⟨rfl, gat_mk hlt HBk.out (HOk.out.gr (by show s.done ++ [_] = _; rw [ha]) rfl rfl rfl), HFk.out⟩
end Go.Proofs.YtodcnbejnchmhaaGreatDoor
