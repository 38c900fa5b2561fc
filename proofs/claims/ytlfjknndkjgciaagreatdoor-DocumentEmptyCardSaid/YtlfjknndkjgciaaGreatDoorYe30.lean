import Derived.Test.YtlfjknndkjgciaaGreatDoorYe29
namespace Go.Proofs.YtlfjknndkjgciaaGreatDoor
open Go.RowKit Go.Mem Go.Lin Go.Dcm
/-- a row with an element: its block -/
theorem own_some {X : Type} {w : World} {B : Nat} {e : TypeId} {k : Nat} {f : X → List Value} {A : Option Addr} {n c : Nat} {l : List X} (h : Own w B e k f (.slice A n c) l) (hn : n = l.length) (hpos : 0 < l.length) : ∃ b C, A = some ⟨b, 0, none⟩ ∧ B ≤ b ∧ Blk w b e C ∧ l.length * k ≤ C.size ∧ ∀ (j : Nat) (u : Value), (l.flatMap f)[j]? = some u → C[j]? = some u := by
  obtain ⟨A', c', e', -, -, -, hA, hA2⟩ := own_rd h
  injection e' with e1 e2 e3
  subst e1
  cases A with
  | none => exact absurd (hA rfl).1 (by omega)
  | some A =>
    obtain ⟨b, rfl, -⟩ := hA2 A rfl
    obtain ⟨C, h1, h2, h3, h4⟩ := own_blk h hn
    exact ⟨b, C, rfl, h1, h2, h3, h4⟩
/-- what stays while the document c is turned: its block, its rows -/
structure ES (W7 W : World) (q : Nat) (vr vz vl vd : Value) (R : List (RuleL × Int)) (Z : List ZV) (K : List LinkL) : Prop where
  b : Blk W q 31 #[vr, vz, vl, vd]
  r : Own W W7.heap.size 61 12 ruleL vr R
  z : Own W W7.heap.size 69 3 zoneL vz Z
  l : Own W W7.heap.size 63 3 linkL vl K
  f : Fr W7 W (fun _ => False)
theorem ES.kept {W7 W W' : World} {q : Nat} {vr vz vl vd : Value} {R : List (RuleL × Int)} {Z : List ZV} {K : List LinkL} (h : ES W7 W q vr vz vl vd R Z K) (hf : Fr W W' (fun _ => False)) : ES W7 W' q vr vz vl vd R Z K :=
  ⟨hf.blk h.b (fun h => h), h.r.kept hf, h.z.kept hf, h.l.kept hf, ff0 h.f hf⟩
theorem ES.tb {W7 W W' : World} {q : Nat} {vr vz vl vd : Value} {X : List (RuleL × Int)} {Z : List ZV} {K : List LinkL} (h : ES W7 W q vr vz vl vd X Z K) (hf : Fr W W' (TB W7.heap.size 65 W)) : ES W7 W' q vr vz vl vd X Z K :=
  ⟨R.blk_tb h.b hf (by decide), far_tb h.r hf (by decide), far_tb h.z hf (by decide), far_tb h.l hf (by decide), h.f.fresh hf (fun i h => h.1)⟩
theorem ES.put {W7 W W' : World} {q : Nat} {vr vz vl vd vd' : Value} {X : List (RuleL × Int)} {Z : List ZV} {K : List LinkL} (h : ES W7 W q vr vz vl vd X Z K) (hf : Fr W W' (fun i => i = q)) (hb : Blk W' q 31 #[vr, vz, vl, vd']) (hq : W7.heap.size ≤ q) : ES W7 W' q vr vz vl vd' X Z K :=
  ⟨hb, R.own_q h.r h.b hf (by decide), R.own_q h.z h.b hf (by decide), R.own_q h.l h.b hf (by decide), h.f.fresh hf (fun i e => by have e : i = q := e; omega)⟩
def diagC (x : DiagL) : Array Value := #[strV [], intV x.line, intV x.col, intV x.k]
theorem diagC_one (x : DiagL) : (diagC x).all (·.oneCell') = true := by simp [diagC, Value.oneCell']
theorem infoG (x : DiagL) : (Tryz.prog.info? 65).map (·.size) = some (diagC x).size := infoDiag1
theorem info_diags1 : (Tryz.prog.info? 29).map (·.size) = some 1 := by kernel_rfl
theorem info_ints1 : (Tryz.prog.info? 66).map (·.size) = some 1 := by kernel_rfl
theorem infoTdoc (a b c e : Value) : (Tryz.prog.info? 37).map (·.size) = some (#[a, b, c, e] : Array Value).size := show _ = some 4 by kernel_rfl
theorem infoTrdoc (a b c e : Value) : (Tryz.prog.info? 31).map (·.size) = some (#[a, b, c, e] : Array Value).size := show _ = some 4 by kernel_rfl
/-- a row that is read: an element, in any later world -/
theorem zat_q {w w' : World} {B q : Nat} {t : TypeId} {cs : Array Value} {y : ZV} (h : ZAt w B y) (hq : Blk w q t cs) (hf : Fr w w' (fun i => i = q)) (h1 : 55 ≠ t) (h2 : 3 ≠ t) : ZAt w' B y := ⟨R.own_q h.e hq hf h1, R.own_q h.l hq hf h2⟩
theorem line_cells_one (x : LineL) : ∀ u ∈ lineL x, u.oneCell' = true := one_made (lineC_one x)
set_option maxRecDepth 100000 in
set_option maxHeartbeats 16000000 in
theorem empty_main (l1 l2 : List LineL) (A : Option Addr) (N c : Nat) (w : World) (hN : N = l1.length + l2.length) (hl : LinesAt w A (l1 ++ l2)) (hcap : N ≤ c) (hcm : c ≤ maxLen) (hb : lightD (l1 ++ l2) = true) (hw : LOk w) : Calls Tryz.prog 5 #[.slice A N c, intV (l1.length : Int)] w (TrueR w) := by
  have HW := Lib.hid (fun (W : World) (f : Fr w W (fun _ => False)) => alive10_any W (hw.fr f))
  have hlen := light_len hb
  rw [List.length_append] at hlen
  have hN60 : N ≤ 60 := by omega
  have hcm2 : c ≤ 9223372036854775807 := by unfold maxLen at hcm; omega
  have hLN : (l1 ++ l2).length = N := by rw [List.length_append, hN]
  have HT := Lib.hid (show Calls Tryz.prog 9 #[.slice A N c] w (fun e w' => e = .returned (.bool true) ∧ Fr w w' (fun _ => False)) from hLN ▸ light10_any (l1 ++ l2) A c w hl (by unfold maxLen; omega) true hb)
  have HL := Lib.hid hl
  have HZO := Lib.hid (zn_doc (l := l1 ++ l2))
  have HZE := Lib.hid (zn_doc (l := l1 ++ lineZ :: l2))
  have hE := empty_of l1 l2
  have hszs := sizes_of (l1 ++ l2)
  have hszs2 := sizes_of (l1 ++ lineZ :: l2)
  have hlr := line_range (l1 ++ l2)
  rw [hLN] at hszs hlr
  rw [show (l1 ++ lineZ :: l2).length = N + 1 by rw [List.length_append, List.length_cons, hN]; omega] at hszs2
  have HD := Lib.hid (fun (W : World) (f : Fr w W (fun _ => False)) => (hLN ▸ dOf_any (l1 ++ l2) A c W (hl.kept f) (by omega) : Calls Tryz.prog 13 #[.slice A N c] W (DocPost 72 71 78 W (ofD (l1 ++ l2)))))
  have HD2 := Lib.hid (fun (W : World) (A9 : Option Addr) (c9 : Nat) (hl9 : LinesAt W A9 (l1 ++ [lineZ] ++ l2)) => (by
    have := dOf_any (l1 ++ [lineZ] ++ l2) A9 c9 W hl9 (by simp; omega)
    rw [show (l1 ++ [lineZ] ++ l2).length = l1.length + 1 + l2.length by simp; omega, show l1 ++ [lineZ] ++ l2 = l1 ++ lineZ :: l2 by simp] at this
    exact this : Calls Tryz.prog 13 #[.slice A9 (l1.length + 1 + l2.length) c9] W (DocPost 72 71 78 W (ofD (l1 ++ lineZ :: l2)))))
  rw [hE] at HD2 hszs2 HZE
  obtain ⟨d, hd⟩ : ∃ d, ofD (l1 ++ l2) = d := ⟨_, rfl⟩
  rw [hd] at HD HD2 HZO HZE hszs hszs2 hlr
  obtain ⟨e, he⟩ : ∃ e, mvD (moved (l1.length : Int)) d = e := ⟨_, rfl⟩
  have HE := Lib.hid he
  rw [he] at HD2 hszs2 HZE
  have HLR := Lib.hid hlr
  obtain ⟨d1, d2, d3, d4⟩ := hszs
  obtain ⟨e1, e2, e3, e4⟩ := hszs2
  have hn0 : (0 : Int) ≤ (l1.length : Int) := by omega
  have hnN : (l1.length : Int) ≤ (N : Int) := by omega
  have hnc : (l1.length : Int) ≤ (c : Int) := by omega
  have hn60 : (l1.length : Int) ≤ 60 := by omega
  have hN64 : (N : Int) ≤ 60 := by omega
  have hc64 : (c : Int) ≤ 9223372036854775807 := by omega
  have HN := Lib.hid hN
  clear hl hw hb hd he hlr hE hLN hN hlen
  go_enter Tryz.func5, Tryz.ntmps5
  go_wp2_with fail
  refine HT.out.mono ?_
  rintro e w2 ⟨rfl, hf2⟩
  have HDa := Lib.hid (HD.out w2 hf2)
  have HF2 := Lib.hid hf2
  clear hf2
  go_wp2_with fail
  refine HDa.out.mono ?_
  rintro e w3 ⟨vr, vz, vl, vd, rfl, hd3, hf3⟩
  obtain ⟨Ar, cr, Az, cz, Al, cl, Ad, cd, rfl, rfl, rfl, rfl⟩ := doc_slices hd3
  have hv := dvar_new 37 hd3
  have hn := Fr.new w3 (.cells #[.slice Ar d.rules.length cr, .slice Az d.zones.length cz, .slice Al d.links.length cl, .slice Ad d.diags.length cd] 37) (fun _ => False)
  have HVA := Lib.hid hv
  have HF4 := Lib.hid (ff0 (ff0 HF2.out hf3) hn)
  clear hd3 hf3 hv hn
  go_wp2_with fail
  obtain ⟨W4, hW4⟩ : ∃ W, w3.alloc (.cells #[.slice Ar d.rules.length cr, .slice Az d.zones.length cz, .slice Al d.links.length cl, .slice Ad d.diags.length cd] 37) = W := ⟨_, rfl⟩
  rw [hW4] at HVA HF4 ⊢
  clear hW4
  have hN := HN.out
  have hRd := (HL.out.kept HF4.out).kept (Fr.drew W4 (fun _ => False))
  have hRd : Rd W4.drew 29 A (l1.length + l2.length) ((l1 ++ l2).flatMap lineL) := by have h := hRd; unfold LinesAt at h; rw [List.length_append] at h; exact h
  have hR1 := hRd.cut (lo := 0) (hi := l1.length) (Nat.zero_le _) (Nat.le_add_right _ _)
  have hR2 := hRd.cutA (cap := c) (lo := l1.length) (hi := l1.length + l2.length) (Nat.le_add_right _ _) (Nat.le_refl _) (by omega)
  have f1 := flat_len lineL 29 lineL_len l1
  have f2 := flat_len lineL 29 lineL_len l2
  have hR1 : Rd W4.drew 29 A l1.length (l1.flatMap lineL) := by
    have h := hR1
    rw [List.flatMap_append, Nat.zero_mul, List.drop_zero, Nat.sub_zero, ← f1, List.take_left] at h
    have e : A.map (·.add 0) = A := by cases A with | none => rfl | some a => simp [Addr.add]
    rw [e] at h
    exact h
  have hR2 : Rd W4.drew 29 (cutA A c l1.length 29) l2.length (l2.flatMap lineL) := by
    have h := hR2
    rw [List.flatMap_append, ← f1, List.drop_left, Nat.add_sub_cancel_left, ← f2, List.take_length] at h
    exact h
  have HR1 := Lib.hid hR1
  have HR2 := Lib.hid hR2
  clear hRd hR1 hR2 f1 f2 hN
  refine wp_region_held_drew (S := fun w' => Fr W4 w' (fun _ => False)) (by kernel_rfl) (Fr.drew W4 _) (fun hHeld => ?_)
  refine wpAnyH_take (i := 1) (v := ?_) rfl (by kernel_rfl) (by kernel_rfl) (by kernel_rfl) (fun _ _ _ h => h) (Or.inl ⟨by rfl, ?_⟩) (by assumption) ?_
  rotate_left
  · intro w' hSw
    skip
    go_simp
    try with_reducible rfl
  try simp only [Act.put, List.setIfInBounds_toArray, List.set_cons_zero, List.set_cons_succ, List.getElem_toArray, List.getElem_cons_succ, List.getElem_cons_zero]
  refine wpAnyH_take (i := 2) (v := ?_) rfl (by kernel_rfl) (by kernel_rfl) (by kernel_rfl) (fun _ _ _ h => h) (Or.inl ⟨by rfl, ?_⟩) (by assumption) ?_
  rotate_left
  · intro w' hSw
    skip
    go_simp
    try with_reducible rfl
  try simp only [Act.put, List.setIfInBounds_toArray, List.set_cons_zero, List.set_cons_succ, List.getElem_toArray, List.getElem_cons_succ, List.getElem_cons_zero]
  refine wpAnyH_take (i := 3) (v := ?_) rfl (by kernel_rfl) (by kernel_rfl) (by kernel_rfl) (fun _ _ _ h => h) (Or.inl ⟨by rfl, ?_⟩) (by assumption) ?_
  rotate_left
  · intro w' hSw
    skip
    go_simp
    try with_reducible rfl
  try simp only [Act.put, List.setIfInBounds_toArray, List.set_cons_zero, List.set_cons_succ, List.getElem_toArray, List.getElem_cons_succ, List.getElem_cons_zero]
  refine wpAnyH_take (i := 5) (v := _) rfl (by kernel_rfl) (by kernel_rfl) (by kernel_rfl) (fun _ _ _ h => h) ((Or.inl ⟨by rfl, fun w' _ => by kernel_rfl⟩ : YieldsIf _ _ _ _ (.agg (lineC lineZ)) _)) (by assumption) ?_
  try simp only [Act.put, List.setIfInBounds_toArray, List.set_cons_zero, List.set_cons_succ, List.getElem_toArray, List.getElem_cons_succ, List.getElem_cons_zero]
  refine wpAnyH_take (i := 8) (v := ?_) rfl (by kernel_rfl) (by kernel_rfl) (by kernel_rfl) (fun _ _ _ h => h) (Or.inl ⟨by rfl, ?_⟩) (by assumption) ?_
  rotate_left
  · intro w' hSw
    skip
    go_simp
    try with_reducible rfl
  try simp only [Act.put, List.setIfInBounds_toArray, List.set_cons_zero, List.set_cons_succ, List.getElem_toArray, List.getElem_cons_succ, List.getElem_cons_zero]
  refine wpAnyH_take (i := 9) (v := ?_) rfl (by kernel_rfl) (by kernel_rfl) (by kernel_rfl) (fun _ _ _ h => h) (Or.inl ⟨by rfl, ?_⟩) (by assumption) ?_
  rotate_left
  · intro w' hSw
    skip
    go_simp
    try with_reducible rfl
  try simp only [Act.put, List.setIfInBounds_toArray, List.set_cons_zero, List.set_cons_succ, List.getElem_toArray, List.getElem_cons_succ, List.getElem_cons_zero]
  refine wpAnyH_take (i := 10) (v := ?_) rfl (by kernel_rfl) (by kernel_rfl) (by kernel_rfl) (fun _ _ _ h => h) (Or.inl ⟨by rfl, ?_⟩) (by assumption) ?_
  rotate_left
  · intro w' hSw
    skip
    go_simp
    try with_reducible rfl
  try simp only [Act.put, List.setIfInBounds_toArray, List.set_cons_zero, List.set_cons_succ, List.getElem_toArray, List.getElem_cons_succ, List.getElem_cons_zero]
  have hNl : N - l1.length = l2.length := by have := HN.out; omega
  rw [hNl]
  obtain ⟨A2, hA2⟩ : ∃ A2, cutA A c l1.length 29 = A2 := ⟨_, rfl⟩
  have hcA : (if c = l1.length then A else Option.map (fun x => x.add (l1.length * 29)) A) = A2 := hA2
  rw [hcA]
  rw [hA2] at HR2
  clear hcA hA2
  refine wpAnyH_app3 (f := lineL) (l1 := l1) (l2 := l2) 0 4 6 7 11 _ _ _ _ _ rfl rfl rfl rfl rfl (by kernel_rfl) (by kernel_rfl) (by kernel_rfl) (by kernel_rfl) (by kernel_rfl) (by kernel_rfl) (by kernel_rfl) (by decide) (by decide) rfl rfl rfl rfl rfl rfl rfl rfl rfl rfl (by decide) (by decide) rfl rfl rfl
    (lineC lineZ) (.agg (lineC lineZ)) lineZ A A2 c (c - l1.length) (fun _ _ => ⟨rfl, rfl⟩) rfl (fun w => by kernel_rfl) (fun w => by kernel_rfl) rfl (lineC_one _) (fun _ _ => ⟨rfl, rfl⟩) (fun _ _ => ⟨rfl, rfl⟩) (fun _ _ _ => rfl) (fun _ _ _ => rfl) (fun _ _ _ _ => rfl) (fun _ _ _ _ => rfl)
    _ 29 280 Tryz.underlying22 infoLine rfl (by decide) rfl line_cells_one HR1.out HR2.out (by omega) (by decide) (fun W hf => ff0 (Fr.drew W4 _) hf) ?_
  intro u1 u2 u3 u4 A9 c9 W5 hS5 ho5 hf5
  clear hHeld hNl HR1 HR2
  obtain ⟨A9', c9', e9, -, -, hr9⟩ := ho5.rd
  injection e9 with e91 e92 e93
  subst e91 e93
  have HDb := Lib.hid (HD2.out W5 A9 c9 hr9)
  have HVA5 := Lib.hid (HVA.out.kept hS5)
  have HF5 := Lib.hid (ff0 HF4.out hS5)
  clear ho5 hf5 e92 hr9
  try simp only [Act.put, List.setIfInBounds_toArray, List.set_cons_zero, List.set_cons_succ, List.getElem_toArray, List.getElem_cons_succ, List.getElem_cons_zero]
  refine wpAnyH_take (i := 12) (v := ?_) rfl (by kernel_rfl) (by kernel_rfl) (by kernel_rfl) (fun _ _ _ h => h) (Or.inl ⟨by rfl, ?_⟩) (by assumption) ?_
  rotate_left
  · intro w' hSw
    skip
    go_simp
    try with_reducible rfl
  try simp only [Act.put, List.setIfInBounds_toArray, List.set_cons_zero, List.set_cons_succ, List.getElem_toArray, List.getElem_cons_succ, List.getElem_cons_zero]
  refine wpAnyH_done (by kernel_rfl) ?_ _
  clear hS5
  go_wp2_with fail
  refine HDb.out.mono ?_
  rintro e w6 ⟨xr, xz, xl, xd, rfl, hd6, hf6⟩
  obtain ⟨Br, er, Bz, ez, Bl, el, Bd, ed, rfl, rfl, rfl, rfl⟩ := doc_slices hd6
  have hvb := dvar_new 37 hd6
  have hn7 := Fr.new w6 (.cells #[.slice Br e.rules.length er, .slice Bz e.zones.length ez, .slice Bl e.links.length el, .slice Bd e.diags.length ed] 37) (fun _ => False)
  have hva := (HVA5.out.kept hf6).kept hn7
  have a0 := blkc hva.b 0 _ rfl
  have a1 := blkc hva.b 1 _ rfl
  have a2 := blkc hva.b 2 _ rfl
  have a3 := blkc hva.b 3 _ rfl
  obtain ⟨zv, hzv, hr, hz, hall, hl, hg⟩ := doc_parts hva.d
  have HB := Lib.hid (Back_any d _ _ _ _ _ _ zv hzv hr hz hall hl hg (by omega) (by omega) (by omega))
  have HVB := Lib.hid hvb
  have HF7 := Lib.hid (ff0 (ff0 HF5.out hf6) hn7)
  have HZV := Lib.hid hzv
  have HAL := Lib.hid hall
  have HG := Lib.hid hg
  clear hd6 hf6 hvb hn7 hva hzv hr hz hall hl hg HDb
  go_wp2_with fail
  refine HB.out.mono ?_
  rintro e w8 ⟨br, bz, bl, rfl, hbr, hbz, hbl, hf8⟩
  obtain ⟨W7, hW7⟩ : ∃ W, w6.alloc (.cells #[.slice Br e.rules.length er, .slice Bz e.zones.length ez, .slice Bl e.links.length el, .slice Bd e.diags.length ed] 37) = W := ⟨_, rfl⟩
  rw [hW7] at hbr hbz hbl hf8 HVB HF7 HAL HG
  have s7 : W7.heap.size = w6.heap.size + 1 := by rw [← hW7]; simp
  clear hW7 a0 a1 a2 a3 HB
  obtain ⟨Kr, kr, rfl⟩ := hbr.slice
  obtain ⟨Kz, kz, rfl⟩ := hbz.slice
  obtain ⟨Kl, kl, rfl⟩ := hbl.slice
  have hzl : zv.length = d.zones.length := by have := HZV.out; rw [← this, List.length_map]
  rw [hzl]
  have hn9 := Fr.new w8 (.cells #[.slice Kr d.rules.length kr, .slice Kz d.zones.length kz, .slice Kl d.links.length kl, .slice Ad d.diags.length cd] 31) (fun _ => False)
  have HS := Lib.hid (show ES W7 (w8.alloc (.cells #[.slice Kr d.rules.length kr, .slice Kz d.zones.length kz, .slice Kl d.links.length kl, .slice Ad d.diags.length cd] 31)) w8.heap.size (.slice Kr d.rules.length kr) (.slice Kz d.zones.length kz) (.slice Kl d.links.length kl) (.slice Ad d.diags.length cd) d.rules zv d.links from
    ⟨Blk.made w8 31 #[.slice Kr d.rules.length kr, .slice Kz d.zones.length kz, .slice Kl d.links.length kl, .slice Ad d.diags.length cd], hbr.kept hn9, (by have h := hbz.kept hn9; rw [hzl] at h; exact h), hbl.kept hn9, ff0 hf8 hn9⟩)
  have hs8 := hf8.size
  have HZL := Lib.hid hzl
  clear hbr hbz hbl hf8 hn9 hzl
  have c0 := blkc HS.out.b 0 (.slice Kr d.rules.length kr) rfl
  go_wp2_with fail
  clear c0
  go_loopg [9] d.rules.length (fun k v wr => ∃ i : Nat, i + k = d.rules.length ∧ v = intV (i : Int) ∧ ES W7 wr w8.heap.size (.slice Kr d.rules.length kr) (.slice Kz d.zones.length kz) (.slice Kl d.links.length kl) (.slice Ad d.diags.length cd) ((d.rules.take i).map (mvR (moved (l1.length : Int))) ++ d.rules.drop i) zv d.links)
  case atStart => exact ⟨0, by simp, rfl, by simpa using HS.out⟩
  case round =>
    obtain ⟨i, hik, rfl, hS⟩ := hrel
    by_cases hlt : i < d.rules.length
    · have hi1 : (i : Int) < (d.rules.length : Int) := by omega
      have hS9 := hS.kept (Fr.drew wr (fun _ => False))
      have hla : ((d.rules.take i).map (mvR (moved (l1.length : Int)))).length = i := by rw [List.length_map, List.length_take]; omega
      have hsp : (d.rules.take i).map (mvR (moved (l1.length : Int))) ++ d.rules.drop i = (d.rules.take i).map (mvR (moved (l1.length : Int))) ++ d.rules[i] :: d.rules.drop (i + 1) := by rw [List.drop_eq_getElem_cons hlt]
      have hlen' : ((d.rules.take i).map (mvR (moved (l1.length : Int))) ++ d.rules[i] :: d.rules.drop (i + 1)).length = d.rules.length := by rw [List.length_append, hla, List.length_cons, List.length_drop]; omega
      have hown := hS9.r
      rw [hsp] at hown
      obtain ⟨bR, C, rfl, hbB, hbR, hsz, hat⟩ := own_some hown hlen'.symm (by omega)
      have hx : C[i * 12 + 11]? = some (intV d.rules[i].2) := by
        refine hat _ _ ?_
        have := flat_get ruleL 12 ruleL_len (l := (d.rules.take i).map (mvR (moved (l1.length : Int))) ++ d.rules[i] :: d.rules.drop (i + 1)) (i := i) (x := d.rules[i]) (by rw [List.getElem?_append_right (by omega), hla]; simp) 11 (by decide)
        rw [this]
        rfl
      have hset : (((d.rules.take i).map (mvR (moved (l1.length : Int))) ++ d.rules[i] :: d.rules.drop (i + 1)).flatMap ruleL).set (i * 12 + 11) (intV (moved (l1.length : Int) d.rules[i].2)) = ((d.rules.take (i + 1)).map (mvR (moved (l1.length : Int))) ++ d.rules.drop (i + 1)).flatMap ruleL := by
        rw [upto_step (mvR (moved (l1.length : Int))) d.rules i hlt, List.append_assoc]
        have h := flat_put ruleL 12 ruleL_len ((d.rules.take i).map (mvR (moved (l1.length : Int)))) d.rules[i] ((mvR (moved (l1.length : Int))) d.rules[i]) (d.rules.drop (i + 1)) 11 (intV (moved (l1.length : Int) d.rules[i].2)) (by decide) rfl
        rw [hla] at h
        exact h
      have hlen2 : ((d.rules.take (i + 1)).map (mvR (moved (l1.length : Int))) ++ d.rules.drop (i + 1)).length = ((d.rules.take i).map (mvR (moved (l1.length : Int))) ++ d.rules[i] :: d.rules.drop (i + 1)).length := by
        rw [hlen', List.length_append, List.length_map, List.length_take, List.length_drop]; omega
      have hrg := HLR.out.1 d.rules[i] (List.getElem_mem hlt)
      have HMV := Lib.hid (fun W => moved_any (d.rules[i].2) (l1.length : Int) (by omega) (by omega) W)
      obtain ⟨y, hy⟩ : ∃ y, d.rules[i].2 = y := ⟨_, rfl⟩
      obtain ⟨y', hy'⟩ : ∃ y', moved (l1.length : Int) y = y' := ⟨_, rfl⟩
      have hx : C[i * 12 + 11]? = some (intV y) := by rw [← hy]; exact hx
      rw [hy, hy'] at HMV
      have hset : (((d.rules.take i).map (mvR (moved (l1.length : Int))) ++ d.rules[i] :: d.rules.drop (i + 1)).flatMap ruleL).set (i * 12 + 11) (intV y') = ((d.rules.take (i + 1)).map (mvR (moved (l1.length : Int))) ++ d.rules.drop (i + 1)).flatMap ruleL := by rw [← hy', ← hy]; exact hset
      have hJ : i * 12 + 11 < (((d.rules.take i).map (mvR (moved (l1.length : Int))) ++ d.rules[i] :: d.rules.drop (i + 1)).flatMap ruleL).length := by
        rw [flat_len ruleL 12 ruleL_len, hlen']; omega
      have hCJ : i * 12 + 11 < C.size := (Array.getElem?_eq_some_iff.1 hx).1
      have hne : ¬ w8.heap.size = bR := fun e => absurd (blk_same hS9.b (e ▸ hbR)) (by decide)
      have c0 : wr.cell? ⟨w8.heap.size, 0, none⟩ = some (.slice (some ⟨bR, 0, none⟩) d.rules.length kr) := blkc hS.b 0 _ rfl
      have c0d : wr.drew.cell? ⟨w8.heap.size, 0, none⟩ = some (.slice (some ⟨bR, 0, none⟩) d.rules.length kr) := blkc hS9.b 0 _ rfl
      have HS9 := Lib.hid hS9
      have HOW := Lib.hid hown
      have HBR := Lib.hid hbR
      have HX := Lib.hid hx
      have HSET := Lib.hid (And.intro hset (And.intro hlen2 (And.intro hJ hlen'.symm)))
      clear hS hS9 hown hbR hx hset hlen2 hJ hsp hat hsz hrg hy hy' hla hlen'
      go_wp2_with fail
      clear c0
      refine wp_region_held_drew (S := fun w' => Fr wr.drew w' (fun i => i = bR)) (by kernel_rfl) (Fr.refl _ _) (fun hHeld => ?_)
      refine wpAnyH_take (i := 0) (v := ?_) rfl (by kernel_rfl) (by kernel_rfl) (by kernel_rfl) (fun _ _ _ h => h) (Or.inl ⟨by rfl, ?_⟩) (by assumption) ?_
      rotate_left
      · intro w' hSw
        skip
        go_simp
        try with_reducible rfl
      try simp only [Act.put, List.setIfInBounds_toArray, List.set_cons_zero, List.set_cons_succ, List.getElem_toArray, List.getElem_cons_zero]
      refine wpAnyH_take (i := 1) (v := ?_) rfl (by kernel_rfl) (by kernel_rfl) (by kernel_rfl) (fun _ _ _ h => h) (Or.inl ⟨by rfl, ?_⟩) (by assumption) ?_
      rotate_left
      · intro w' hSw
        have k0 := cell_far hSw c0d hne
        go_simp
        try with_reducible rfl
      try simp only [Act.put, List.setIfInBounds_toArray, List.set_cons_zero, List.set_cons_succ, List.getElem_toArray, List.getElem_cons_succ, List.getElem_cons_zero]
      refine wpAnyH_take (i := 2) (v := ?_) rfl (by kernel_rfl) (by kernel_rfl) (by kernel_rfl) (fun _ _ _ h => h) (Or.inl ⟨by rfl, ?_⟩) (by assumption) ?_
      rotate_left
      · intro w' hSw
        skip
        go_simp
        try with_reducible rfl
      try simp only [Act.put, List.setIfInBounds_toArray, List.set_cons_zero, List.set_cons_succ, List.getElem_toArray, List.getElem_cons_succ, List.getElem_cons_zero]
      refine wpAnyH_take (i := 3) (v := ?_) rfl (by kernel_rfl) (by kernel_rfl) (by kernel_rfl) (fun _ _ _ h => h) (Or.inl ⟨by rfl, ?_⟩) (by assumption) ?_
      rotate_left
      · intro w' hSw
        skip
        go_simp
        try with_reducible rfl
      try simp only [Act.put, List.setIfInBounds_toArray, List.set_cons_zero, List.set_cons_succ, List.getElem_toArray, List.getElem_cons_succ, List.getElem_cons_zero]
      refine wpAnyH_take (i := 4) (v := ?_) rfl (by kernel_rfl) (by kernel_rfl) (by kernel_rfl) (fun _ _ _ h => h) (Or.inl ⟨by rfl, ?_⟩) (by assumption) ?_
      rotate_left
      · intro w' hSw
        have k0 := cell_far hSw c0d hne
        go_simp
        try with_reducible rfl
      try simp only [Act.put, List.setIfInBounds_toArray, List.set_cons_zero, List.set_cons_succ, List.getElem_toArray, List.getElem_cons_succ, List.getElem_cons_zero]
      refine wpAnyH_take (i := 5) (v := ?_) rfl (by kernel_rfl) (by kernel_rfl) (by kernel_rfl) (fun _ _ _ h => h) (Or.inl ⟨by rfl, ?_⟩) (by assumption) ?_
      rotate_left
      · intro w' hSw
        skip
        go_simp
        try with_reducible rfl
      try simp only [Act.put, List.setIfInBounds_toArray, List.set_cons_zero, List.set_cons_succ, List.getElem_toArray, List.getElem_cons_succ, List.getElem_cons_zero]
      refine wpAnyH_take (i := 6) (v := ?_) rfl (by kernel_rfl) (by kernel_rfl) (by kernel_rfl) (fun _ _ _ h => h) (Or.inl ⟨by rfl, ?_⟩) (by assumption) ?_
      rotate_left
      · intro w' hSw
        skip
        go_simp
        try with_reducible rfl
      try simp only [Act.put, List.setIfInBounds_toArray, List.set_cons_zero, List.set_cons_succ, List.getElem_toArray, List.getElem_cons_succ, List.getElem_cons_zero]
      refine wpAnyH_take (i := 7) (v := ?_) rfl (by kernel_rfl) (by kernel_rfl) (by kernel_rfl) (fun _ _ _ h => h) (Or.inl ⟨by rfl, ?_⟩) (by assumption) ?_
      rotate_left
      · intro w' hSw
        skip
        go_simp
        try with_reducible rfl
      try simp only [Act.put, List.setIfInBounds_toArray, List.set_cons_zero, List.set_cons_succ, List.getElem_toArray, List.getElem_cons_succ, List.getElem_cons_zero]
      refine wpAnyH_take (i := 9) (v := ?_) rfl (by kernel_rfl) (by kernel_rfl) (by kernel_rfl) (fun _ _ _ h => h) (Or.inl ⟨by rfl, ?_⟩) (by assumption) ?_
      rotate_left
      · intro w' hSw
        skip
        go_simp
        try with_reducible rfl
      try simp only [Act.put, List.setIfInBounds_toArray, List.set_cons_zero, List.set_cons_succ, List.getElem_toArray, List.getElem_cons_succ, List.getElem_cons_zero]
      refine wpAnyH_load 8 _ rfl (by kernel_rfl) rfl ⟨bR, i * 12 + 11, none⟩ (intV y) _ rfl rfl ((cell_at HBR.out _).trans HX.out) Tryz.underlying3 rfl (Fr.refl _ _) ?_
      try simp only [Act.put, List.setIfInBounds_toArray, List.set_cons_zero, List.set_cons_succ, List.getElem_toArray, List.getElem_cons_succ, List.getElem_cons_zero]
      refine wpAnyH_ready (rs := [10]) (by kernel_rfl) (by simp) ?_
      refine AllReadyH.cons rfl (fun K hK => ?_) AllReadyH.nil
      go_simp
      refine (HMV.out _).mono ?_
      rintro e w9 ⟨rfl, rfl⟩
      refine hK.out _ _ (Fr.refl _ _) (fun hHeld2 => ?_)
      clear hK K
      try simp only [Act.put, List.setIfInBounds_toArray, List.set_cons_zero, List.set_cons_succ, List.getElem_toArray, List.getElem_cons_succ, List.getElem_cons_zero]
      refine wpAnyH_take (i := 11) (v := ?_) rfl (by kernel_rfl) (by kernel_rfl) (by kernel_rfl) (fun _ _ _ h => h) (Or.inl ⟨by rfl, ?_⟩) (by assumption) ?_
      rotate_left
      · intro w' hSw
        skip
        go_simp
        try with_reducible rfl
      try simp only [Act.put, List.setIfInBounds_toArray, List.set_cons_zero, List.set_cons_succ, List.getElem_toArray, List.getElem_cons_succ, List.getElem_cons_zero]
      refine wpAnyH_take (i := 12) (v := ?_) rfl (by kernel_rfl) (by kernel_rfl) (by kernel_rfl) (fun _ _ _ h => h) (Or.inl ⟨by rfl, ?_⟩) (by assumption) ?_
      rotate_left
      · intro w' hSw
        skip
        go_simp
        try with_reducible rfl
      try simp only [Act.put, List.setIfInBounds_toArray, List.set_cons_zero, List.set_cons_succ, List.getElem_toArray, List.getElem_cons_succ, List.getElem_cons_zero]
      refine wpAnyH_put 13 _ rfl (by kernel_rfl) (by kernel_rfl) rfl rfl rfl bR (i * 12 + 11) _ _ (intV y') HBR.out hCJ rfl rfl rfl info_int (fun W hf => hf) ?_
      intro W9 hs9 hb9
      clear hHeld hHeld2 c0d
      have HES := Lib.hid (show ES W7 W9 w8.heap.size (.slice (some ⟨bR, 0, none⟩) d.rules.length kr) (.slice Kz d.zones.length kz) (.slice Kl d.links.length kl) (.slice Ad d.diags.length cd) ((d.rules.take (i + 1)).map (mvR (moved (l1.length : Int))) ++ d.rules.drop (i + 1)) zv d.links from
        ⟨R.blk_d HS9.out.b HBR.out hs9 (by decide), own_cell HOW.out HSET.out.2.2.2 HBR.out hb9 HSET.out.2.2.1 HSET.out.1 HSET.out.2.1, R.own_q HS9.out.z HBR.out hs9 (by decide), R.own_q HS9.out.l HBR.out hs9 (by decide), HS9.out.f.fresh hs9 (fun i e => by have e : i = bR := e; omega)⟩)
      clear hs9 hb9
      try simp only [Act.put, List.setIfInBounds_toArray, List.set_cons_zero, List.set_cons_succ, List.getElem_toArray, List.getElem_cons_succ, List.getElem_cons_zero]
      go_wp2_with fail
      go_roundg (d.rules.length - (i + 1))
      case measure => omega
      case rel => exact ⟨i + 1, by omega, by go_num, HES.out⟩
    · obtain rfl : i = d.rules.length := by omega
      have hS := hS
      rw [List.take_length, List.drop_length, List.append_nil] at hS
      have HS := Lib.hid hS
      have hi1 : (d.rules.length : Int) ≤ (d.rules.length : Int) := Int.le_refl _
      have c0 := blkc hS.b 0 (.slice Kr d.rules.length kr) rfl
      have c2 := blkc hS.b 2 (.slice Kl d.links.length kl) rfl
      clear hS
      go_wp2_with fail
      clear c0 c2
      go_loopg [10] d.links.length (fun k v wr => ∃ i : Nat, i + k = d.links.length ∧ v = intV (i : Int) ∧ ES W7 wr w8.heap.size (.slice Kr d.rules.length kr) (.slice Kz d.zones.length kz) (.slice Kl d.links.length kl) (.slice Ad d.diags.length cd) (d.rules.map (mvR (moved (l1.length : Int)))) zv ((d.links.take i).map (mvL (moved (l1.length : Int))) ++ d.links.drop i))
      case atStart => exact ⟨0, by simp, rfl, by simpa using HS.out⟩
      case round =>
        obtain ⟨i, hik, rfl, hS⟩ := hrel
        by_cases hlt : i < d.links.length
        · have hi1 : (i : Int) < (d.links.length : Int) := by omega
          have hS9 := hS.kept (Fr.drew wr (fun _ => False))
          have hla : ((d.links.take i).map (mvL (moved (l1.length : Int)))).length = i := by rw [List.length_map, List.length_take]; omega
          have hsp : (d.links.take i).map (mvL (moved (l1.length : Int))) ++ d.links.drop i = (d.links.take i).map (mvL (moved (l1.length : Int))) ++ d.links[i] :: d.links.drop (i + 1) := by rw [List.drop_eq_getElem_cons hlt]
          have hlen' : ((d.links.take i).map (mvL (moved (l1.length : Int))) ++ d.links[i] :: d.links.drop (i + 1)).length = d.links.length := by rw [List.length_append, hla, List.length_cons, List.length_drop]; omega
          have hown := hS9.l
          rw [hsp] at hown
          obtain ⟨bR, C, rfl, hbB, hbR, hsz, hat⟩ := own_some hown hlen'.symm (by omega)
          have hx : C[i * 3 + 2]? = some (intV d.links[i].line) := by
            refine hat _ _ ?_
            have := flat_get linkL 3 linkL_len (l := (d.links.take i).map (mvL (moved (l1.length : Int))) ++ d.links[i] :: d.links.drop (i + 1)) (i := i) (x := d.links[i]) (by rw [List.getElem?_append_right (by omega), hla]; simp) 2 (by decide)
            rw [this]
            rfl
          have hset : (((d.links.take i).map (mvL (moved (l1.length : Int))) ++ d.links[i] :: d.links.drop (i + 1)).flatMap linkL).set (i * 3 + 2) (intV (moved (l1.length : Int) d.links[i].line)) = ((d.links.take (i + 1)).map (mvL (moved (l1.length : Int))) ++ d.links.drop (i + 1)).flatMap linkL := by
            rw [upto_step (mvL (moved (l1.length : Int))) d.links i hlt, List.append_assoc]
            have h := flat_put linkL 3 linkL_len ((d.links.take i).map (mvL (moved (l1.length : Int)))) d.links[i] ((mvL (moved (l1.length : Int))) d.links[i]) (d.links.drop (i + 1)) 2 (intV (moved (l1.length : Int) d.links[i].line)) (by decide) rfl
            rw [hla] at h
            exact h
          have hlen2 : ((d.links.take (i + 1)).map (mvL (moved (l1.length : Int))) ++ d.links.drop (i + 1)).length = ((d.links.take i).map (mvL (moved (l1.length : Int))) ++ d.links[i] :: d.links.drop (i + 1)).length := by
            rw [hlen', List.length_append, List.length_map, List.length_take, List.length_drop]; omega
          have hrg := HLR.out.2.1 d.links[i] (List.getElem_mem hlt)
          have HMV := Lib.hid (fun W => moved_any (d.links[i].line) (l1.length : Int) (by omega) (by omega) W)
          obtain ⟨y, hy⟩ : ∃ y, d.links[i].line = y := ⟨_, rfl⟩
          obtain ⟨y', hy'⟩ : ∃ y', moved (l1.length : Int) y = y' := ⟨_, rfl⟩
          have hx : C[i * 3 + 2]? = some (intV y) := by rw [← hy]; exact hx
          rw [hy, hy'] at HMV
          have hset : (((d.links.take i).map (mvL (moved (l1.length : Int))) ++ d.links[i] :: d.links.drop (i + 1)).flatMap linkL).set (i * 3 + 2) (intV y') = ((d.links.take (i + 1)).map (mvL (moved (l1.length : Int))) ++ d.links.drop (i + 1)).flatMap linkL := by rw [← hy', ← hy]; exact hset
          have hJ : i * 3 + 2 < (((d.links.take i).map (mvL (moved (l1.length : Int))) ++ d.links[i] :: d.links.drop (i + 1)).flatMap linkL).length := by
            rw [flat_len linkL 3 linkL_len, hlen']; omega
          have hCJ : i * 3 + 2 < C.size := (Array.getElem?_eq_some_iff.1 hx).1
          have hne : ¬ w8.heap.size = bR := fun e => absurd (blk_same hS9.b (e ▸ hbR)) (by decide)
          have c0 : wr.cell? ⟨w8.heap.size, 2, none⟩ = some (.slice (some ⟨bR, 0, none⟩) d.links.length kl) := blkc hS.b 2 _ rfl
          have c0d : wr.drew.cell? ⟨w8.heap.size, 2, none⟩ = some (.slice (some ⟨bR, 0, none⟩) d.links.length kl) := blkc hS9.b 2 _ rfl
          have HS9 := Lib.hid hS9
          have HOW := Lib.hid hown
          have HBR := Lib.hid hbR
          have HX := Lib.hid hx
          have HSET := Lib.hid (And.intro hset (And.intro hlen2 (And.intro hJ hlen'.symm)))
          clear hS hS9 hown hbR hx hset hlen2 hJ hsp hat hsz hrg hy hy' hla hlen'
          go_wp2_with fail
          clear c0
          refine wp_region_held_drew (S := fun w' => Fr wr.drew w' (fun i => i = bR)) (by kernel_rfl) (Fr.refl _ _) (fun hHeld => ?_)
          refine wpAnyH_take (i := 0) (v := ?_) rfl (by kernel_rfl) (by kernel_rfl) (by kernel_rfl) (fun _ _ _ h => h) (Or.inl ⟨by rfl, ?_⟩) (by assumption) ?_
          rotate_left
          · intro w' hSw
            skip
            go_simp
            try with_reducible rfl
          try simp only [Act.put, List.setIfInBounds_toArray, List.set_cons_zero, List.set_cons_succ, List.getElem_toArray, List.getElem_cons_zero]
          refine wpAnyH_take (i := 1) (v := ?_) rfl (by kernel_rfl) (by kernel_rfl) (by kernel_rfl) (fun _ _ _ h => h) (Or.inl ⟨by rfl, ?_⟩) (by assumption) ?_
          rotate_left
          · intro w' hSw
            have k0 := cell_far hSw c0d hne
            go_simp
            try with_reducible rfl
          try simp only [Act.put, List.setIfInBounds_toArray, List.set_cons_zero, List.set_cons_succ, List.getElem_toArray, List.getElem_cons_succ, List.getElem_cons_zero]
          refine wpAnyH_take (i := 2) (v := ?_) rfl (by kernel_rfl) (by kernel_rfl) (by kernel_rfl) (fun _ _ _ h => h) (Or.inl ⟨by rfl, ?_⟩) (by assumption) ?_
          rotate_left
          · intro w' hSw
            skip
            go_simp
            try with_reducible rfl
          try simp only [Act.put, List.setIfInBounds_toArray, List.set_cons_zero, List.set_cons_succ, List.getElem_toArray, List.getElem_cons_succ, List.getElem_cons_zero]
          refine wpAnyH_take (i := 3) (v := ?_) rfl (by kernel_rfl) (by kernel_rfl) (by kernel_rfl) (fun _ _ _ h => h) (Or.inl ⟨by rfl, ?_⟩) (by assumption) ?_
          rotate_left
          · intro w' hSw
            skip
            go_simp
            try with_reducible rfl
          try simp only [Act.put, List.setIfInBounds_toArray, List.set_cons_zero, List.set_cons_succ, List.getElem_toArray, List.getElem_cons_succ, List.getElem_cons_zero]
          refine wpAnyH_take (i := 4) (v := ?_) rfl (by kernel_rfl) (by kernel_rfl) (by kernel_rfl) (fun _ _ _ h => h) (Or.inl ⟨by rfl, ?_⟩) (by assumption) ?_
          rotate_left
          · intro w' hSw
            have k0 := cell_far hSw c0d hne
            go_simp
            try with_reducible rfl
          try simp only [Act.put, List.setIfInBounds_toArray, List.set_cons_zero, List.set_cons_succ, List.getElem_toArray, List.getElem_cons_succ, List.getElem_cons_zero]
          refine wpAnyH_take (i := 5) (v := ?_) rfl (by kernel_rfl) (by kernel_rfl) (by kernel_rfl) (fun _ _ _ h => h) (Or.inl ⟨by rfl, ?_⟩) (by assumption) ?_
          rotate_left
          · intro w' hSw
            skip
            go_simp
            try with_reducible rfl
          try simp only [Act.put, List.setIfInBounds_toArray, List.set_cons_zero, List.set_cons_succ, List.getElem_toArray, List.getElem_cons_succ, List.getElem_cons_zero]
          refine wpAnyH_take (i := 6) (v := ?_) rfl (by kernel_rfl) (by kernel_rfl) (by kernel_rfl) (fun _ _ _ h => h) (Or.inl ⟨by rfl, ?_⟩) (by assumption) ?_
          rotate_left
          · intro w' hSw
            skip
            go_simp
            try with_reducible rfl
          try simp only [Act.put, List.setIfInBounds_toArray, List.set_cons_zero, List.set_cons_succ, List.getElem_toArray, List.getElem_cons_succ, List.getElem_cons_zero]
          refine wpAnyH_take (i := 7) (v := ?_) rfl (by kernel_rfl) (by kernel_rfl) (by kernel_rfl) (fun _ _ _ h => h) (Or.inl ⟨by rfl, ?_⟩) (by assumption) ?_
          rotate_left
          · intro w' hSw
            skip
            go_simp
            try with_reducible rfl
          try simp only [Act.put, List.setIfInBounds_toArray, List.set_cons_zero, List.set_cons_succ, List.getElem_toArray, List.getElem_cons_succ, List.getElem_cons_zero]
          refine wpAnyH_take (i := 9) (v := ?_) rfl (by kernel_rfl) (by kernel_rfl) (by kernel_rfl) (fun _ _ _ h => h) (Or.inl ⟨by rfl, ?_⟩) (by assumption) ?_
          rotate_left
          · intro w' hSw
            skip
            go_simp
            try with_reducible rfl
          try simp only [Act.put, List.setIfInBounds_toArray, List.set_cons_zero, List.set_cons_succ, List.getElem_toArray, List.getElem_cons_succ, List.getElem_cons_zero]
          refine wpAnyH_load 8 _ rfl (by kernel_rfl) rfl ⟨bR, i * 3 + 2, none⟩ (intV y) _ rfl rfl ((cell_at HBR.out _).trans HX.out) Tryz.underlying3 rfl (Fr.refl _ _) ?_
          try simp only [Act.put, List.setIfInBounds_toArray, List.set_cons_zero, List.set_cons_succ, List.getElem_toArray, List.getElem_cons_succ, List.getElem_cons_zero]
          refine wpAnyH_ready (rs := [10]) (by kernel_rfl) (by simp) ?_
          refine AllReadyH.cons rfl (fun K hK => ?_) AllReadyH.nil
          go_simp
          refine (HMV.out _).mono ?_
          rintro e w9 ⟨rfl, rfl⟩
          refine hK.out _ _ (Fr.refl _ _) (fun hHeld2 => ?_)
          clear hK K
          try simp only [Act.put, List.setIfInBounds_toArray, List.set_cons_zero, List.set_cons_succ, List.getElem_toArray, List.getElem_cons_succ, List.getElem_cons_zero]
          refine wpAnyH_take (i := 11) (v := ?_) rfl (by kernel_rfl) (by kernel_rfl) (by kernel_rfl) (fun _ _ _ h => h) (Or.inl ⟨by rfl, ?_⟩) (by assumption) ?_
          rotate_left
          · intro w' hSw
            skip
            go_simp
            try with_reducible rfl
          try simp only [Act.put, List.setIfInBounds_toArray, List.set_cons_zero, List.set_cons_succ, List.getElem_toArray, List.getElem_cons_succ, List.getElem_cons_zero]
          refine wpAnyH_take (i := 12) (v := ?_) rfl (by kernel_rfl) (by kernel_rfl) (by kernel_rfl) (fun _ _ _ h => h) (Or.inl ⟨by rfl, ?_⟩) (by assumption) ?_
          rotate_left
          · intro w' hSw
            skip
            go_simp
            try with_reducible rfl
          try simp only [Act.put, List.setIfInBounds_toArray, List.set_cons_zero, List.set_cons_succ, List.getElem_toArray, List.getElem_cons_succ, List.getElem_cons_zero]
          refine wpAnyH_put 13 _ rfl (by kernel_rfl) (by kernel_rfl) rfl rfl rfl bR (i * 3 + 2) _ _ (intV y') HBR.out hCJ rfl rfl rfl info_int (fun W hf => hf) ?_
          intro W9 hs9 hb9
          clear hHeld hHeld2 c0d
          have HES := Lib.hid (show ES W7 W9 w8.heap.size (.slice Kr d.rules.length kr) (.slice Kz d.zones.length kz) (.slice (some ⟨bR, 0, none⟩) d.links.length kl) (.slice Ad d.diags.length cd) (d.rules.map (mvR (moved (l1.length : Int)))) zv ((d.links.take (i + 1)).map (mvL (moved (l1.length : Int))) ++ d.links.drop (i + 1)) from
            ⟨R.blk_d HS9.out.b HBR.out hs9 (by decide), R.own_q HS9.out.r HBR.out hs9 (by decide), R.own_q HS9.out.z HBR.out hs9 (by decide), own_cell HOW.out HSET.out.2.2.2 HBR.out hb9 HSET.out.2.2.1 HSET.out.1 HSET.out.2.1, HS9.out.f.fresh hs9 (fun i e => by have e : i = bR := e; omega)⟩)
          clear hs9 hb9
          try simp only [Act.put, List.setIfInBounds_toArray, List.set_cons_zero, List.set_cons_succ, List.getElem_toArray, List.getElem_cons_succ, List.getElem_cons_zero]
          go_wp2_with fail
          go_roundg (d.links.length - (i + 1))
          case measure => omega
          case rel => exact ⟨i + 1, by omega, by go_num, HES.out⟩
        · obtain rfl : i = d.links.length := by omega
          have hS := hS
          rw [List.take_length, List.drop_length, List.append_nil] at hS
          have HS := Lib.hid hS
          have hi1 : (d.links.length : Int) ≤ (d.links.length : Int) := Int.le_refl _
          have c0 := blkc hS.b 2 (.slice Kl d.links.length kl) rfl
          have c3 := blkc hS.b 3 (.slice Ad d.diags.length cd) rfl
          clear hS
          go_wp2_with fail
          clear c0 c3
          go_loopg [11, 12, 13] d.diags.length (fun k v11 v12 _ wr => ∃ (i : Nat) (A : Option Addr) (cap : Nat), i + k = d.diags.length ∧ v12 = intV (i : Int) ∧ v11 = .slice A i cap ∧ Own wr W7.heap.size 65 4 diagL (.slice A i cap) ((d.diags.take i).map (mvG (moved (l1.length : Int)))) ∧ ES W7 wr w8.heap.size (.slice Kr d.rules.length kr) (.slice Kz d.zones.length kz) (.slice Kl d.links.length kl) (.slice Ad d.diags.length cd) (d.rules.map (mvR (moved (l1.length : Int)))) zv (d.links.map (mvL (moved (l1.length : Int)))))
          case atStart => exact ⟨0, none, 0, by simp, rfl, rfl, own_none _ _ _ _ _, HS.out⟩
          case round =>
            obtain ⟨i, Ag, cg, hik, rfl, rfl, hown, hS⟩ := hrel
            have c3 := blkc hS.b 3 (.slice Ad d.diags.length cd) rfl
            by_cases hlt : i < d.diags.length
            · have hi1 : (i : Int) < (d.diags.length : Int) := by omega
              obtain ⟨Ad', cd', e1, -, -, hrd⟩ := HG.out.rd
              injection e1 with e11 e12 e13
              subst e11
              obtain ⟨bg, og, rfl, c4⟩ := elem_at diagL_len hrd hlt
              have c4 := cells_far hS.f c4 (Nat.le_refl _) (fun h => h)
              have hrg := HLR.out.2.2.1 d.diags[i] (List.getElem_mem hlt)
              have hT := upto_step (mvG (moved (l1.length : Int))) d.diags i hlt
              obtain ⟨x, hx⟩ : ∃ x, d.diags[i] = x := ⟨_, rfl⟩
              rw [hx] at c4 hrg hT
              obtain ⟨y, cc, kk⟩ := x
              have hrg : 0 ≤ y ∧ y < (N : Int) := hrg
              have C4 := Lib.hid (show ∀ j, j < (diagC ⟨y, cc, kk⟩).size → wr.cell? ⟨bg, og + i * 4 + j, none⟩ = (diagC ⟨y, cc, kk⟩)[j]? from c4)
              have HMV := Lib.hid (fun W => moved_any y (l1.length : Int) (by omega) (by omega) W)
              obtain ⟨y', hy'⟩ : ∃ y', moved (l1.length : Int) y = y' := ⟨_, rfl⟩
              rw [hy'] at HMV
              have HT := Lib.hid (show (d.diags.take (i + 1)).map (mvG (moved (l1.length : Int))) = (d.diags.take i).map (mvG (moved (l1.length : Int))) ++ [⟨y', cc, kk⟩] by rw [hT, ← hy']; rfl)
              have HLI := Lib.hid (show ((d.diags.take i).map (mvG (moved (l1.length : Int)))).length = i by rw [List.length_map, List.length_take]; omega)
              have i4 : i ≤ 100000 := by omega
              have HOW := Lib.hid hown
              have HSr := Lib.hid hS
              clear hown hS hrd c4 hrg hT hx hy' e12 e13
              go_wp2_with (first
                | ((with_reducible refine at_load 65 ?_)
                   refine wpList_load_at 65 _ bg (og + i * 4) (diagC ⟨y, cc, kk⟩) _ (by rfl) rfl rfl C4.out Tryz.underlying65 rfl (infoG _) ?_)
                | ((with_reducible refine at_store 65 ?_)
                   refine wpList_store_blk 65 _ _ wr.heap.size 0 65 #[.string ⟨#[]⟩, intV 0, intV 0, intV 0] (diagC ⟨y, cc, kk⟩) (diagC ⟨y, cc, kk⟩) (by rfl) rfl rfl rfl rfl (Blk.made wr 65 #[.string ⟨#[]⟩, intV 0, intV 0, intV 0]) (infoG _) (diagC_one _) (show 0 + 4 ≤ 4 by decide) (put_all rfl) ?_
                   intro W1 hf hb
                   have hf := (Fr.new wr (.cells #[.string ⟨#[]⟩, intV 0, intV 0, intV 0] 65) (fun _ => False)).fresh hf (fun i e => by have e : i = wr.heap.size := e; omega)
                   have HF1 := Lib.hid hf
                   have HB1 := Lib.hid hb
                   have k1 := blkc hb 1 (intV y) rfl
                   clear hf hb))
              clear k1 c3
              refine (HMV.out _).mono ?_
              rintro e w9 ⟨rfl, rfl⟩
              go_wp2_with (first
                | ((with_reducible refine at_store 3 ?_)
                   refine wpList_store_cell 3 _ _ wr.heap.size 1 65 (diagC ⟨y, cc, kk⟩) (diagC ⟨y', cc, kk⟩) (intV y') (by rfl) rfl rfl rfl rfl HB1.out info_int (by rfl) (show 1 < 4 by decide) rfl ?_
                   intro W2 hf hb
                   have HF2 := Lib.hid (HF1.out.fresh hf (fun i e => by have e : i = wr.heap.size := e; omega))
                   have HB2 := Lib.hid hb
                   clear hf hb)
                | ((with_reducible refine at_load 65 ?_)
                   refine wpList_load_blk 65 _ wr.heap.size 0 65 (diagC ⟨y', cc, kk⟩) (diagC ⟨y', cc, kk⟩) _ (by rfl) rfl rfl HB2.out Tryz.underlying65 rfl (infoG _) (zero_part _) ?_)
                | ((with_reducible refine at_slice (y := .tmp 107) 29 ?_)
                   refine wpList_made (t := 29) (e := 65) (y := .tmp 107) (v := .agg (diagC ⟨y', cc, kk⟩)) (diagC ⟨y', cc, kk⟩) (by rfl) rfl rfl (fun _ => by kernel_rfl) ?_
                   intro W3 hf hs hb hr
                   have HF3 := Lib.hid (ff0 HF2.out hf)
                   have HX3 := Lib.hid hr
                   have HB3 := Lib.hid (show W7.heap.size ≤ W3.heap.size from Nat.le_trans HSr.out.f.size (ff0 HF2.out hf).size)
                   clear hf hs hb hr)
                | ((with_reducible refine at_append (.tmp 106) (.tmp 108) ?_)
                   refine wpList_append1 (f := diagL) (l := (d.diags.take i).map (mvG (moved (l1.length : Int)))) (.tmp 106) (.tmp 108) 29 rfl rfl W7.heap.size 65 _ 4 40 Tryz.underlying29 infoDiag rfl (by decide) _ rfl (HOW.out.kept HF3.out) _ 1 ⟨y', cc, kk⟩ (diagC ⟨y', cc, kk⟩).toList rfl HX3.out rfl (one_made (diagC_one _)) (by rw [HLI.out]; exact i4) (by decide) HB3.out ?_
                   intro A5 c5 W5 ho5 hf5
                   have hf5 := tb_own (HOW.out.kept HF3.out) hf5
                   have HOW5 := Lib.hid ho5
                   have HE5 := Lib.hid ((HSr.out.kept HF3.out).tb hf5)
                   clear ho5 hf5))
              go_roundg (d.diags.length - (i + 1))
              case measure => omega
              case rel =>
                refine ⟨i + 1, A5, c5, by omega, by go_num, by rw [show min i d.diags.length = i by omega], ?_, HE5.out⟩
                have h := HOW5.out
                rw [HLI.out] at h
                rw [HT.out]
                exact h
            · obtain rfl : i = d.diags.length := by omega
              rw [List.take_length] at hown
              have hi1 : (d.diags.length : Int) ≤ (d.diags.length : Int) := Int.le_refl _
              have HOW := Lib.hid hown
              have HSr := Lib.hid hS
              clear hown hS
              go_wp2_with (first
                | ((with_reducible refine at_store 29 ?_)
                   refine wpList_store_cell 29 _ _ w8.heap.size 3 31 #[(.slice Kr d.rules.length kr), (.slice Kz d.zones.length kz), (.slice Kl d.links.length kl), (.slice Ad d.diags.length cd)] #[(.slice Kr d.rules.length kr), (.slice Kz d.zones.length kz), (.slice Kl d.links.length kl), (.slice Ag d.diags.length cg)] (.slice Ag d.diags.length cg) (by rfl) rfl rfl rfl rfl HSr.out.b info_diags1 (by rfl) (show 3 < 4 by decide) rfl ?_
                   intro W2 hf hb
                   have HGG := Lib.hid (R.own_q HOW.out HSr.out.b hf (by decide))
                   have HSG := Lib.hid (HSr.out.put hf hb hs8)
                   have c1 := blkc hb 1 (.slice Kz d.zones.length kz) rfl
                   clear hf hb))
              clear c1
              go_loopg [14, 15, 16] d.zones.length (fun k v14 _ _ wr => ∃ (i : Nat) (done : List ZV), i + k = d.zones.length ∧ v14 = intV (i : Int) ∧ done.map (·.1) = (d.zones.take i).map (mvZ (moved (l1.length : Int))) ∧ (∀ x ∈ done, ZAt wr 0 x) ∧ Own wr W7.heap.size 65 4 diagL (.slice Ag d.diags.length cg) (d.diags.map (mvG (moved (l1.length : Int)))) ∧ ES W7 wr w8.heap.size (.slice Kr d.rules.length kr) (.slice Kz d.zones.length kz) (.slice Kl d.links.length kl) (.slice Ag d.diags.length cg) (d.rules.map (mvR (moved (l1.length : Int)))) (done ++ zv.drop i) (d.links.map (mvL (moved (l1.length : Int)))))
              case atStart => exact ⟨0, [], by simp, rfl, by simp, fun x hx => (by cases hx), HGG.out, HSG.out⟩
              case round =>
                obtain ⟨i, done, hik, rfl, hdm, hda, hgg, hS⟩ := hrel
                have c1 := blkc hS.b 1 (.slice Kz d.zones.length kz) rfl
                have hdl : done.length = i := by have := congrArg List.length hdm; rw [List.length_map, List.length_map, List.length_take] at this; omega
                by_cases hlt : i < d.zones.length
                · have hi1 : (i : Int) < (d.zones.length : Int) := by omega
                  have hzl : i < zv.length := by rw [HZL.out]; exact hlt
                  have hsp : zv.drop i = zv[i] :: zv.drop (i + 1) := List.drop_eq_getElem_cons hzl
                  have hzi : zv[i].1 = d.zones[i] := by
                    have h2 : (zv.map (·.1))[i]? = d.zones[i]? := by rw [HZV.out]
                    rw [List.getElem?_map, List.getElem?_eq_getElem hzl, List.getElem?_eq_getElem hlt] at h2
                    exact Option.some.inj h2
                  have hza := HAL.out zv[i] (List.getElem_mem hzl)
                  have hrg := HLR.out.2.2.2 d.zones[i] (List.getElem_mem hlt)
                  have hT := upto_step (mvZ (moved (l1.length : Int))) d.zones i hlt
                  rw [← hzi] at hrg hT
                  rw [hsp] at hS
                  obtain ⟨z, hz⟩ : ∃ z, zv[i] = z := ⟨_, rfl⟩
                  rw [hz] at hza hrg hT hS
                  obtain ⟨⟨zn, zes, zls⟩, ve, vn⟩ := z
                  obtain ⟨An, cn, e1, -, -, hrn⟩ := hza.l.rd
                  have e1 : vn = .slice An zls.length cn := e1
                  subst e1
                  have hrn : Rd W7 1 An zls.length (zls.flatMap intL) := hrn
                  have hlen : (done ++ (⟨zn, zes, zls⟩, ve, .slice An zls.length cn) :: zv.drop (i + 1)).length = d.zones.length := by rw [List.length_append, List.length_cons, List.length_drop, hdl, HZL.out]; omega
                  obtain ⟨bZ, C, rfl, hbB, hbZ, hsz, hat⟩ := own_some hS.z hlen.symm (by omega)
                  have hx : C[i * 3 + 2]? = some (.slice An zls.length cn) := by
                    refine hat _ _ ?_
                    have := flat_get zoneL 3 zoneL_len (l := done ++ (⟨zn, zes, zls⟩, ve, .slice An zls.length cn) :: zv.drop (i + 1)) (i := i) (x := (⟨zn, zes, zls⟩, ve, .slice An zls.length cn)) (by rw [List.getElem?_append_right (by omega), hdl]; simp) 2 (by decide)
                    rw [this]
                    rfl
                  have hCJ : i * 3 + 2 < C.size := (Array.getElem?_eq_some_iff.1 hx).1
                  have c2 : wr.cell? ⟨bZ, i * 3 + 2, none⟩ = some (.slice An zls.length cn) := (cell_at hbZ _).trans hx
                  obtain ⟨w14, hw14⟩ : ∃ W, W = wr := ⟨_, rfl⟩
                  subst hw14
                  have HT := Lib.hid hT
                  have HSr := Lib.hid hS
                  have HBZ := Lib.hid hbZ
                  have HRN := Lib.hid hrn
                  have HZA := Lib.hid hza
                  have HDA := Lib.hid hda
                  have HDM := Lib.hid hdm
                  have HG2 := Lib.hid hgg
                  have HRG := Lib.hid (show ∀ n ∈ zls, 0 ≤ n ∧ n < (N : Int) from hrg)
                  have HLE := Lib.hid hlen
                  have HDL := Lib.hid hdl
                  have HZ8 := Lib.hid (show zls.length ≤ 8 from by have h := HZO.out d.zones[i] (List.getElem_mem hlt); rw [← hzi, hz] at h; have h1 : zes.length = zls.length := h.1; have h2 : zes.length ≤ 8 := h.2.2; omega)
                  have HX2 := Lib.hid hx
                  clear hT hS hbZ hrn hza hda hdm hgg hrg hlen hdl hsp hzi hz hx hat hsz hzl
                  go_wp2_with fail
                  clear c1 c2
                  go_loopg [15, 16] zls.length (fun k v15 v16 w' => ∃ (j : Nat) (A : Option Addr) (cap : Nat), j + k = zls.length ∧ v16 = intV (j : Int) ∧ v15 = .slice A j cap ∧ Own w' w14.heap.size 3 1 intL (.slice A j cap) ((zls.take j).map (moved (l1.length : Int))) ∧ Fr w14 w' (fun _ => False))
                  case atStart => exact ⟨0, none, 0, by simp, rfl, rfl, own_none _ _ _ _ _, Fr.refl _ _⟩
                  case round =>
                    obtain ⟨j, Aj, cj, hjk, rfl, rfl, hown, hf⟩ := hrel
                    have c1 := cell_far hf (blkc HSr.out.b 1 (.slice (some ⟨bZ, 0, none⟩) d.zones.length kz) rfl) (fun h => h)
                    have c2 : _ := cell_far hf ((cell_at HBZ.out (i * 3 + 2)).trans HX2.out) (fun h => h)
                    have HOW := Lib.hid hown
                    have HFj := Lib.hid hf
                    by_cases hjl : j < zls.length
                    · have hj1 : (j : Int) < (zls.length : Int) := by omega
                      obtain ⟨bn, on, rfl, c3⟩ := int_cell HRN.out hjl
                      have c3 := cell_far hf (cell_far HSr.out.f c3 (fun h => h)) (fun h => h)
                      have hrj := HRG.out zls[j] (List.getElem_mem hjl)
                      have hTj := upto_step (moved (l1.length : Int)) zls j hjl
                      obtain ⟨y, hy⟩ : ∃ y, zls[j] = y := ⟨_, rfl⟩
                      rw [hy] at c3 hrj hTj
                      have HMV := Lib.hid (fun W => moved_any y (l1.length : Int) (by omega) (by omega) W)
                      obtain ⟨y', hy'⟩ : ∃ y', moved (l1.length : Int) y = y' := ⟨_, rfl⟩
                      rw [hy'] at HMV hTj
                      have HTj := Lib.hid hTj
                      have HLI := Lib.hid (show ((zls.take j).map (moved (l1.length : Int))).length = j by rw [List.length_map, List.length_take]; omega)
                      have j4 : j ≤ 100000 := by have := HZ8.out; omega
                      clear hown hf hrj hTj hy hy'
                      go_wp2_with fail
                      clear c1 c2 c3
                      refine (HMV.out _).mono ?_
                      rintro e w9 ⟨rfl, rfl⟩
                      go_wp2_with (first
                        | ((with_reducible refine at_slice (y := .tmp 141) 66 ?_)
                           refine wpList_made (t := 66) (e := 3) (y := .tmp 141) (v := intV y') #[intV y'] (by rfl) rfl rfl (fun _ => by kernel_rfl) ?_
                           intro W3 hf hs hb hr
                           have HF3 := Lib.hid hf
                           have HX3 := Lib.hid hr
                           have HB3 := Lib.hid (show w14.heap.size ≤ W3.heap.size from Nat.le_trans HFj.out.size hf.size)
                           clear hf hs hb hr)
                        | ((with_reducible refine at_append (.tmp 130) (.tmp 142) ?_)
                           refine wpList_append1 (f := intL) (l := (zls.take j).map (moved (l1.length : Int))) (.tmp 130) (.tmp 142) 66 rfl rfl w14.heap.size 3 _ 1 8 Tryz.underlying66 infoInt rfl (by decide) _ rfl (HOW.out.kept HF3.out) _ 1 y' [intV y'] rfl HX3.out rfl (by simp [Value.oneCell']) (by rw [HLI.out]; exact j4) (by decide) HB3.out ?_
                           intro A5 c5 W5 ho5 hf5
                           have hf5 := tb_own (HOW.out.kept HF3.out) hf5
                           have HOW5 := Lib.hid ho5
                           have HF5 := Lib.hid ((ff0 HFj.out HF3.out).fresh hf5 (fun i h => h.1))
                           clear ho5 hf5))
                      go_roundg (zls.length - (j + 1))
                      case measure => omega
                      case rel =>
                        refine ⟨j + 1, A5, c5, by omega, by go_num, by rw [show min j zls.length = j by omega], ?_, HF5.out⟩
                        have h := HOW5.out
                        rw [HLI.out] at h
                        rw [HTj.out]
                        exact h
                    · obtain rfl : j = zls.length := by omega
                      have hj1 : (zls.length : Int) ≤ (zls.length : Int) := Int.le_refl _
                      rw [List.take_length] at hown
                      have HOW := Lib.hid hown
                      have hbw := hf.blk HBZ.out (fun h => h)
                      have HBW := Lib.hid hbw
                      clear hown hf hbw
                      go_wp2_with (first
                        | ((with_reducible refine at_store 66 ?_)
                           refine wpList_store_cell 66 _ _ bZ (i * 3 + 2) 69 C (C.setIfInBounds (i * 3 + 2) (.slice Aj zls.length cj)) (.slice Aj zls.length cj) (by rfl) rfl rfl rfl rfl HBW.out info_ints1 (by rfl) hCJ rfl ?_
                           intro W2 hf hb
                           have HE := Lib.hid (HSr.out.kept HFj.out)
                           have HF2 := Lib.hid hf
                           have HB2 := Lib.hid hb
                           clear hf hb))
                      go_roundg (d.zones.length - (i + 1))
                      case measure => omega
                      case rel =>
                        have hE := HE.out
                        have hq := HBW.out
                        have hf := HF2.out
                        have hset : ((done ++ (⟨zn, zes, zls⟩, ve, .slice An zls.length cn) :: zv.drop (i + 1)).flatMap zoneL).set (i * 3 + 2) (.slice Aj zls.length cj) = ((done ++ (⟨zn, zes, zls.map (moved (l1.length : Int))⟩, ve, .slice Aj zls.length cj) :: zv.drop (i + 1)).flatMap zoneL) := by
                          have h := flat_put zoneL 3 zoneL_len done (⟨zn, zes, zls⟩, ve, .slice An zls.length cn) (⟨zn, zes, zls.map (moved (l1.length : Int))⟩, ve, .slice Aj zls.length cj) (zv.drop (i + 1)) 2 (.slice Aj zls.length cj) (by decide) rfl
                          rw [HDL.out] at h
                          exact h
                        have hl2 : (done ++ (⟨zn, zes, zls.map (moved (l1.length : Int))⟩, ve, .slice Aj zls.length cj) :: zv.drop (i + 1)).length = (done ++ (⟨zn, zes, zls⟩, ve, .slice An zls.length cn) :: zv.drop (i + 1)).length := by simp
                        have hJ : i * 3 + 2 < ((done ++ (⟨zn, zes, zls⟩, ve, .slice An zls.length cn) :: zv.drop (i + 1)).flatMap zoneL).length := by rw [flat_len zoneL 3 zoneL_len, HLE.out]; omega
                        have hz2 := own_cell hE.z HLE.out.symm hq HB2.out hJ hset hl2
                        refine ⟨i + 1, done ++ [(⟨zn, zes, zls.map (moved (l1.length : Int))⟩, ve, .slice Aj zls.length cj)], by omega, by go_num, ?_, fun x hx => ?_, R.own_q ((HG2.out).kept HFj.out) hq hf (by decide), ?_⟩
                        · rw [List.map_append, HDM.out, HT.out]; rfl
                        · rcases List.mem_append.1 hx with hx | hx
                          · exact zat_q ((HDA.out x hx).kept HFj.out) hq hf (by decide) (by decide)
                          · have hx : x = (⟨zn, zes, zls.map (moved (l1.length : Int))⟩, ve, .slice Aj zls.length cj) := by simpa using hx
                            subst hx
                            exact ⟨own_base (R.own_q ((HZA.out.e.kept HSr.out.f).kept HFj.out) hq hf (by decide)) (Nat.zero_le _), own_base (R.own_q (show Own _ w14.heap.size 3 1 intL (.slice Aj zls.length cj) (zls.map (moved (l1.length : Int))) from HOW.out) hq hf (by decide)) (Nat.zero_le _)⟩
                        · rw [List.append_assoc]
                          exact ⟨R.blk_d hE.b hq hf (by decide), R.own_q hE.r hq hf (by decide), hz2, R.own_q hE.l hq hf (by decide), hE.f.fresh hf (fun i e => by have e : i = bZ := e; omega)⟩
                · obtain rfl : i = d.zones.length := by omega
                  have hzd : zv.drop d.zones.length = [] := List.drop_eq_nil_of_le (by rw [HZL.out]; exact Nat.le_refl _)
                  rw [hzd, List.append_nil] at hS
                  rw [List.take_length] at hdm
                  have hi1 : (d.zones.length : Int) ≤ (d.zones.length : Int) := Int.le_refl _
                  go_wp2_with fail
                  have hsd := hS.kept (Fr.drew wr (fun _ => False))
                  have hvb := (HVB.out.kept hS.f).kept (Fr.drew wr (fun _ => False))
                  have HC := Lib.hid (show DocAt 61 69 63 wr.drew 0 (.slice Kr d.rules.length kr) (.slice Kz d.zones.length kz) (.slice Kl d.links.length kl) (.slice Ag d.diags.length cg) e from by
                    rw [← HE.out]
                    exact ⟨own_base hsd.r (Nat.zero_le _), ⟨done, hdm, own_base hsd.z (Nat.zero_le _), fun x hx => (hda x hx).kept (Fr.drew wr (fun _ => False))⟩, own_base hsd.l (Nat.zero_le _), own_base (hgg.kept (Fr.drew wr (fun _ => False))) (Nat.zero_le _)⟩)
                  obtain ⟨zb, hzb, hr, hz, hall, hl, hg⟩ := doc_parts hvb.d
                  have HBK := Lib.hid (Back_any e _ _ _ _ _ _ zb hzb hr hz hall hl hg (by omega) (by omega) (by omega))
                  have HSD := Lib.hid hsd
                  have HVD := Lib.hid hvb.b
                  have HFW := Lib.hid (ff0 (ff0 HF7.out hS.f) (Fr.drew wr _))
                  have HZB := Lib.hid hzb
                  have HALB := Lib.hid hall
                  have HGB := Lib.hid hg
                  clear hS hsd hvb hzb hr hz hall hl hg hda hgg hdm c1
                  refine wp_region_held_drew (S := fun w' => Fr wr.drew w' (fun _ => False)) (by kernel_rfl) (Fr.refl _ _) (fun hHeld => ?_)
                  refine wpAnyH_take (i := 0) (v := _) rfl (by kernel_rfl) (by kernel_rfl) (by kernel_rfl) (fun _ _ _ h => h) ((yields_blk 31 _ w8.heap.size 0 31 #[(.slice Kr d.rules.length kr), (.slice Kz d.zones.length kz), (.slice Kl d.links.length kl), (.slice Ag d.diags.length cg)] #[(.slice Kr d.rules.length kr), (.slice Kz d.zones.length kz), (.slice Kl d.links.length kl), (.slice Ag d.diags.length cg)] _ (by rfl) rfl rfl (fun w' hSw => hSw.blk HSD.out.b (fun h => h)) Tryz.underlying31 rfl (infoTrdoc _ _ _ _) (zero_part _) : YieldsIf _ _ _ _ (.agg #[(.slice Kr d.rules.length kr), (.slice Kz d.zones.length kz), (.slice Kl d.links.length kl), (.slice Ag d.diags.length cg)]) _)) (by assumption) ?_
                  try simp only [Act.put, List.setIfInBounds_toArray, List.set_cons_zero, List.set_cons_succ, List.getElem_toArray, List.getElem_cons_zero]
                  refine wpAnyH_take (i := 1) (v := _) rfl (by kernel_rfl) (by kernel_rfl) (by kernel_rfl) (fun _ _ _ h => h) ((yields_blk 37 _ w6.heap.size 0 37 #[.slice Br e.rules.length er, .slice Bz e.zones.length ez, .slice Bl e.links.length el, .slice Bd e.diags.length ed] #[.slice Br e.rules.length er, .slice Bz e.zones.length ez, .slice Bl e.links.length el, .slice Bd e.diags.length ed] _ (by rfl) rfl rfl (fun w' hSw => hSw.blk HVD.out (fun h => h)) Tryz.underlying37 rfl (infoTdoc _ _ _ _) (zero_part _) : YieldsIf _ _ _ _ (.agg #[.slice Br e.rules.length er, .slice Bz e.zones.length ez, .slice Bl e.links.length el, .slice Bd e.diags.length ed]) _)) (by assumption) ?_
                  try simp only [Act.put, List.setIfInBounds_toArray, List.set_cons_zero, List.set_cons_succ, List.getElem_toArray, List.getElem_cons_succ, List.getElem_cons_zero]
                  refine wpAnyH_ready (rs := [2]) (by kernel_rfl) (by simp) ?_
                  refine AllReadyH.cons rfl (fun K hK => ?_) AllReadyH.nil
                  go_simp
                  refine HBK.out.mono ?_
                  rintro en w10 ⟨br2, bz2, bl2, rfl, hbr2, hbz2, hbl2, hf10⟩
                  have HDB := Lib.hid (back_doc HZB.out hbr2 hbz2 hbl2 HALB.out HGB.out hf10)
                  have HF10 := Lib.hid hf10
                  refine hK.out _ _ hf10 (fun hHeld2 => ?_)
                  clear hK K hHeld hbr2 hbz2 hbl2
                  try simp only [Act.put, List.setIfInBounds_toArray, List.set_cons_zero, List.set_cons_succ, List.getElem_toArray, List.getElem_cons_succ, List.getElem_cons_zero]
                  refine wpAnyH_ready (rs := [3]) (by kernel_rfl) (by simp) ?_
                  refine AllReadyH.cons rfl (fun K hK => ?_) AllReadyH.nil
                  go_simp
                  refine (Same_any e _ _ _ _ _ _ _ _ _ _ _ (HC.out.kept HF10.out) HDB.out (by omega) (by omega) (by omega) (by omega) HZE.out).mono ?_
                  rintro en w11 ⟨rfl, hf11⟩
                  have HF11 := Lib.hid (ff0 HF10.out hf11)
                  refine hK.out _ _ HF11.out (fun hHeld3 => ?_)
                  clear hK K hHeld2 hf11 hf10
                  try simp only [Act.put, List.setIfInBounds_toArray, List.set_cons_zero, List.set_cons_succ, List.getElem_toArray, List.getElem_cons_succ, List.getElem_cons_zero]
                  refine wpAnyH_take (i := 4) (v := ?_) rfl (by kernel_rfl) (by kernel_rfl) (by kernel_rfl) (fun _ _ _ h => h) (Or.inl ⟨by rfl, ?_⟩) (by assumption) ?_
                  rotate_left
                  · intro w' hSw
                    skip
                    go_simp
                    try with_reducible rfl
                  try simp only [Act.put, List.setIfInBounds_toArray, List.set_cons_zero, List.set_cons_succ, List.getElem_toArray, List.getElem_cons_succ, List.getElem_cons_zero]
                  refine wpAnyH_ready (rs := [5]) (by kernel_rfl) (by simp) ?_
                  refine AllReadyH.cons rfl (fun K hK => ?_) AllReadyH.nil
                  go_simp
                  refine (HW.out w11 (ff0 HFW.out HF11.out)).mono ?_
                  rintro en w12 ⟨rfl, hf12⟩
                  have HF12 := Lib.hid (ff0 HF11.out hf12)
                  refine hK.out _ _ HF12.out (fun hHeld4 => ?_)
                  clear hK K hHeld3 hf12
                  try simp only [Act.put, List.setIfInBounds_toArray, List.set_cons_zero, List.set_cons_succ, List.getElem_toArray, List.getElem_cons_succ, List.getElem_cons_zero]
                  refine wpAnyH_take (i := 6) (v := ?_) rfl (by kernel_rfl) (by kernel_rfl) (by kernel_rfl) (fun _ _ _ h => h) (Or.inl ⟨by rfl, ?_⟩) (by assumption) ?_
                  rotate_left
                  · intro w' hSw
                    skip
                    go_simp
                    try with_reducible rfl
                  try simp only [Act.put, List.setIfInBounds_toArray, List.set_cons_zero, List.set_cons_succ, List.getElem_toArray, List.getElem_cons_succ, List.getElem_cons_zero]
                  refine wpAnyH_take (i := 7) (v := ?_) rfl (by kernel_rfl) (by kernel_rfl) (by kernel_rfl) (fun _ _ _ h => h) (Or.inl ⟨by rfl, ?_⟩) (by assumption) ?_
                  rotate_left
                  · intro w' hSw
                    skip
                    go_simp
                    try with_reducible rfl
                  try simp only [Act.put, List.setIfInBounds_toArray, List.set_cons_zero, List.set_cons_succ, List.getElem_toArray, List.getElem_cons_succ, List.getElem_cons_zero]
                  refine wpAnyH_done (by kernel_rfl) ?_ _
                  clear hHeld4
                  go_wp2_with fail
                  go_ret
                  exact ⟨rfl, ff0 HFW.out HF12.out⟩
set_option maxRecDepth 100000 in
set_option maxHeartbeats 1600000 in
/-- an element's place: where it lies in the list or at its end, the lines are parted there -/
theorem empty_any (l : List LineL) (A : Option Addr) (c : Nat) (at_ : Int) (w : World) (hl : LinesAt w A l) (hcap : l.length ≤ c) (hcm : c ≤ maxLen) (hw : LOk w) : Calls Tryz.prog 5 #[.slice A l.length c, intV at_] w (TrueR w) := by
  have HW := Lib.hid (fun (W : World) (f : Fr w W (fun _ => False)) => alive10_any W (hw.fr f))
  cases hb : lightD l with
  | true =>
    have hlen := light_len hb
    by_cases h1 : at_ < 0 ∨ (l.length : Int) < at_
    · have HT := Lib.hid (light10_any l A c w hl (by unfold maxLen; omega) true hb)
      have h1 : at_ < 0 ∨ ((0 : Int) ≤ at_ ∧ (l.length : Int) < at_) := by omega
      clear hl hw hb hcm hcap
      rcases h1 with h1 | ⟨h0, h1⟩
      all_goals
        go_enter Tryz.func5, Tryz.ntmps5
        go_wp2_with fail
        refine HT.out.mono ?_
        rintro en w2 ⟨rfl, hf2⟩
        have HA := Lib.hid (HW.out w2 hf2)
        have HF2 := Lib.hid hf2
        clear hf2
        go_wp2_with fail
        refine HA.out.mono ?_
        rintro en w3 ⟨rfl, hf3⟩
        have HF3 := Lib.hid (ff0 HF2.out hf3)
        clear hf3
        go_wp2_with fail
        go_ret
        exact ⟨rfl, HF3.out⟩
    · obtain ⟨k, rfl⟩ : ∃ k : Nat, at_ = (k : Int) := ⟨at_.toNat, by omega⟩
      have hk : k ≤ l.length := by omega
      have h := empty_main (l.take k) (l.drop k) A l.length c w (by rw [List.length_take, List.length_drop]; omega) (by rw [List.take_append_drop]; exact hl) hcap hcm (by rw [List.take_append_drop]; exact hb) hw
      rw [List.length_take, Nat.min_eq_left hk] at h
      exact h
  | false =>
    have HT := Lib.hid (light10_any l A c w hl (by unfold maxLen at *; omega) false hb)
    clear hl hw hb hcm hcap
    go_enter Tryz.func5, Tryz.ntmps5
    go_wp2_with fail
    refine HT.out.mono ?_
    rintro en w2 ⟨rfl, hf2⟩
    have HA := Lib.hid (HW.out w2 hf2)
    have HF2 := Lib.hid hf2
    clear hf2
    go_wp2_with fail
    refine HA.out.mono ?_
    rintro en w3 ⟨rfl, hf3⟩
    have HF3 := Lib.hid (ff0 HF2.out hf3)
    clear hf3
    go_wp2_with fail
    go_ret
    exact ⟨rfl, HF3.out⟩
end Go.Proofs.YtlfjknndkjgciaaGreatDoor
