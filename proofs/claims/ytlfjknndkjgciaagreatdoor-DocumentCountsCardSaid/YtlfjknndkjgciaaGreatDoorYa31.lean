import Derived.Test.YtlfjknndkjgciaaGreatDoorYa30
import Derived.Test.YtlfjknndkjgciaaGreatDoorYa26
import Derived.Test.YtlfjknndkjgciaaGreatDoorYa09
import Derived.Test.YtlfjknndkjgciaaGreatDoorYa25
namespace Go.Proofs.YtlfjknndkjgciaaGreatDoor
open Go.RowKit Go.Mem Go.Lin Go.Dcm

/-- a document of the program, as Back asks it -/
theorem doc_parts {tr tz tl : TypeId} {w : World} {B : Nat} {d : DocL} {vr vz vl vd : Value} (h : DocAt tr tz tl w B vr vz vl vd d) : ∃ zv : List ZV, zv.map (·.1) = d.zones ∧ Own w B tr 12 ruleL vr d.rules ∧ Own w B tz 3 zoneL vz zv ∧ (∀ x ∈ zv, ZAt w B x) ∧ Own w B tl 3 linkL vl d.links ∧ Own w B 65 4 diagL vd d.diags := by
  obtain ⟨zv, h1, h2, h3⟩ := h.z
  exact ⟨zv, h1, h.r, h2, h3, h.l, h.g⟩
theorem back_doc {w w' : World} {B : Nat} {d : DocL} {vr vz vl vd : Value} {zv : List ZV} (hz : zv.map (·.1) = d.zones) (h1 : Own w' w.heap.size 61 12 ruleL vr d.rules) (h2 : Own w' w.heap.size 69 3 zoneL vz zv) (h3 : Own w' w.heap.size 63 3 linkL vl d.links)
    (ha : ∀ x ∈ zv, ZAt w B x) (hd : Own w B 65 4 diagL vd d.diags) (hf : Fr w w' (fun _ => False)) : DocAt 61 69 63 w' 0 vr vz vl vd d :=
  ⟨own_base h1 (Nat.zero_le _), ⟨zv, hz, own_base h2 (Nat.zero_le _), fun x hx => zat_base ((ha x hx).kept hf) (Nat.zero_le _)⟩, own_base h3 (Nat.zero_le _), own_base (hd.kept hf) (Nat.zero_le _)⟩
set_option maxRecDepth 100000 in
set_option maxHeartbeats 3200000 in
theorem of_any (l : List LineL) (A : Option Addr) (c : Nat) (w : World) (hl : LinesAt w A l) (hm : l.length ≤ maxLen) (hw : LOk w) : Calls Tryz.prog 3 #[.slice A l.length c] w (TrueR w) := by
  have HW := Lib.hid (fun (W : World) (f : Fr w W (fun _ => False)) => alive10_any W (hw.fr f))
  cases hb : lightD l with
  | false =>
    have HT := Lib.hid (light10_any l A c w hl hm false hb)
    clear hl hw hb
    go_enter Tryz.func3, Tryz.ntmps3
    go_wp2_with fail
    refine HT.out.mono ?_
    rintro e w2 ⟨rfl, hf2⟩
    have HA := Lib.hid (HW.out w2 hf2)
    have HF2 := Lib.hid hf2
    clear hf2
    go_wp2_with fail
    refine HA.out.mono ?_
    rintro e w3 ⟨rfl, hf3⟩
    have HF3 := Lib.hid (ff0 HF2.out hf3)
    clear hf3
    go_wp2_with fail
    go_ret
    exact ⟨rfl, HF3.out⟩
  | true =>
    have hlen := light_len hb
    have HT := Lib.hid (light10_any l A c w hl hm true hb)
    have HZO := Lib.hid (zn_doc (l := l))
    have hszs := sizes_of l
    have HD := Lib.hid (fun (W : World) (f : Fr w W (fun _ => False)) => dOf_any l A c W (hl.kept f) (by omega))
    have HR := Lib.hid (fun (W : World) (f : Fr w W (fun _ => False)) => rOf_any l A c W (hl.kept f) (by omega))
    obtain ⟨d, hd⟩ : ∃ d, ofD l = d := ⟨_, rfl⟩
    rw [hd] at HD HR HZO hszs
    have h1 : d.rules.length ≤ 100000 := by omega
    have h2 : d.zones.length ≤ 100000 := by omega
    have h3 : d.links.length ≤ 100000 := by omega
    have h4 : d.diags.length ≤ 100000 := by omega
    clear hl hw hb hd hszs
    go_enter Tryz.func3, Tryz.ntmps3
    go_wp2_with fail
    refine HT.out.mono ?_
    rintro e w2 ⟨rfl, hf2⟩
    have HD2 := Lib.hid (HD.out w2 hf2)
    have HF2 := Lib.hid hf2
    clear hf2
    go_wp2_with fail
    refine HD2.out.mono ?_
    rintro e w3 ⟨vr, vz, vl, vd, rfl, hd3, hf3⟩
    obtain ⟨zv, hzv, hr, hz, hall, hl, hg⟩ := doc_parts hd3
    have HB := Lib.hid (Back_any d vr vz vl vd _ w3 zv hzv hr hz hall hl hg h1 h2 h3)
    have HF3 := Lib.hid (ff0 HF2.out hf3)
    have HZV := Lib.hid hzv
    have HAL := Lib.hid hall
    have HG := Lib.hid hg
    clear hd3 hf3 hzv hr hz hall hl hg
    go_wp2_with fail
    refine HB.out.mono ?_
    rintro e w4 ⟨br, bz, bl, rfl, hbr, hbz, hbl, hf4⟩
    have HDA := Lib.hid (back_doc HZV.out hbr hbz hbl HAL.out HG.out hf4)
    have HF4 := Lib.hid (ff0 HF3.out hf4)
    have HR4 := Lib.hid (HR.out w4 (ff0 HF3.out hf4))
    clear hbr hbz hbl hf4
    go_wp2_with fail
    refine HR4.out.mono ?_
    rintro e w5 ⟨cr, cz, cl, cd, rfl, hd5, hf5⟩
    have HS := Lib.hid (Same_any d br bz bl vd cr cz cl cd _ _ w5 (HDA.out.kept hf5) hd5 h1 h2 h3 h4 HZO.out)
    have HF5 := Lib.hid (ff0 HF4.out hf5)
    clear hd5 hf5
    go_wp2_with fail
    refine HS.out.mono ?_
    rintro e w6 ⟨rfl, hf6⟩
    have HA := Lib.hid (HW.out w6 (ff0 HF5.out hf6))
    have HF6 := Lib.hid (ff0 HF5.out hf6)
    clear hf6
    go_wp2_with fail
    refine HA.out.mono ?_
    rintro e w7 ⟨rfl, hf7⟩
    have HF7 := Lib.hid (ff0 HF6.out hf7)
    clear hf7
    go_wp2_with fail
    go_ret
    exact ⟨rfl, HF7.out⟩
end Go.Proofs.YtlfjknndkjgciaaGreatDoor
namespace Go.Proofs.YtlfjknndkjgciaaGreatDoor
open Go.RowKit Go.Mem Go.Lin Go.Dcm

/-- how often each kind is there, in cells -/
def cntC (l : List LineL) : Array Value := #[intV (kindN 0 l), intV (kindN 1 l), intV (kindN 2 l), intV (kindN 3 l), intV (kindN 4 l), intV (kindN 5 l)]
theorem cnt_at (l : List LineL) (m : Nat) (hm : m < 6) : (cntC l)[m]? = some (intV (kindN (m : Int) l)) := by
  match m, hm with
  | 0, _ => rfl
  | 1, _ => rfl
  | 2, _ => rfl
  | 3, _ => rfl
  | 4, _ => rfl
  | 5, _ => rfl
theorem cnt_snoc (l : List LineL) (x : LineL) (m : Nat) (hm : m < 6) (hk : x.kind = (m : Int)) : (cntC l).setIfInBounds m (intV ((kindN (m : Int) l : Int) + 1)) = cntC (l ++ [x]) := by
  have h : ∀ j : Int, (kindN j (l ++ [x]) : Int) = (kindN j l : Int) + if j = (m : Int) then 1 else 0 := fun j => by
    rw [kindN_snoc, hk]
    by_cases e : (m : Int) = j
    · rw [if_pos e, if_pos e.symm]; rfl
    · rw [if_neg e, if_neg (fun h => e h.symm)]; simp
  unfold cntC
  match m, hm with
  | 0, _ => simp [h]
  | 1, _ => simp [h]
  | 2, _ => simp [h]
  | 3, _ => simp [h]
  | 4, _ => simp [h]
  | 5, _ => simp [h]
theorem cnt_other (l : List LineL) (x : LineL) (hk : x.kind < 0 ∨ 6 ≤ x.kind) : cntC (l ++ [x]) = cntC l := by
  have h : ∀ j : Int, 0 ≤ j → j < 6 → kindN j (l ++ [x]) = kindN j l := fun j h0 h6 => by
    rw [kindN_snoc, if_neg (by omega)]; rfl
  unfold cntC
  rw [h 0 (by decide) (by decide), h 1 (by decide) (by decide), h 2 (by decide) (by decide), h 3 (by decide) (by decide), h 4 (by decide) (by decide), h 5 (by decide) (by decide)]
theorem kindN_le (k : Int) (l : List LineL) : kindN k l ≤ l.length := List.countP_le_length
theorem fiveN_le (l : List LineL) : fiveN l ≤ l.length := List.countP_le_length
theorem wrongN_le (l : List DiagL) : wrongN l ≤ l.length := List.countP_le_length
theorem wrongN_snoc (l : List DiagL) (x : DiagL) : wrongN (l ++ [x]) = wrongN l + if wrongK x.k = true then 1 else 0 := by
  rw [wrongN_append]
  simp [wrongN, List.countP_cons]
theorem eraN_snoc (l : List ZoneL) (x : ZoneL) : eraN (l ++ [x]) = eraN l + ((x.eras.length : Int) - 1) := by
  rw [eraN_append]
  simp [eraN]
theorem eraN_le : ∀ (l : List ZoneL), (∀ z ∈ l, ZOk z) → 0 ≤ eraN l ∧ eraN l ≤ 7 * (l.length : Int)
  | [], _ => by simp [eraN]
  | z :: l, h => by
    have ih := eraN_le l (fun y hy => h y (List.mem_cons_of_mem _ hy))
    obtain ⟨-, h1, h2⟩ := h z List.mem_cons_self
    have e : eraN (z :: l) = ((z.eras.length : Int) - 1) + eraN l := by simp [eraN]
    rw [e]
    simp only [List.length_cons]
    omega
theorem flat_cons (z : ZoneL) (l : List ZoneL) : flatZ (z :: l) = z.lines.zip z.eras ++ flatZ l := rfl
/-- one place more of the rising lines -/
theorem rises_next {a : Int} {ls : List Int} {es : List EraL} {r : List (Int × EraL)} (k : Nat) (h : rises a ((ls.zip es).drop k ++ r)) (h1 : k < ls.length) (h2 : k < es.length) : a < ls[k] ∧ rises ls[k] ((ls.zip es).drop (k + 1) ++ r) := by
  have hk : k < (ls.zip es).length := by rw [List.length_zip]; omega
  rw [List.drop_eq_getElem_cons hk, List.getElem_zip] at h
  exact h
/-- the first cells of a slice of six ints, just made -/
theorem made_ints {w w' : World} (h : w'.ownsRow 0 3 1 (.slice (some ⟨w.heap.size, 0, none⟩) 6 6) 6 (madeCells #[intV 0] (6 * 1)).toList) : Blk w' w.heap.size 3 (cntC []) := by
  rcases h.2 with ⟨h', -⟩ | ⟨g', cap', cur, h', hb, hg, hnc, hcm, hcs, ht⟩
  · simp at h'
  · injection h' with h1 h2 h3
    injection h1 with h1
    injection h1 with h1
    subst h1 h3
    rw [List.take_of_length_le (by rw [Array.length_toList, hcs]; exact Nat.le_refl _)] at ht
    have e : cur = cntC [] := Array.toList_inj.1 (by rw [ht, toList_madeCells_one]; rfl)
    rw [← e]
    exact hg
end Go.Proofs.YtlfjknndkjgciaaGreatDoor
