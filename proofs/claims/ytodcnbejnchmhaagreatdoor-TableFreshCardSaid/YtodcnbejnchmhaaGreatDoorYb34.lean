import Derived.Test.YtodcnbejnchmhaaGreatDoorYb33
namespace Go.Proofs.YtodcnbejnchmhaaGreatDoor
open Go.RowKit Go.Mem Go.Lin Go.Dcm

/-- two variables that hold the same document -/
structure S2 (w W : World) (p q : Nat) (d : DocL) (ar az al ad br bz bl bd : Value) : Prop where
  a : DVar 91 95 99 51 W p d ar az al ad
  b : DVar 91 95 99 51 W q d br bz bl bd
  f : Fr w W (fun _ => False)
theorem S2.kept {w W W' : World} {p q : Nat} {d : DocL} {ar az al ad br bz bl bd : Value} (h : S2 w W p q d ar az al ad br bz bl bd) (hf : Fr W W' (fun _ => False)) : S2 w W' p q d ar az al ad br bz bl bd := ⟨h.a.kept hf, h.b.kept hf, ff0 h.f hf⟩
theorem doc_l {tr tz tl : TypeId} {w : World} {B : Nat} {d : DocL} {vr vz vd : Value} {Ad : Option Addr} {n cd : Nat} (h : DocAt tr tz tl w B vr vz (.slice Ad n cd) vd d) : Rd w 3 Ad d.links.length (d.links.flatMap linkL) := by
  obtain ⟨A, c, e, -, -, hr⟩ := h.l.rd
  injection e with e
  subst e
  exact hr
theorem zone_cells {tr tz tl : TypeId} {w : World} {B : Nat} {d : DocL} {vr vl vd : Value} {Az : Option Addr} {nz cz : Nat} (h : DocAt tr tz tl w B vr (.slice Az nz cz) vl vd d) {i : Nat} (hi : i < d.zones.length) : ∃ bz off Ae ce An cn, Az = some ⟨bz, off, none⟩ ∧
    (∀ j, j < (#[strV d.zones[i].name, .slice Ae d.zones[i].eras.length ce, .slice An d.zones[i].lines.length cn] : Array Value).size → w.cell? ⟨bz, off + i * 3 + j, none⟩ = (#[strV d.zones[i].name, .slice Ae d.zones[i].eras.length ce, .slice An d.zones[i].lines.length cn] : Array Value)[j]?) ∧
    Rd w 13 Ae d.zones[i].eras.length (d.zones[i].eras.flatMap eraL) ∧ Rd w 1 An d.zones[i].lines.length (d.zones[i].lines.flatMap intL) := by
  obtain ⟨bz, off, Ae, ce, An, cn, e, k0, k1, k2, h1, h2⟩ := doc_zone h hi
  exact ⟨bz, off, Ae, ce, An, cn, e, below_3 (P := fun j => w.cell? ⟨bz, off + i * 3 + j, none⟩ = (#[strV d.zones[i].name, .slice Ae d.zones[i].eras.length ce, .slice An d.zones[i].lines.length cn] : Array Value)[j]?) k0 k1 k2, h1, h2⟩
set_option maxRecDepth 100000 in
set_option maxHeartbeats 6400000 in
theorem Same_any (d : DocL) (ar az al ad br bz bl bd : Value) (B1 B2 : Nat) (w : World) (ha : DocAt 91 95 99 w B1 ar az al ad d) (hb : DocAt 91 95 99 w B2 br bz bl bd d) (h1 : d.rules.length ≤ 100000) (h2 : d.zones.length ≤ 100000) (h3 : d.links.length ≤ 100000) (h4 : d.diags.length ≤ 100000)
    (hz8 : ∀ z ∈ d.zones, ZOk z) : Calls Tryz.prog 21 #[.agg #[ar, az, al, ad], .agg #[br, bz, bl, bd]] w (TrueR w) := by
  obtain ⟨Aar, car, Aaz, caz, Aal, cal, Aad, cad, rfl, rfl, rfl, rfl⟩ := doc_slices ha
  obtain ⟨Abr, cbr, Abz, cbz, Abl, cbl, Abd, cbd, rfl, rfl, rfl, rfl⟩ := doc_slices hb
  have n1 := Fr.new w (.cells #[.slice Aar d.rules.length car, .slice Aaz d.zones.length caz, .slice Aal d.links.length cal, .slice Aad d.diags.length cad] 51) (fun _ => False)
  have s1 : (w.alloc (.cells #[.slice Aar d.rules.length car, .slice Aaz d.zones.length caz, .slice Aal d.links.length cal, .slice Aad d.diags.length cad] 51)).heap.size = w.heap.size + 1 := by simp
  have n2 := Fr.new (w.alloc (.cells #[.slice Aar d.rules.length car, .slice Aaz d.zones.length caz, .slice Aal d.links.length cal, .slice Aad d.diags.length cad] 51)) (.cells #[.slice Abr d.rules.length cbr, .slice Abz d.zones.length cbz, .slice Abl d.links.length cbl, .slice Abd d.diags.length cbd] 51) (fun _ => False)
  have va := (dvar_new 51 ha).kept n2
  have vb := dvar_new 51 (hb.kept n1)
  rw [s1] at vb
  have HS := Lib.hid (show S2 w ((w.alloc (.cells #[.slice Aar d.rules.length car, .slice Aaz d.zones.length caz, .slice Aal d.links.length cal, .slice Aad d.diags.length cad] 51)).alloc (.cells #[.slice Abr d.rules.length cbr, .slice Abz d.zones.length cbz, .slice Abl d.links.length cbl, .slice Abd d.diags.length cbd] 51)) w.heap.size (w.heap.size + 1) d (.slice Aar d.rules.length car) (.slice Aaz d.zones.length caz) (.slice Aal d.links.length cal) (.slice Aad d.diags.length cad) (.slice Abr d.rules.length cbr) (.slice Abz d.zones.length cbz) (.slice Abl d.links.length cbl) (.slice Abd d.diags.length cbd) from ⟨va, vb, ff0 n1 n2⟩)
  have a0 := blkc va.b 0 _ rfl
  have a1 := blkc va.b 1 _ rfl
  have a2 := blkc va.b 2 _ rfl
  have a3 := blkc va.b 3 _ rfl
  have b0 := blkc vb.b 0 _ rfl
  have b1 := blkc vb.b 1 _ rfl
  have b2 := blkc vb.b 2 _ rfl
  have b3 := blkc vb.b 3 _ rfl
  have HD := Lib.hid (Diags_any d.diags Aad Abd cad cbd _ (doc_d va.d) (doc_d vb.d) (by omega))
  have HZ := Lib.hid hz8
  clear n1 n2 va vb ha hb hz8
  go_enter Tryz.func21, Tryz.ntmps21
  go_wp2_with fail
  refine HD.out.mono ?_
  rintro e w2 ⟨rfl, hf2⟩
  have HS2 := Lib.hid (HS.out.kept hf2)
  clear HS HD hf2 a0 a1 a2 a3 b0 b1 b2 b3
  have a0 := blkc HS2.out.a.b 0 _ rfl
  go_wp2_with fail
  clear a0
  go_loopg [5] d.rules.length (fun k v5 wr => ∃ i : Nat, i + k = d.rules.length ∧ v5 = intV (i : Int) ∧ S2 w wr w.heap.size (w.heap.size + 1) d (.slice Aar d.rules.length car) (.slice Aaz d.zones.length caz) (.slice Aal d.links.length cal) (.slice Aad d.diags.length cad) (.slice Abr d.rules.length cbr) (.slice Abz d.zones.length cbz) (.slice Abl d.links.length cbl) (.slice Abd d.diags.length cbd))
  case atStart => exact ⟨0, by simp, rfl, HS2.out⟩
  case round =>
    obtain ⟨i, hik, rfl, hS⟩ := hrel
    have a0 := blkc hS.a.b 0 _ rfl
    have b0 := blkc hS.b.b 0 _ rfl
    have HSr := Lib.hid hS
    by_cases hlt : i < d.rules.length
    · have hi1 : (i : Int) < (d.rules.length : Int) := by omega
      obtain ⟨x1, o1, rfl, c1⟩ := elem_at ruleL_len (doc_r hS.a.d) hlt
      obtain ⟨x2, o2, rfl, c2⟩ := elem_at ruleL_len (doc_r hS.b.d) hlt
      obtain ⟨x, hx⟩ : ∃ x, d.rules[i] = x := ⟨_, rfl⟩
      rw [hx] at c1 c2
      have C1 := Lib.hid c1
      have C2 := Lib.hid c2
      clear c1 c2 hx hS
      go_wp2_with fail
      refine wp_region_held_drew (S := fun w' => Fr wr w' (fun _ => False)) (by kernel_rfl) (Fr.drew wr _) (fun hHeld => ?_)
      refine wpAnyH_take (i := 0) (v := ?_) rfl (by kernel_rfl) (by kernel_rfl) (by kernel_rfl) (fun _ _ _ h => h) (Or.inl ⟨by rfl, ?_⟩) (by assumption) ?_
      rotate_left
      · intro w' hSw
        skip
        go_simp
        try with_reducible rfl
      try simp only [Act.put, List.setIfInBounds_toArray, List.set_cons_zero, List.set_cons_succ, List.getElem_toArray, List.getElem_cons_zero]
      refine wpAnyH_take (i := 1) (v := ?_) rfl (by kernel_rfl) (by kernel_rfl) (by kernel_rfl) (fun _ _ _ h => h) (Or.inl ⟨by rfl, ?_⟩) (by assumption) ?_
      rotate_left
      · intro w' hSw
        have ka := cell_far hSw a0 (fun h => h)
        go_simp
        try with_reducible rfl
      try simp only [Act.put, List.setIfInBounds_toArray, List.set_cons_zero, List.set_cons_succ, List.getElem_toArray, List.getElem_cons_succ, List.getElem_cons_zero]
      refine wpAnyH_take (i := 2) (v := ?_) rfl (by kernel_rfl) (by kernel_rfl) (by kernel_rfl) (fun _ _ _ h => h) (Or.inl ⟨by rfl, ?_⟩) (by assumption) ?_
      rotate_left
      · intro w' hSw
        skip
        go_simp
        try with_reducible rfl
      try simp only [Act.put, List.setIfInBounds_toArray, List.set_cons_zero, List.set_cons_succ, List.getElem_toArray, List.getElem_cons_succ, List.getElem_cons_zero]
      refine wpAnyH_take (i := 3) (v := ?_) rfl (by kernel_rfl) (by kernel_rfl) (by kernel_rfl) (fun _ _ _ h => h) (Or.inl ⟨by rfl, ?_⟩) (by assumption) ?_
      rotate_left
      · intro w' hSw
        skip
        go_simp
        try with_reducible rfl
      try simp only [Act.put, List.setIfInBounds_toArray, List.set_cons_zero, List.set_cons_succ, List.getElem_toArray, List.getElem_cons_succ, List.getElem_cons_zero]
      refine wpAnyH_take (i := 4) (v := _) rfl (by kernel_rfl) (by kernel_rfl) (by kernel_rfl) (fun _ _ _ h => h) (yields_at 91 _ x1 (o1 + i * 12) (ruleL x).toArray _ (by rfl) rfl (by rfl) (fun w' h => cells_far h C1.out (Nat.le_refl _) (fun h => h)) Tryz.underlying91 rfl infoRR1) (by assumption) ?_
      try simp only [Act.put, List.setIfInBounds_toArray, List.set_cons_zero, List.set_cons_succ, List.getElem_toArray, List.getElem_cons_succ, List.getElem_cons_zero]
      refine wpAnyH_take (i := 5) (v := ?_) rfl (by kernel_rfl) (by kernel_rfl) (by kernel_rfl) (fun _ _ _ h => h) (Or.inl ⟨by rfl, ?_⟩) (by assumption) ?_
      rotate_left
      · intro w' hSw
        skip
        go_simp
        try with_reducible rfl
      try simp only [Act.put, List.setIfInBounds_toArray, List.set_cons_zero, List.set_cons_succ, List.getElem_toArray, List.getElem_cons_succ, List.getElem_cons_zero]
      refine wpAnyH_take (i := 6) (v := ?_) rfl (by kernel_rfl) (by kernel_rfl) (by kernel_rfl) (fun _ _ _ h => h) (Or.inl ⟨by rfl, ?_⟩) (by assumption) ?_
      rotate_left
      · intro w' hSw
        have kb := cell_far hSw b0 (fun h => h)
        go_simp
        try with_reducible rfl
      try simp only [Act.put, List.setIfInBounds_toArray, List.set_cons_zero, List.set_cons_succ, List.getElem_toArray, List.getElem_cons_succ, List.getElem_cons_zero]
      refine wpAnyH_take (i := 7) (v := ?_) rfl (by kernel_rfl) (by kernel_rfl) (by kernel_rfl) (fun _ _ _ h => h) (Or.inl ⟨by rfl, ?_⟩) (by assumption) ?_
      rotate_left
      · intro w' hSw
        skip
        go_simp
        try with_reducible rfl
      try simp only [Act.put, List.setIfInBounds_toArray, List.set_cons_zero, List.set_cons_succ, List.getElem_toArray, List.getElem_cons_succ, List.getElem_cons_zero]
      refine wpAnyH_take (i := 8) (v := ?_) rfl (by kernel_rfl) (by kernel_rfl) (by kernel_rfl) (fun _ _ _ h => h) (Or.inl ⟨by rfl, ?_⟩) (by assumption) ?_
      rotate_left
      · intro w' hSw
        skip
        go_simp
        try with_reducible rfl
      try simp only [Act.put, List.setIfInBounds_toArray, List.set_cons_zero, List.set_cons_succ, List.getElem_toArray, List.getElem_cons_succ, List.getElem_cons_zero]
      refine wpAnyH_take (i := 9) (v := _) rfl (by kernel_rfl) (by kernel_rfl) (by kernel_rfl) (fun _ _ _ h => h) (yields_at 91 _ x2 (o2 + i * 12) (ruleL x).toArray _ (by rfl) rfl (by rfl) (fun w' h => cells_far h C2.out (Nat.le_refl _) (fun h => h)) Tryz.underlying91 rfl infoRR1) (by assumption) ?_
      try simp only [Act.put, List.setIfInBounds_toArray, List.set_cons_zero, List.set_cons_succ, List.getElem_toArray, List.getElem_cons_succ, List.getElem_cons_zero]
      refine wpAnyH_take (i := 10) (v := _) rfl (by kernel_rfl) (by kernel_rfl) (by kernel_rfl) (fun _ _ _ h => h) (yields_neq (by rfl) rfl (by rfl) (by rfl) (guard_rrule _ _ _ _) (same_rrule x)) (by assumption) ?_
      try simp only [Act.put, List.setIfInBounds_toArray, List.set_cons_zero, List.set_cons_succ, List.getElem_toArray, List.getElem_cons_succ, List.getElem_cons_zero]
      refine wpAnyH_done (by kernel_rfl) ?_ _
      clear hHeld
      have HD := Lib.hid (HSr.out.kept (Fr.drew wr (fun _ => False)))
      go_wp2_with fail
      go_roundg (d.rules.length - (i + 1))
      case measure => omega
      case rel => exact ⟨i + 1, by omega, by go_num, HD.out⟩
    · obtain rfl : i = d.rules.length := by omega
      have hi1 : (d.rules.length : Int) ≤ (d.rules.length : Int) := Int.le_refl _
      have a1 := blkc HSr.out.a.b 1 _ rfl
      clear hS HS2 b0
      go_wp2_with fail
      clear a0 a1
      go_loopg [6] d.zones.length (fun k v6 wr => ∃ i : Nat, i + k = d.zones.length ∧ v6 = intV (i : Int) ∧ S2 w wr w.heap.size (w.heap.size + 1) d (.slice Aar d.rules.length car) (.slice Aaz d.zones.length caz) (.slice Aal d.links.length cal) (.slice Aad d.diags.length cad) (.slice Abr d.rules.length cbr) (.slice Abz d.zones.length cbz) (.slice Abl d.links.length cbl) (.slice Abd d.diags.length cbd))
      case atStart => exact ⟨0, by simp, rfl, HSr.out⟩
      case round =>
        obtain ⟨i, hik, rfl, hS⟩ := hrel
        have a1 := blkc hS.a.b 1 _ rfl
        have b1 := blkc hS.b.b 1 _ rfl
        have HSz := Lib.hid hS
        by_cases hlt : i < d.zones.length
        · have hi1 : (i : Int) < (d.zones.length : Int) := by omega
          obtain ⟨x1, o1, Ae1, ce1, An1, cn1, rfl, c1, re1, rn1⟩ := zone_cells hS.a.d hlt
          obtain ⟨x2, o2, Ae2, ce2, An2, cn2, rfl, c2, re2, rn2⟩ := zone_cells hS.b.d hlt
          have hzk := HZ.out d.zones[i] (List.getElem_mem hlt)
          obtain ⟨z, hz⟩ : ∃ x, d.zones[i] = x := ⟨_, rfl⟩
          rw [hz] at c1 c2 re1 re2 rn1 rn2 hzk
          have hzl : z.eras.length ≤ 8 := hzk.2.2
          have hzm : z.lines.length ≤ 8 := hzk.1 ▸ hzk.2.2
          have C1 := Lib.hid c1
          have C2 := Lib.hid c2
          have RE1 := Lib.hid re1
          have RE2 := Lib.hid re2
          have RN1 := Lib.hid rn1
          have RN2 := Lib.hid rn2
          clear c1 c2 re1 re2 rn1 rn2 hz hS hzk
          go_wp2_with fail
          refine wp_region_held_drew (S := fun w' => Fr wr w' (fun _ => False)) (by kernel_rfl) (Fr.drew wr _) (fun hHeld => ?_)
          refine wpAnyH_take (i := 0) (v := ?_) rfl (by kernel_rfl) (by kernel_rfl) (by kernel_rfl) (fun _ _ _ h => h) (Or.inl ⟨by rfl, ?_⟩) (by assumption) ?_
          rotate_left
          · intro w' hSw
            skip
            go_simp
            try with_reducible rfl
          try simp only [Act.put, List.setIfInBounds_toArray, List.set_cons_zero, List.set_cons_succ, List.getElem_toArray, List.getElem_cons_zero]
          refine wpAnyH_take (i := 1) (v := ?_) rfl (by kernel_rfl) (by kernel_rfl) (by kernel_rfl) (fun _ _ _ h => h) (Or.inl ⟨by rfl, ?_⟩) (by assumption) ?_
          rotate_left
          · intro w' hSw
            have ka := cell_far hSw a1 (fun h => h)
            go_simp
            try with_reducible rfl
          try simp only [Act.put, List.setIfInBounds_toArray, List.set_cons_zero, List.set_cons_succ, List.getElem_toArray, List.getElem_cons_succ, List.getElem_cons_zero]
          refine wpAnyH_take (i := 2) (v := ?_) rfl (by kernel_rfl) (by kernel_rfl) (by kernel_rfl) (fun _ _ _ h => h) (Or.inl ⟨by rfl, ?_⟩) (by assumption) ?_
          rotate_left
          · intro w' hSw
            skip
            go_simp
            try with_reducible rfl
          try simp only [Act.put, List.setIfInBounds_toArray, List.set_cons_zero, List.set_cons_succ, List.getElem_toArray, List.getElem_cons_succ, List.getElem_cons_zero]
          refine wpAnyH_take (i := 3) (v := ?_) rfl (by kernel_rfl) (by kernel_rfl) (by kernel_rfl) (fun _ _ _ h => h) (Or.inl ⟨by rfl, ?_⟩) (by assumption) ?_
          rotate_left
          · intro w' hSw
            skip
            go_simp
            try with_reducible rfl
          try simp only [Act.put, List.setIfInBounds_toArray, List.set_cons_zero, List.set_cons_succ, List.getElem_toArray, List.getElem_cons_succ, List.getElem_cons_zero]
          refine wpAnyH_take (i := 4) (v := _) rfl (by kernel_rfl) (by kernel_rfl) (by kernel_rfl) (fun _ _ _ h => h) (yields_at 95 _ x1 (o1 + i * 3) #[strV z.name, .slice Ae1 z.eras.length ce1, .slice An1 z.lines.length cn1] _ (by rfl) rfl (by rfl) (fun w' h => cells_far h C1.out (Nat.le_refl _) (fun h => h)) Tryz.underlying95 rfl infoRZ1) (by assumption) ?_
          try simp only [Act.put, List.setIfInBounds_toArray, List.set_cons_zero, List.set_cons_succ, List.getElem_toArray, List.getElem_cons_succ, List.getElem_cons_zero]
          refine wpAnyH_take (i := 5) (v := ?_) rfl (by kernel_rfl) (by kernel_rfl) (by kernel_rfl) (fun _ _ _ h => h) (Or.inl ⟨by rfl, ?_⟩) (by assumption) ?_
          rotate_left
          · intro w' hSw
            skip
            go_simp
            try with_reducible rfl
          try simp only [Act.put, List.setIfInBounds_toArray, List.set_cons_zero, List.set_cons_succ, List.getElem_toArray, List.getElem_cons_succ, List.getElem_cons_zero]
          refine wpAnyH_take (i := 6) (v := ?_) rfl (by kernel_rfl) (by kernel_rfl) (by kernel_rfl) (fun _ _ _ h => h) (Or.inl ⟨by rfl, ?_⟩) (by assumption) ?_
          rotate_left
          · intro w' hSw
            have kb := cell_far hSw b1 (fun h => h)
            go_simp
            try with_reducible rfl
          try simp only [Act.put, List.setIfInBounds_toArray, List.set_cons_zero, List.set_cons_succ, List.getElem_toArray, List.getElem_cons_succ, List.getElem_cons_zero]
          refine wpAnyH_take (i := 7) (v := ?_) rfl (by kernel_rfl) (by kernel_rfl) (by kernel_rfl) (fun _ _ _ h => h) (Or.inl ⟨by rfl, ?_⟩) (by assumption) ?_
          rotate_left
          · intro w' hSw
            skip
            go_simp
            try with_reducible rfl
          try simp only [Act.put, List.setIfInBounds_toArray, List.set_cons_zero, List.set_cons_succ, List.getElem_toArray, List.getElem_cons_succ, List.getElem_cons_zero]
          refine wpAnyH_take (i := 8) (v := ?_) rfl (by kernel_rfl) (by kernel_rfl) (by kernel_rfl) (fun _ _ _ h => h) (Or.inl ⟨by rfl, ?_⟩) (by assumption) ?_
          rotate_left
          · intro w' hSw
            skip
            go_simp
            try with_reducible rfl
          try simp only [Act.put, List.setIfInBounds_toArray, List.set_cons_zero, List.set_cons_succ, List.getElem_toArray, List.getElem_cons_succ, List.getElem_cons_zero]
          refine wpAnyH_take (i := 9) (v := _) rfl (by kernel_rfl) (by kernel_rfl) (by kernel_rfl) (fun _ _ _ h => h) (yields_at 95 _ x2 (o2 + i * 3) #[strV z.name, .slice Ae2 z.eras.length ce2, .slice An2 z.lines.length cn2] _ (by rfl) rfl (by rfl) (fun w' h => cells_far h C2.out (Nat.le_refl _) (fun h => h)) Tryz.underlying95 rfl infoRZ1) (by assumption) ?_
          try simp only [Act.put, List.setIfInBounds_toArray, List.set_cons_zero, List.set_cons_succ, List.getElem_toArray, List.getElem_cons_succ, List.getElem_cons_zero]
          refine wpAnyH_pair 10 11 12 13 _ _ _ _ rfl rfl rfl rfl (by kernel_rfl) (by kernel_rfl) (by kernel_rfl) (by kernel_rfl) (by kernel_rfl) (by kernel_rfl) (by decide) rfl rfl rfl rfl rfl rfl rfl rfl (by decide) rfl rfl rfl rfl #[strV [], .slice none 0 0, .slice none 0 0] #[strV z.name, .slice Ae1 z.eras.length ce1, .slice An1 z.lines.length cn1] #[strV z.name, .slice Ae2 z.eras.length ce2, .slice An2 z.lines.length cn2] (fun w => by kernel_rfl) infoRZ1 infoRZ1 rfl rfl
            (by simp [Value.oneCell']) (by simp [Value.oneCell']) (fun _ _ => rfl) (fun _ _ => rfl) (fun _ _ => rfl) (fun _ _ => rfl) (fun W hf => ff0 (Fr.drew wr _) hf) ?_
          intro p q W hpq hp hq hbp hbq hfW
          clear hHeld
          have hfr := ff0 (Fr.drew wr (fun _ => False)) hfW
          have z0 := blkc hbp 0 _ rfl
          have z1 := blkc hbp 1 _ rfl
          have z2 := blkc hbp 2 _ rfl
          have y0 := blkc hbq 0 _ rfl
          have y1 := blkc hbq 1 _ rfl
          have y2 := blkc hbq 2 _ rfl
          have HE := Lib.hid (Eras_any z.eras Ae1 Ae2 ce1 ce2 W (Rd.fr RE1.out hfr (fun _ _ _ _ h => h)) (Rd.fr RE2.out hfr (fun _ _ _ _ h => h)) (by omega))
          have HP := Lib.hid hbp
          have HQ := Lib.hid hbq
          have HR := Lib.hid hfr
          clear hbp hbq hfr hfW hp hq
          go_wp2_with fail
          refine HE.out.mono ?_
          rintro e W3 ⟨rfl, hf3⟩
          have hbp := hf3.blk HP.out (fun h => h)
          have hbq := hf3.blk HQ.out (fun h => h)
          have hfr := ff0 HR.out hf3
          clear z0 z1 z2 y0 y1 y2
          have z2 := blkc hbp 2 _ rfl
          have y2 := blkc hbq 2 _ rfl
          have HI := Lib.hid (Ints_any z.lines An1 An2 cn1 cn2 W3 (Rd.fr RN1.out hfr (fun _ _ _ _ h => h)) (Rd.fr RN2.out hfr (fun _ _ _ _ h => h)) (by omega))
          have HR3 := Lib.hid hfr
          clear hbp hbq hfr hf3
          go_wp2_with fail
          refine HI.out.mono ?_
          rintro e W4 ⟨rfl, hf4⟩
          have HD := Lib.hid (HSz.out.kept (ff0 HR3.out hf4))
          clear hf4 z2 y2
          go_wp2_with fail
          go_roundg (d.zones.length - (i + 1))
          case measure => omega
          case rel => exact ⟨i + 1, by omega, by go_num, HD.out⟩
        · obtain rfl : i = d.zones.length := by omega
          have hi1 : (d.zones.length : Int) ≤ (d.zones.length : Int) := Int.le_refl _
          have a2 := blkc HSz.out.a.b 2 _ rfl
          clear hS HSr b1
          go_wp2_with fail
          clear a1 a2
          go_loopg [9] d.links.length (fun k v9 wr => ∃ i : Nat, i + k = d.links.length ∧ v9 = intV (i : Int) ∧ S2 w wr w.heap.size (w.heap.size + 1) d (.slice Aar d.rules.length car) (.slice Aaz d.zones.length caz) (.slice Aal d.links.length cal) (.slice Aad d.diags.length cad) (.slice Abr d.rules.length cbr) (.slice Abz d.zones.length cbz) (.slice Abl d.links.length cbl) (.slice Abd d.diags.length cbd))
          case atStart => exact ⟨0, by simp, rfl, HSz.out⟩
          case round =>
            obtain ⟨i, hik, rfl, hS⟩ := hrel
            have a2 := blkc hS.a.b 2 _ rfl
            have b2 := blkc hS.b.b 2 _ rfl
            have HSl := Lib.hid hS
            by_cases hlt : i < d.links.length
            · have hi1 : (i : Int) < (d.links.length : Int) := by omega
              obtain ⟨x1, o1, rfl, c1⟩ := elem_at linkL_len (doc_l hS.a.d) hlt
              obtain ⟨x2, o2, rfl, c2⟩ := elem_at linkL_len (doc_l hS.b.d) hlt
              obtain ⟨x, hx⟩ : ∃ x, d.links[i] = x := ⟨_, rfl⟩
              rw [hx] at c1 c2
              have C1 := Lib.hid c1
              have C2 := Lib.hid c2
              clear c1 c2 hx hS
              go_wp2_with fail
              refine wp_region_held_drew (S := fun w' => Fr wr w' (fun _ => False)) (by kernel_rfl) (Fr.drew wr _) (fun hHeld => ?_)
              refine wpAnyH_take (i := 0) (v := ?_) rfl (by kernel_rfl) (by kernel_rfl) (by kernel_rfl) (fun _ _ _ h => h) (Or.inl ⟨by rfl, ?_⟩) (by assumption) ?_
              rotate_left
              · intro w' hSw
                skip
                go_simp
                try with_reducible rfl
              try simp only [Act.put, List.setIfInBounds_toArray, List.set_cons_zero, List.set_cons_succ, List.getElem_toArray, List.getElem_cons_zero]
              refine wpAnyH_take (i := 1) (v := ?_) rfl (by kernel_rfl) (by kernel_rfl) (by kernel_rfl) (fun _ _ _ h => h) (Or.inl ⟨by rfl, ?_⟩) (by assumption) ?_
              rotate_left
              · intro w' hSw
                have ka := cell_far hSw a2 (fun h => h)
                go_simp
                try with_reducible rfl
              try simp only [Act.put, List.setIfInBounds_toArray, List.set_cons_zero, List.set_cons_succ, List.getElem_toArray, List.getElem_cons_succ, List.getElem_cons_zero]
              refine wpAnyH_take (i := 2) (v := ?_) rfl (by kernel_rfl) (by kernel_rfl) (by kernel_rfl) (fun _ _ _ h => h) (Or.inl ⟨by rfl, ?_⟩) (by assumption) ?_
              rotate_left
              · intro w' hSw
                skip
                go_simp
                try with_reducible rfl
              try simp only [Act.put, List.setIfInBounds_toArray, List.set_cons_zero, List.set_cons_succ, List.getElem_toArray, List.getElem_cons_succ, List.getElem_cons_zero]
              refine wpAnyH_take (i := 3) (v := ?_) rfl (by kernel_rfl) (by kernel_rfl) (by kernel_rfl) (fun _ _ _ h => h) (Or.inl ⟨by rfl, ?_⟩) (by assumption) ?_
              rotate_left
              · intro w' hSw
                skip
                go_simp
                try with_reducible rfl
              try simp only [Act.put, List.setIfInBounds_toArray, List.set_cons_zero, List.set_cons_succ, List.getElem_toArray, List.getElem_cons_succ, List.getElem_cons_zero]
              refine wpAnyH_take (i := 4) (v := _) rfl (by kernel_rfl) (by kernel_rfl) (by kernel_rfl) (fun _ _ _ h => h) (yields_at 99 _ x1 (o1 + i * 3) (linkL x).toArray _ (by rfl) rfl (by rfl) (fun w' h => cells_far h C1.out (Nat.le_refl _) (fun h => h)) Tryz.underlying99 rfl infoRL1) (by assumption) ?_
              try simp only [Act.put, List.setIfInBounds_toArray, List.set_cons_zero, List.set_cons_succ, List.getElem_toArray, List.getElem_cons_succ, List.getElem_cons_zero]
              refine wpAnyH_take (i := 5) (v := ?_) rfl (by kernel_rfl) (by kernel_rfl) (by kernel_rfl) (fun _ _ _ h => h) (Or.inl ⟨by rfl, ?_⟩) (by assumption) ?_
              rotate_left
              · intro w' hSw
                skip
                go_simp
                try with_reducible rfl
              try simp only [Act.put, List.setIfInBounds_toArray, List.set_cons_zero, List.set_cons_succ, List.getElem_toArray, List.getElem_cons_succ, List.getElem_cons_zero]
              refine wpAnyH_take (i := 6) (v := ?_) rfl (by kernel_rfl) (by kernel_rfl) (by kernel_rfl) (fun _ _ _ h => h) (Or.inl ⟨by rfl, ?_⟩) (by assumption) ?_
              rotate_left
              · intro w' hSw
                have kb := cell_far hSw b2 (fun h => h)
                go_simp
                try with_reducible rfl
              try simp only [Act.put, List.setIfInBounds_toArray, List.set_cons_zero, List.set_cons_succ, List.getElem_toArray, List.getElem_cons_succ, List.getElem_cons_zero]
              refine wpAnyH_take (i := 7) (v := ?_) rfl (by kernel_rfl) (by kernel_rfl) (by kernel_rfl) (fun _ _ _ h => h) (Or.inl ⟨by rfl, ?_⟩) (by assumption) ?_
              rotate_left
              · intro w' hSw
                skip
                go_simp
                try with_reducible rfl
              try simp only [Act.put, List.setIfInBounds_toArray, List.set_cons_zero, List.set_cons_succ, List.getElem_toArray, List.getElem_cons_succ, List.getElem_cons_zero]
              refine wpAnyH_take (i := 8) (v := ?_) rfl (by kernel_rfl) (by kernel_rfl) (by kernel_rfl) (fun _ _ _ h => h) (Or.inl ⟨by rfl, ?_⟩) (by assumption) ?_
              rotate_left
              · intro w' hSw
                skip
                go_simp
                try with_reducible rfl
              try simp only [Act.put, List.setIfInBounds_toArray, List.set_cons_zero, List.set_cons_succ, List.getElem_toArray, List.getElem_cons_succ, List.getElem_cons_zero]
              refine wpAnyH_take (i := 9) (v := _) rfl (by kernel_rfl) (by kernel_rfl) (by kernel_rfl) (fun _ _ _ h => h) (yields_at 99 _ x2 (o2 + i * 3) (linkL x).toArray _ (by rfl) rfl (by rfl) (fun w' h => cells_far h C2.out (Nat.le_refl _) (fun h => h)) Tryz.underlying99 rfl infoRL1) (by assumption) ?_
              try simp only [Act.put, List.setIfInBounds_toArray, List.set_cons_zero, List.set_cons_succ, List.getElem_toArray, List.getElem_cons_succ, List.getElem_cons_zero]
              refine wpAnyH_take (i := 10) (v := _) rfl (by kernel_rfl) (by kernel_rfl) (by kernel_rfl) (fun _ _ _ h => h) (yields_neq (by rfl) rfl (by rfl) (by rfl) (guard_rlink _ _ _ _) (same_rlink x)) (by assumption) ?_
              try simp only [Act.put, List.setIfInBounds_toArray, List.set_cons_zero, List.set_cons_succ, List.getElem_toArray, List.getElem_cons_succ, List.getElem_cons_zero]
              refine wpAnyH_done (by kernel_rfl) ?_ _
              clear hHeld
              have HD := Lib.hid (HSl.out.kept (Fr.drew wr (fun _ => False)))
              go_wp2_with fail
              go_roundg (d.links.length - (i + 1))
              case measure => omega
              case rel => exact ⟨i + 1, by omega, by go_num, HD.out⟩
            · obtain rfl : i = d.links.length := by omega
              have hi1 : (d.links.length : Int) ≤ (d.links.length : Int) := Int.le_refl _
              clear hS b2
              go_wp2_with fail
              go_ret
              exact ⟨rfl, HSl.out.f⟩
end Go.Proofs.YtodcnbejnchmhaaGreatDoor
