import Derived.Test.YtcjednmenbdmnaaDoorC
namespace Go.Proofs.YtcjednmenbdmnaaDoor
open Go.RowKit Go.Mem Go.Wire

theorem see_spl {w : World} {p : Nat} {hv : Value} {σ : St} (h : Spl w p hv σ) (i : Inv σ) (c : Int) (c0 : 0 ≤ c) (c1 : c ≤ 255) :
    Calls Tryd.prog (26 + σ.st) #[ptr p, .int .u8 c] w (Stepped w p hv (stepW σ c)) := by
  have hst := i.st
  have h6 : σ.st = 0 ∨ σ.st = 1 ∨ σ.st = 2 ∨ σ.st = 3 ∨ σ.st = 4 ∨ σ.st = 5 := by omega
  rcases h6 with e | e | e | e | e | e <;> rw [e]
  · exact begin_spl h i c c0 c1 e
  · exact zero_spl h i c e
  · exact length_spl h i c c0 c1 e
  · exact body_spl h i c e
  · exact end_spl h c e
  · exact waste_spl h c e

theorem Moved.trans {a b c : World} {p : Nat} {h h1 h2 : Value} (m : Moved a b p h h1) (m' : Moved b c p h1 h2) : Moved a c p h h2 := by
  refine ⟨m.fr.trans m'.fr (fun _ _ x => x) (fun i hi x => ?_), ?_⟩
  · rcases x with x | x
    · exact .inl x
    · rcases m.stays with e | e | ⟨g, e, hg⟩
      · exact .inr (x.trans e)
      · rw [e] at x
        cases x
      · rw [e] at x
        injection x with x
        omega
  · rcases m'.stays with e | e | ⟨g, e, hg⟩
    · rcases m.stays with e' | e' | ⟨g', e', hg'⟩
      · exact .inl (e.trans e')
      · exact .inr (.inl (e.trans e'))
      · exact .inr (.inr ⟨g', e.trans e', hg'⟩)
    · exact .inr (.inl e)
    · exact .inr (.inr ⟨g, e, by have := m.fr.size; omega⟩)
theorem Moved.fresh {a b c : World} {p : Nat} {h h1 : Value} (m : Moved a b p h h1) {S : Nat → Prop} (f : Fr b c S) (hs : ∀ k, S k → a.heap.size ≤ k) : Moved a c p h h1 :=
  ⟨m.fr.trans f (fun _ _ x => x) (fun i hi x => by have := hs i x; omega), m.stays⟩
theorem Spl.fr {w w' : World} {p : Nat} {hv : Value} {σ : St} {S : Nat → Prop} (h : Spl w p hv σ) (f : Fr w w' S) (hp : ¬ S p) (hh : ∀ g, hv.ownBlock = some g → ¬ S g) : Spl w' p hv σ :=
  ⟨f.blk h.1 hp, f.own h.2 hh⟩

/-- an item and the slice of its bytes -/
abbrev Pair := It × Value
def pairCells (x : Pair) : List Value := [.bool x.1.isNone, x.2]
def PairOk (w : World) (I : Nat → Prop) (x : Pair) : Prop :=
  match x.1 with
  | none => x.2 = .slice none 0 0
  | some bs => w.ownsRow 0 5 1 x.2 bs.length (bs.map u8v) ∧ ∀ g, x.2.ownBlock = some g → I g
/-- the slice v of wire's items tells the items its; I: which blocks hold their bytes; e: the items' type -/
def ItemsT (e : TypeId) (w : World) (base : Nat) (I : Nat → Prop) (v : Value) (its : List It) : Prop :=
  ∃ l : List Pair, l.map (·.1) = its ∧ w.ownsRow base e 2 v its.length (l.flatMap pairCells) ∧ ∀ x ∈ l, PairOk w I x
abbrev Items := ItemsT 34
/-- blocks that the splitter at p, its bytes in hv, does not touch -/
abbrev Inert (p : Nat) (hv : Value) : Nat → Prop := fun g => g ≠ p ∧ some g ≠ hv.ownBlock

theorem PairOk.fr {w w' : World} {S I I' : Nat → Prop} {x : Pair} (h : PairOk w I x) (hf : Fr w w' S) (hs : ∀ g, I g → ¬ S g) (hi : ∀ g, g < w.heap.size → I g → I' g) : PairOk w' I' x := by
  unfold PairOk at h ⊢
  split at h
  · exact h
  · exact ⟨hf.own h.1 fun g hg => hs g (h.2 g hg), fun g hg => hi g (own_lt h.1 hg) (h.2 g hg)⟩
theorem ItemsT.fr {e : TypeId} {w w' : World} {base : Nat} {S I I' : Nat → Prop} {v : Value} {its : List It} (h : ItemsT e w base I v its) (hf : Fr w w' S)
    (hv : ∀ g, v.ownBlock = some g → ¬ S g) (hs : ∀ g, I g → ¬ S g) (hi : ∀ g, g < w.heap.size → I g → I' g) : ItemsT e w' base I' v its := by
  obtain ⟨l, h1, h2, h3⟩ := h
  exact ⟨l, h1, hf.own h2 hv, fun x hx => (h3 x hx).fr hf hs hi⟩

/-- two rows of other element types lie apart -/
theorem own_own_apart {w : World} {base base' : Nat} {e e' : TypeId} {size size' n n' : Nat} {v v' : Value} {xs xs' : List Value} (h : w.ownsRow base e size v n xs) (h' : w.ownsRow base' e' size' v' n' xs') (hne : e ≠ e') (g : Nat) (hg : v.ownBlock = some g) : v'.ownBlock ≠ some g := by
  rcases h.2 with ⟨rfl, _⟩ | ⟨g1, cap, cur, rfl, _, hh, _⟩
  · simp [Value.ownBlock] at hg
  · have e1 : g1 = g := by simpa [Value.ownBlock] using hg
    subst e1
    exact own_apart h' (t := e) (cs := cur) hh (fun x => hne x.symm)

/-- a step of the splitter leaves the items -/
theorem Items.moved {w w' : World} {base p : Nat} {hv hv' v : Value} {σ : St} {its : List It} (h : Items w base (Inert p hv) v its) (hs : Spl w p hv σ) (hm : Moved w w' p hv hv') :
    Items w' base (Inert p hv') v its := by
  obtain ⟨l, h1, h2, h3⟩ := h
  refine ItemsT.fr ⟨l, h1, h2, h3⟩ hm.fr (fun g hg => ?_) (fun g hg => ?_) (fun g hlt hg => ⟨hg.1, ?_⟩)
  · rintro (e | e)
    · exact own_apart h2 hs.1 (by decide) (e ▸ hg)
    · exact own_own_apart h2 hs.2 (by decide) g hg e.symm
  · rintro (e | e)
    · exact hg.1 e
    · exact hg.2 e
  · rcases hm.stays with e | e | ⟨g', e, hge⟩
    · rw [e]
      exact hg.2
    · rw [e]
      simp
    · rw [e]
      intro x
      injection x with x
      omega

/-- an item more -/
theorem Items.push {e : TypeId} {w w' : World} {base : Nat} {I : Nat → Prop} {v v' : Value} {its : List It} {x : Pair} (l : List Pair) (h1 : l.map (·.1) = its) (h2 : w.ownsRow base e 2 v its.length (l.flatMap pairCells))
    (h3 : ∀ x ∈ l, PairOk w I x) (hx : PairOk w I x) (ho : w'.ownsRow base e 2 v' (its.length + 1) (l.flatMap pairCells ++ [.bool x.1.isNone, x.2])) (hg : w.grownBy w' v.ownBlock) (he : e ≠ 5) :
    ItemsT e w' base I v' (its ++ [x.1]) := by
  have each : ∀ y, PairOk w I y → PairOk w' I y := fun y hy => by
    unfold PairOk at hy ⊢
    split at hy
    · exact hy
    · exact ⟨(Fr.ofGrown hg).own hy.1 fun g hg' x => own_own_apart hy.1 h2 (fun x => he x.symm) g hg' x.symm, hy.2⟩
  refine ⟨l ++ [x], by simp [h1], by simpa [pairCells] using ho, fun y hy => ?_⟩
  rcases List.mem_append.1 hy with hy | hy
  · exact each y (h3 y hy)
  · simp at hy
    subst hy
    exact each _ hx

theorem info44 : (Tryd.prog.info? 34).map (fun i => (i.zero, i.size, i.bytes)) = some (some (.agg #[.bool false, .slice none 0 0]), 2, 32) := by kernel_rfl

theorem see_as {w : World} {p : Nat} {hv : Value} {σ : St} (h : Spl w p hv σ) (i : Inv σ) (c : Int) (c0 : 0 ≤ c) (c1 : c ≤ 255) (g : Int) (hg : ((stepW σ c).2 : Int) = g) :
    Calls Tryd.prog (26 + σ.st) #[ptr p, .int .u8 c] w fun e w' => e = .returned (.int .i64 g) ∧ ∃ hv', Spl w' p hv' (stepW σ c).1 ∧ Moved w w' p hv hv' := by
  subst hg
  exact see_spl h i c c0 c1

theorem enter_see (st : Nat) (h : st ≤ 5) (args : Array Value) (w : World) : (callFunc (26 + st) args).run Tryd.prog w = .ok (.enter (26 + st) args) w := by
  have h6 : st = 0 ∨ st = 1 ∨ st = 2 ∨ st = 3 ∨ st = 4 ∨ st = 5 := by omega
  rcases h6 with e | e | e | e | e | e <;> subst e
  · exact run_call_body Tryd.func26 (by kernel_rfl) rfl args w
  · exact run_call_body Tryd.func27 (by kernel_rfl) rfl args w
  · exact run_call_body Tryd.func28 (by kernel_rfl) rfl args w
  · exact run_call_body Tryd.func29 (by kernel_rfl) rfl args w
  · exact run_call_body Tryd.func30 (by kernel_rfl) rfl args w
  · exact run_call_body Tryd.func31 (by kernel_rfl) rfl args w

theorem take_succ_map {bs : List Int} {k : Nat} (h : k < bs.length) : bs.take (k + 1) = bs.take k ++ [bs[k]] := by
  rw [List.take_succ_eq_append_getElem h]

/-- behind the append of an item to the slice v -/
theorem push_all {a w w' : World} {p : Nat} {hv h0 v v' : Value} {σ : St} {its : List It} {x : Pair} (o : Array Value) (l : List Pair) (h1 : l.map (·.1) = its)
    (h2 : w.ownsRow a.heap.size 34 2 v its.length (l.flatMap pairCells)) (h3 : ∀ x ∈ l, PairOk w (Inert p hv) x) (hx : PairOk w (Inert p hv) x)
    (ho : w'.ownsRow a.heap.size 34 2 v' (its.length + 1) (l.flatMap pairCells ++ [.bool x.1.isNone, x.2])) (hg : (w.alloc (.cells o 34)).grownBy w' v.ownBlock)
    (hs : Spl w p hv σ) (hm : Moved a w p h0 hv) : Spl w' p hv σ ∧ Moved a w' p h0 hv ∧ Items w' a.heap.size (Inert p hv) v' (its ++ [x.1]) := by
  have f0 := Fr.new w (.cells o 34) (fun _ => False)
  have no : ∀ g : Nat, ¬ False := fun _ h => h
  have f1 : Fr w w' (fun k => some k = v.ownBlock) := f0.trans (Fr.ofGrown hg) (fun _ _ h => h.elim) (fun _ _ h => h)
  refine ⟨hs.fr f1 (fun e => own_apart h2 hs.1 (by decide) e.symm) (fun g hg e => own_own_apart h2 hs.2 (by decide) g e.symm hg), hm.fresh f1 (fun k e => (h2.lt k e.symm).1), ?_⟩
  refine Items.push l h1 (f0.own h2 fun g _ => no g) (fun y hy => (h3 y hy).fr f0 (fun g _ => no g) (fun _ _ h => h)) (hx.fr f0 (fun g _ => no g) (fun _ _ h => h)) ho hg (by decide)

theorem feed_spl {w : World} {p : Nat} {hv : Value} {σ : St} (h : Spl w p hv σ) (i : Inv σ) (A : Option Addr) (n cap : Nat) (bs : List Int) (hb : ∀ x ∈ bs, 0 ≤ x ∧ x ≤ 255)
    (hbn : bs.length = n) (hr : Rd w 1 A n (bs.map u8v)) (hin : ∀ b off, A = some ⟨b, off, none⟩ → 0 < n → Inert p hv b) (hn : n ≤ 1099511627776) :
    Calls Tryd.prog 14 #[ptr p, .slice A n cap] w fun e w' => ∃ v hv', e = .returned v ∧ Spl w' p hv' (runW σ bs).1 ∧ Moved w w' p hv hv' ∧ Items w' w.heap.size (Inert p hv') v (runW σ bs).2 := by
  have HB := Lib.hid hb
  have HN := Lib.hid hbn
  have HR := Lib.hid hr
  have HI := Lib.hid hin
  have HS := Lib.hid h
  clear hb hbn hr hin h
  go_enter Tryd.func14, Tryd.ntmps14
  go_wp2_with (go_at_call 17; refine (own_same HS.out).mono ?_; rintro e w1 ⟨rfl, rfl⟩)
  go_loopw [5, 14] (fun v5 v14 wr => ∃ k : Nat, k ≤ n ∧ v14 = .int .i64 k ∧ ∃ hv', Spl wr p hv' (runW σ (bs.take k)).1 ∧ Inv (runW σ (bs.take k)).1 ∧ Moved w wr p hv hv' ∧ Items wr w.heap.size (Inert p hv') v5 (runW σ (bs.take k)).2) (fun _ v14 _ => n - (intOf v14).toNat)
  case atStart =>
    refine ⟨0, Nat.zero_le _, rfl, hv, HS.out, i, Moved.refl _ _ _, [], rfl, World.ownsRow_nil _ _ _ _, ?_⟩
    intro x hx
    cases hx
  case round =>
    obtain ⟨k, hk, rfl, hv1, hs, hi, hm, hits⟩ := hrel
    obtain ⟨τ, its, hrun⟩ : ∃ τ its, runW σ (bs.take k) = (τ, its) := ⟨_, _, rfl⟩
    rw [hrun] at hs hi hits
    simp only at hs hi hits
    by_cases hlt : k < n
    · have hkl : k < bs.length := by rw [HN.out]; exact hlt
      obtain ⟨c, hc⟩ : ∃ c, bs[k] = c := ⟨_, rfl⟩
      have hcm : c ∈ bs := by rw [← hc]; exact List.getElem_mem hkl
      obtain ⟨c0, c1⟩ := HB.out c hcm
      have HX : Hid (runW σ (bs.take (k + 1)) = ((outW τ c).1, its ++ (outW τ c).2)) := by
        show _ = _
        rw [take_succ_map hkl, runW_snoc, hrun, hc]
      obtain ⟨b, off, rfl, hcell⟩ := HR.out.2 (by omega)
      have hbw := Rd.lt HR.out (by omega) (by omega)
      have hcell : wr.cell? ⟨b, off + k, none⟩ = some (.int .u8 c) := by
        have h1 : w.cell? ⟨b, off + k, none⟩ = some (.int .u8 c) := hcell k _ (by rw [List.getElem?_map, List.getElem?_eq_getElem hkl, hc]; rfl)
        refine (World.cell?_of_block (w := w) (hm.fr.block b hbw ?_)).trans h1
        have := HI.out b off rfl (by omega)
        rintro (e | e)
        · exact this.1 e
        · exact this.2 e
      have k2 : wr.cell? ⟨p, 2, none⟩ = some (.func (.func (26 + τ.st)) #[ptr p] #[]) := hs.cells.2.2.1
      have HRUN := Lib.hid hrun
      clear hcm hrun hc hbw hkl
      have hes := fun w => enter_see τ.st hi.st #[ptr p, .int .u8 c] w
      have HS1 := Lib.hid hs
      have HM1 := Lib.hid hm
      have hlen := runW_len σ (bs.take k)
      rw [HRUN.out, List.length_take] at hlen
      simp only at hlen
      have hln : its.length ≤ k := by omega
      clear hlen
      obtain ⟨i0, hi0, hz0, hz1, hz2⟩ := info_parts info44
      by_cases hg1 : (stepW τ c).2 = 1
      · have hg := Lib.hid (show ((stepW τ c).2 : Int) = 1 by omega)
        have hw := Lib.hid (whole_iff hg1)
        have HO : Hid ((outW τ c) = ({ τ with st := 0, held := [] }, [some (τ.held.drop (τ.held.length - τ.size.toNat))])) := by
          show _ = _
          unfold outW
          rw [if_pos hg1, hw.out.2.2]
        have h4 := hi.s4 hw.out.1
        have hth := hi.held
        have hts := hi.size0
        clear hg1
        go_wp2_with fail
        refine (see_as hs hi c c0 c1 1 hg.out).mono ?_
        rintro e w1 ⟨rfl, hv2, hs2, hm2⟩
        rw [hw.out.2.2] at hs2
        have hi2 := Lib.hid (Items.moved hits hs hm2)
        have HS2 := Lib.hid hs2
        have HM2 := Lib.hid hm2
        clear hs2 hm2 k2 hcell hits hs hes
        go_wp2_with fail
        refine (take_spl HS2.out (by simp only; omega) (by simp only; omega) (by simp only; omega)).mono ?_
        rintro e w2 ⟨v, rfl, hv3, hs3, hf3⟩
        have hi3 := Lib.hid (ItemsT.fr (I' := Inert p (.slice none 0 0)) hi2.out hf3 (fun g hg => by obtain ⟨l, -, h2, -⟩ := hi2.out; intro e; exact own_apart h2 HS2.out.1 (by decide) (e ▸ hg)) (fun g hg => hg.1) (fun g _ hg => ⟨hg.1, by simp [Value.ownBlock]⟩))
        obtain ⟨l, l1, l2, l3⟩ := hi3.out
        have hp2 := Lib.hid l2
        have hl1 := Lib.hid l1
        have hl3 := Lib.hid l3
        obtain ⟨Av, cv, rfl⟩ := own_slice hv3
        have hv3' := Lib.hid hv3
        have hm1 : its.length + 1 ≤ maxLen := by simp only [maxLen]; omega
        have hm2 : (its.length + 1) * 32 ≤ 140737488355328 := by omega
        have hbs : w.heap.size ≤ (w2.alloc (.cells #[.bool false, .slice Av τ.size.toNat cv] 34)).heap.size := by
          have := HM1.out.fr.size
          have := HM2.out.fr.size
          have := hf3.size
          simp
          omega
        clear l1 l2 l3 hv3
        go_wp2_with (at_builtin; refine wpList_append_own_at _ rfl (.tmp 26) (.tmp 30) 30 rfl w.heap.size 34 i0 _ 2 32 Tryd.underlying30 hi0 hz0 hz1 hz2 rfl (by decide) u5 its.length (l.flatMap pairCells) rfl (hp2.out.alloc _) ⟨w2.heap.size, 0, none⟩ 1 1 [.bool false, .slice Av τ.size.toNat cv] rfl rfl (two_new _ _ _ _) (one_two _ _ rfl rfl) hm1 hm2 hbs ?_; intro v' w3 hown hg3 _ hat)
        obtain ⟨r1, r2, r3⟩ := push_all (x := (some (τ.held.drop (τ.held.length - τ.size.toNat)), .slice Av τ.size.toNat cv)) _ l hl1.out hp2.out hl3.out
          ⟨by have := hv3'.out; have hd : (τ.held.drop (τ.held.length - τ.size.toNat)).length = τ.size.toNat := by rw [List.length_drop]; omega
              rw [hd]; exact ⟨this.1, by rcases this.2 with h | ⟨g, cp, cu, h, hb, r⟩; exact .inl h; exact .inr ⟨g, cp, cu, h, Nat.zero_le _, r⟩⟩,
            fun g hg => ⟨fun e => own_apart hv3'.out hs3.1 (by decide) (e ▸ hg), by simp [Value.ownBlock]⟩⟩ hown hg3 hs3 ((HM1.out.trans HM2.out).trans (Moved.nil hf3 _))
        have hinv : Inv (outW τ c).1 := hi.out c0 c1
        go_roundw
        case rel => exact ⟨k + 1, by omega, by go_num, .slice none 0 0, by rw [HX.out, HO.out]; exact r1, by rw [HX.out]; exact hinv, r2, by rw [HX.out, HO.out]; exact r3⟩
        case measure => simp [intOf]; omega
      · by_cases hg2 : (stepW τ c).2 = 2
        · have hg := Lib.hid (show ((stepW τ c).2 : Int) = 2 by omega)
          have HO : Hid ((outW τ c) = ((stepW τ c).1, [none])) := by
            show _ = _
            unfold outW
            rw [if_neg hg1, if_pos hg2]
          have hinv := Lib.hid (hi.out c0 c1)
          clear hg1 hg2
          go_wp2_with fail
          refine (see_as hs hi c c0 c1 2 hg.out).mono ?_
          rintro e w1 ⟨rfl, hv2, hs2, hm2⟩
          obtain ⟨l, l1, l2, l3⟩ := Items.moved hits hs hm2
          have HS2 := Lib.hid hs2
          have HM2 := Lib.hid hm2
          have hp2 := Lib.hid l2
          have hl1 := Lib.hid l1
          have hl3 := Lib.hid l3
          have hq1 : its.length + 1 ≤ maxLen := by simp only [maxLen]; omega
          have hq2 : (its.length + 1) * 32 ≤ 140737488355328 := by omega
          have hbs : w.heap.size ≤ (w1.alloc (.cells #[.bool true, .slice none 0 0] 34)).heap.size := by
            have := HM1.out.fr.size
            have := HM2.out.fr.size
            simp
            omega
          clear l1 l2 l3 hs2 hm2 k2 hcell hits hs hes
          go_wp2_with (at_builtin; refine wpList_append_own_at _ rfl (.tmp 34) (.tmp 36) 30 rfl w.heap.size 34 i0 _ 2 32 Tryd.underlying30 hi0 hz0 hz1 hz2 rfl (by decide) u5 its.length (l.flatMap pairCells) rfl (hp2.out.alloc _) ⟨w1.heap.size, 0, none⟩ 1 1 [.bool true, .slice none 0 0] rfl rfl (two_new _ _ _ _) (one_two _ _ rfl rfl) hq1 hq2 hbs ?_; intro v' w3 hown hg3 _ hat)
          obtain ⟨r1, r2, r3⟩ := push_all (x := (none, .slice none 0 0)) _ l hl1.out hp2.out hl3.out rfl hown hg3 HS2.out (HM1.out.trans HM2.out)
          go_roundw
          case rel => exact ⟨k + 1, by omega, by go_num, hv2, by rw [HX.out, HO.out]; exact r1, by rw [HX.out]; exact hinv.out, r2, by rw [HX.out, HO.out]; exact r3⟩
          case measure => simp [intOf]; omega
        · have HO : Hid ((outW τ c) = ((stepW τ c).1, [])) := by
            show _ = _
            unfold outW
            rw [if_neg hg1, if_neg hg2]
          have hg0 : (stepW τ c).2 = 0 := by
            have := stepW_le τ c
            omega
          have hg := Lib.hid (show ((stepW τ c).2 : Int) = 0 by omega)
          have hinv := Lib.hid (hi.out c0 c1)
          clear hg1 hg2 hg0
          go_wp2_with fail
          refine (see_as hs hi c c0 c1 0 hg.out).mono ?_
          rintro e w1 ⟨rfl, hv2, hs2, hm2⟩
          have hi2 := Lib.hid (Items.moved hits hs hm2)
          have HS2 := Lib.hid hs2
          have HM2 := Lib.hid hm2
          clear hs2 hm2 k2 hcell hits hs hes
          go_wp2_with fail
          go_roundw
          case rel => exact ⟨k + 1, by omega, by go_num, hv2, by rw [HX.out, HO.out]; exact HS2.out, by rw [HX.out]; exact hinv.out, HM1.out.trans HM2.out, by rw [HX.out, HO.out]; simpa using hi2.out⟩
          case measure => simp [intOf]; omega
    · have hkn : k = n := by omega
      have HRUN := Lib.hid hrun
      have HS1 := Lib.hid hs
      have HM1 := Lib.hid hm
      have HI1 := Lib.hid hits
      clear hrun hs hm hits
      subst hkn
      go_wp2_with fail
      go_ret
      have hall : runW σ bs = (τ, its) := by
        have := HRUN.out
        rwa [List.take_of_length_le (by rw [HN.out]; exact Nat.le_refl _)] at this
      rw [hall]
      exact ⟨u5, hv1, rfl, HS1.out, HM1.out, HI1.out⟩
end Go.Proofs.YtcjednmenbdmnaaDoor
