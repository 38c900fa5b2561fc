import Derived.Test.YtolmemdkklfdpaaMem
import Derived.Lib.ConvBytes
import Derived.Laws.IdiomCopy
namespace Go.Mem
open Go.RowKit

/-- the slice v owns the n elements xs; its row may bear the mark of a conversion, beyond its cells -/
def Row (w : World) (base : Nat) (e : TypeId) (size : Nat) (v : Value) (n : Nat) (xs : List Value) : Prop :=
  xs.length = n * size ∧ ((v = .slice none 0 0 ∧ n = 0) ∨
    ∃ g cap cur fr, v = .slice (some ⟨g, 0, none⟩) n cap ∧ base ≤ g ∧ w.heap[g]? = some (.cells cur e fr) ∧ n ≤ cap ∧ cap ≤ maxLen ∧ cur.size = cap * size ∧ cur.toList.take (n * size) = xs ∧
      ∀ i, i < cur.size → w.frozen? ⟨g, i, none⟩ = false)

theorem Row.of_own {w : World} {base : Nat} {e : TypeId} {size n : Nat} {v : Value} {xs : List Value} (h : w.ownsRow base e size v n xs) : Row w base e size v n xs := by
  refine ⟨h.1, ?_⟩
  rcases h.2 with h2 | ⟨g, cap, cur, hv, hb, hh, h1, h2, h3, h4⟩
  · exact .inl h2
  · exact .inr ⟨g, cap, cur, (0, 0), hv, hb, hh, h1, h2, h3, h4, fun i _ => by simp [World.frozen?, hh]⟩
theorem Row.base {w : World} {base base' : Nat} {e : TypeId} {size n : Nat} {v : Value} {xs : List Value} (h : Row w base e size v n xs) (hb : base' ≤ base) : Row w base' e size v n xs := by
  refine ⟨h.1, ?_⟩
  rcases h.2 with h2 | ⟨g, cap, cur, fr, hv, hg, r⟩
  · exact .inl h2
  · exact .inr ⟨g, cap, cur, fr, hv, by omega, r⟩
theorem Row.slice {w : World} {base : Nat} {e : TypeId} {size n : Nat} {v : Value} {xs : List Value} (h : Row w base e size v n xs) : ∃ A c, v = .slice A n c := by
  rcases h.2 with ⟨rfl, rfl⟩ | ⟨g, cap, cur, fr, rfl, _⟩
  · exact ⟨_, _, rfl⟩
  · exact ⟨_, _, rfl⟩
theorem Row.lt {w : World} {base : Nat} {e : TypeId} {size n : Nat} {v : Value} {xs : List Value} (h : Row w base e size v n xs) : ∀ k, v.ownBlock = some k → base ≤ k ∧ k < w.heap.size := by
  intro k hk
  rcases h.2 with ⟨rfl, _⟩ | ⟨g, cap, cur, fr, rfl, hb, hg, _⟩
  · simp [Value.ownBlock] at hk
  · simp [Value.ownBlock] at hk
    subst hk
    exact ⟨hb, (Array.getElem?_eq_some_iff.1 hg).1⟩
theorem Row.fr {a b : World} {S : Nat → Prop} {base : Nat} {e : TypeId} {size n : Nat} {v : Value} {xs : List Value} (h : Row a base e size v n xs) (hf : Fr a b S) (hg : ∀ g, v.ownBlock = some g → ¬ S g) : Row b base e size v n xs := by
  refine ⟨h.1, ?_⟩
  rcases h.2 with hn | ⟨g, cap, cur, fr, rfl, hb, hh, h1, h2, h3, h4, h5⟩
  · exact .inl hn
  · have hblk := hf.block g (Array.getElem?_eq_some_iff.1 hh).1 (hg g rfl)
    exact .inr ⟨g, cap, cur, fr, rfl, hb, hblk.trans hh, h1, h2, h3, h4, fun i hi => (World.frozen?_of_block (w := a) (a := ⟨g, i, none⟩) hblk).trans (h5 i hi)⟩
theorem Row.rd {w : World} {base : Nat} {e : TypeId} {size n : Nat} {v : Value} {xs : List Value} (h : Row w base e size v n xs) :
    ∃ A c, v = .slice A n c ∧ n ≤ c ∧ c ≤ maxLen ∧ Rd w size A n xs ∧ (A = none → n = 0 ∧ c = 0) ∧ (∀ a, A = some a → ∃ g, a = ⟨g, 0, none⟩ ∧ v.ownBlock = some g ∧ base ≤ g ∧ g < w.heap.size) := by
  have hx := h.1
  rcases h.2 with ⟨rfl, rfl⟩ | ⟨g, cap, cur, fr, rfl, hb, hh, hn, hc, hs, ht, -⟩
  · have : xs = [] := List.eq_nil_of_length_eq_zero (by simpa using hx)
    subst this
    exact ⟨_, _, rfl, Nat.le_refl _, Nat.zero_le _, Rd.zero _ _ _, fun _ => ⟨rfl, rfl⟩, fun a e => by cases e⟩
  · refine ⟨_, _, rfl, hn, hc, ⟨hx, fun _ => ⟨g, 0, rfl, fun j u hu => ?_⟩⟩, (fun e => by cases e), (fun a e => by cases e; exact ⟨g, rfl, rfl, hb, (Array.getElem?_eq_some_iff.1 hh).1⟩)⟩
    rw [← ht, List.getElem?_take] at hu
    split at hu
    · simp [World.cell?, hh]
      simpa using hu
    · cases hu

/-- what a stretch of stores leaves in its block -/
theorem heap_setCells (g : Nat) : ∀ (vs : List Value) (o : Nat) (cur : Array Value) (e : TypeId) (fr : Nat × Nat) (w : World), w.heap[g]? = some (.cells cur e fr) →
    (w.setCells g o vs).heap[g]? = some (.cells ((vs.zipIdx o).foldl (fun (c : Array Value) (p : Value × Nat) => c.setIfInBounds p.2 p.1) cur) e fr)
  | [], _, _, _, _, _, h => h
  | v :: r, o, cur, e, fr, w, h => by
    rw [World.setCells]
    have h1 : (w.setCell ⟨g, o, none⟩ v).heap[g]? = some (.cells (cur.setIfInBounds o v) e fr) := by
      simp [World.setCell, Array.getElem?_modify, h]
    rw [heap_setCells g r (o + 1) _ e fr _ h1]
    rfl
theorem size_setAll : ∀ (l : List (Value × Nat)) (cur : Array Value), (l.foldl (fun (c : Array Value) (p : Value × Nat) => c.setIfInBounds p.2 p.1) cur).size = cur.size
  | [], _ => rfl
  | p :: l, cur => by rw [List.foldl_cons, size_setAll l]; simp
theorem fr_setCells (g : Nat) : ∀ (vs : List Value) (o : Nat) (w : World), Fr w (w.setCells g o vs) (· = g)
  | [], _, _ => Fr.refl _ _
  | _ :: r, o, _ => (Fr.set (S := (· = g)) rfl).trans (fr_setCells g r (o + 1) _) (fun _ _ h => h) (fun _ _ h => h)

section
variable {P : Program} (w : World)
/-- append onto a row, the source nil, empty or not -/
theorem run_append_row (base : Nat) (t ty e : TypeId) (i : TypeInfo) (z : Value) (size bytes : Nat) (ht : P.underlying t = some (.slice e)) (hi : P.info? e = some i) (hz : i.zero = some z)
    (hsize : i.size = size) (hby : i.bytes = bytes) (hzs : z.cells.size = size) (hsz : 0 < size)
    (v : Value) (n : Nat) (xs : List Value) (hown : Row w base e size v n xs)
    (A : Option Addr) (m c : Nat) (news : List Value) (hr : Rd w size A m news) (h1 : ∀ u ∈ news, u.oneCell' = true)
    (h63 : n + m ≤ maxLen) (hbytes : (n + m) * bytes ≤ 140737488355328) (hbase : base ≤ w.heap.size) :
    ∃ v' w', (Builtin.append_ #[t, t] ty #[v, .slice A m c]).run P w = .ok v' w' ∧ Row w' base e size v' (n + m) (xs ++ news) ∧ Fr w w' (fun k => some k = v.ownBlock) ∧
      (v'.ownBlock = v.ownBlock ∨ v'.ownBlock = some w.heap.size) := by
  rcases hown.2 with ⟨rfl, rfl⟩ | ⟨g, cap, cur, fr, rfl, hbg, hg, hnc, hcm, hcs, htake, hfz⟩
  · have hx : xs = [] := List.eq_nil_of_length_eq_zero (by simpa using hown.1)
    subst hx
    obtain ⟨v', w', hrun, h2, h3, h5⟩ := run_append_rd (P := P) w base t ty e i z size bytes ht hi hz hsize hby hzs hsz (.slice none 0 0) 0 [] (World.ownsRow_nil _ _ _ _) A m c news hr h1 h63 hbytes hbase
    exact ⟨v', w', hrun, .of_own h2, Fr.ofGrown h3, h5⟩
  · subst hsize
    subst hby
    by_cases hm : m = 0
    · subst hm
      have hn : news = [] := List.eq_nil_of_length_eq_zero (by simpa using hr.1)
      subst hn
      refine ⟨_, w, ?_, by simpa using hown, Fr.refl _ _, .inl rfl⟩
      cases A with
      | none => simp [Builtin.append_, run_underlying ht, sizeOf, typeInfo, hi, Builtin.lenOf, Builtin.firstCells, hnc, storeCells]
      | some a => simp [Builtin.append_, run_underlying ht, sizeOf, typeInfo, hi, Builtin.lenOf, Builtin.firstCells, hnc, storeCells, loadCells, loadCellsFrom]
    · obtain ⟨b, off, rfl, hcell⟩ := hr.2 (by omega)
      have hnews : ∀ j u, news[j]? = some u → w.cell? ((⟨b, off, none⟩ : Addr).add j) = some u := fun j u hu => by
        have hadd : (⟨b, off, none⟩ : Addr).add j = ⟨b, off + j, none⟩ := by unfold Addr.add; split <;> simp_all
        rw [hadd]
        exact hcell j u hu
      by_cases hroom : n + m ≤ cap
      · have hfit : n * i.size + news.length ≤ cur.size := by rw [hr.1, hcs, ← Nat.add_mul]; exact Nat.mul_le_mul_right _ hroom
        have hf := run_firstCells_some (P := P) w i.size m ⟨b, off, none⟩ m c news hr.1 hnews
        have hst := run_storeCells_cells (P := P) g (n * i.size) news 0 w (fun j hj => by simp [World.cell?, hg]; omega) (fun j hj => hfz _ (by omega)) h1
        simp only [Nat.add_zero] at hst
        have hadd : (⟨g, 0, none⟩ : Addr).add (n * i.size) = ⟨g, n * i.size, none⟩ := by unfold Addr.add; split <;> simp_all
        refine ⟨.slice (some ⟨g, 0, none⟩) (n + m) cap, w.setCells g (n * i.size) news, ?_, ⟨by rw [List.length_append, hown.1, hr.1, Nat.add_mul], .inr ⟨g, cap, _, fr, rfl, hbg, heap_setCells g news _ cur e fr w hg, hroom, hcm, by rw [size_setAll]; exact hcs, ?_, ?_⟩⟩, ?_, .inl rfl⟩
        · simp [Builtin.append_, run_underlying ht, sizeOf, typeInfo, hi, Builtin.lenOf, hroom, hf, hadd, hst]
        · have hcells := heap_setCells g news (n * i.size) cur e fr w hg
          have hat : ∀ k, (w.setCells g (n * i.size) news).cell? ⟨g, k, none⟩ = ((news.zipIdx (n * i.size)).foldl (fun (c : Array Value) (p : Value × Nat) => c.setIfInBounds p.2 p.1) cur)[k]? := fun k => by simp [World.cell?, hcells]
          refine List.ext_getElem? fun k => ?_
          rw [List.getElem?_take]
          by_cases hk : k < (n + m) * i.size
          · rw [if_pos hk, Array.getElem?_toList, ← hat k]
            by_cases hk1 : k < n * i.size
            · rw [World.cell?_setCells_out g news (n * i.size) w ⟨g, k, none⟩ (fun _ _ => .inl hk1), List.getElem?_append_left (by rw [hown.1]; exact hk1), ← htake, List.getElem?_take, if_pos hk1]
              simp [World.cell?, hg]
            · have hj : k - n * i.size < news.length := by rw [hr.1]; rw [Nat.add_mul] at hk; omega
              have := World.cell?_setCells_in g news (n * i.size) w (fun j hj => by simp [World.cell?, hg]; omega) (k - n * i.size) hj
              rw [show n * i.size + (k - n * i.size) = k by omega] at this
              rw [this, List.getElem?_append_right (by rw [hown.1]; omega), hown.1, List.getElem?_eq_getElem hj]
          · rw [if_neg hk, List.getElem?_eq_none]
            rw [List.length_append, hown.1, hr.1, ← Nat.add_mul]
            omega
        · intro k hk
          rw [World.frozen?_setCells]
          exact hfz k (by rw [size_setAll] at hk; exact hk)
        · exact (fr_setCells g news _ w).mono fun k _ h => by simp [Value.ownBlock, h]
      · have holds : ∀ j u, xs[j]? = some u → w.cell? ((⟨g, 0, none⟩ : Addr).add j) = some u := fun j u hu => by
          have hadd : (⟨g, 0, none⟩ : Addr).add j = ⟨g, j, none⟩ := by unfold Addr.add; split <;> simp_all
          rw [hadd]
          rw [← htake, List.getElem?_take] at hu
          split at hu
          · simp [World.cell?, hg]
            simpa using hu
          · cases hu
        have hrun := run_append_grow (P := P) w t ty e i z ht hi hz ⟨g, 0, none⟩ n cap xs hown.1 holds ⟨b, off, none⟩ m c news hr.1 hnews (by omega) (by simp only [maxLen] at h63; omega) (growslice_fits (by omega) hbytes)
        have hge := grownCap_ge w (n + m) cap e
        have hcm' : grownCap w (n + m) cap e ≤ maxLen := grownCap_le_maxLen w (n + m) cap e h63
        have hlen : (xs ++ news).length = (n + m) * i.size := by rw [List.length_append, hown.1, hr.1, Nat.add_mul]
        have hheap := heap_alloc_new w.drew (.cells (xs.toArray ++ news.toArray ++ Builtin.zeroCells z.cells (grownCap w (n + m) cap e - (n + m))) e)
        refine ⟨_, _, hrun, ⟨hlen, .inr ⟨w.heap.size, _, _, (0, 0), rfl, hbase, hheap, hge, hcm', ?_, ?_, ?_⟩⟩, ?_, .inr rfl⟩
        · simp only [Array.size_append, List.size_toArray, size_zeroCells, hzs, hown.1, hr.1, ← Nat.add_mul]
          congr 1
          omega
        · simp only [Array.toList_append, List.append_assoc]
          rw [← List.append_assoc, ← hlen]
          exact List.take_left
        · intro k _
          have : (w.drew.alloc (.cells (xs.toArray ++ news.toArray ++ Builtin.zeroCells z.cells (grownCap w (n + m) cap e - (n + m))) e)).heap[w.heap.size]? = _ := hheap
          simp only [World.frozen?, this]
          simp
        · exact (Fr.drew w _).trans (Fr.new _ _ _) (fun _ _ h => h) (fun _ _ h => h)

theorem wpList_append_row {ops : Array Oper} {rest : List Oper} {o : Oper} {a : Act} {Q : Exit → Act → World → Prop} (hgd : o.guard = none) (s x : Operand) (t : TypeId)
    (ho : o.op = .call { callee := .builtin .append, args := #[s, x], argTypes := #[t, t] })
    (base : Nat) (e : TypeId) (i : TypeInfo) (z : Value) (size bytes : Nat) (ht : P.underlying t = some (.slice e)) (hi : P.info? e = some i) (hz : i.zero = some z)
    (hsize : i.size = size) (hby : i.bytes = bytes) (hzs : z.cells.size = size) (hsz : 0 < size)
    (v : Value) (n : Nat) (xs : List Value) (hs : a.eval s = v) (hown : Row w base e size v n xs)
    (A : Option Addr) (m c : Nat) (news : List Value) (hx : a.eval x = .slice A m c) (hr : Rd w size A m news) (h1 : ∀ u ∈ news, u.oneCell' = true)
    (h63 : n + m ≤ maxLen) (hbytes : (n + m) * bytes ≤ 140737488355328) (hbase : base ≤ w.heap.size)
    (h : ∀ v' w', Row w' base e size v' (n + m) (xs ++ news) → Fr w w' (fun k => some k = v.ownBlock) → (v'.ownBlock = v.ownBlock ∨ v'.ownBlock = some w.heap.size) → wpList P ops Q rest (a.put o.dst v') w') : wpList P ops Q (o :: rest) a w := by
  refine wpList_plain hgd fun K hK => ?_
  obtain ⟨v', w', hrun, h2, h3, h4⟩ := run_append_row (P := P) w base t o.type e i z size bytes ht hi hz hsize hby hzs hsz v n xs hown A m c news hr h1 h63 hbytes hbase
  unfold Oper.wp execOp
  simp only [ho, resolve, invoke, builtin, Sem.run_bind, Sem.run_pure, Result.andThen_ok, List.map_toArray, List.map_cons, List.map_nil, hs, hx, hrun]
  exact hK _ _ (h v' w' h2 h3 h4)
end

/-- the bytes of a string as cells -/
def strCells (s : ByteArray) : List Value := s.data.toList.map fun b => Value.int .u8 (b.toNat : Int)
/-- a string as a slice of bytes: the row and the world -/
theorem bytes_row (w : World) (e : TypeId) (s : ByteArray) (hs : s.size ≤ maxLen) : Row (Lib.bytesWorld w e s) w.heap.size e 1 (.slice (some ⟨w.heap.size, 0, none⟩) s.size (grownCap w s.size 0 e)) s.size (strCells s) ∧
    Fr w (Lib.bytesWorld w e s) (fun _ => False) := by
  have hge := grownCap_ge w s.size 0 e
  have hcs : (Lib.bytesCells w e s).size = grownCap w s.size 0 e := by
    simp [Lib.bytesCells]
    have : s.data.size = s.size := rfl
    omega
  have hsz : s.data.toList.length = s.size := by rw [Array.length_toList]; rfl
  refine ⟨⟨by simp [strCells, hsz], .inr ⟨w.heap.size, _, _, _, rfl, Nat.le_refl _, Lib.bytesWorld_at_new w e s, hge, grownCap_le_maxLen w s.size 0 e hs, by rw [hcs]; omega, ?_, fun i hi => ?_⟩⟩, ?_⟩
  · simp only [Lib.bytesCells, Nat.mul_one, Array.toList_append, Array.toList_map]
    rw [List.take_left' (by simp [hsz])]
    rfl
  · simp only [World.frozen?, Lib.bytesWorld_at_new]
    simp
    omega
  · exact ⟨rfl, rfl, rfl, by rw [Lib.bytesWorld_size]; omega, fun k hk _ => Lib.bytesWorld_at_old w e s k hk⟩

theorem str_cells_len (s : ByteArray) : (strCells s).length = s.size := by
  have hsz : s.data.toList.length = s.size := by rw [Array.length_toList]; rfl
  simp [strCells, hsz]
theorem first_str {P : Program} (w : World) (s : ByteArray) : (Builtin.firstCells 1 s.size (.string s)).run P w = .ok (strCells s).toArray w := by
  simp only [Builtin.firstCells, Sem.run_pure]
  congr 1
  apply Array.toList_inj.1
  have hsz : s.data.size = s.size := rfl
  rw [← hsz]
  simp [strCells]
section
variable {P : Program} (w : World)
/-- append of a string's bytes onto a row of bytes -/
theorem run_append_str (base : Nat) (t u ty e : TypeId) (i : TypeInfo) (ht : P.underlying t = some (.slice e)) (hu : P.underlying u = some .string) (hi : P.info? e = some i) (hz : i.zero = some (.int .u8 0))
    (hsize : i.size = 1) (hby : i.bytes = 1) (v : Value) (n : Nat) (xs : List Value) (hown : Row w base e 1 v n xs) (s : ByteArray) (h63 : n + s.size ≤ 1000000) (hbase : base ≤ w.heap.size) :
    ∃ v' w', (Builtin.append_ #[t, u] ty #[v, .string s]).run P w = .ok v' w' ∧ Row w' base e 1 v' (n + s.size) (xs ++ strCells s) ∧ Fr w w' (fun k => some k = v.ownBlock) ∧
      (v'.ownBlock = v.ownBlock ∨ v'.ownBlock = some w.heap.size) := by
  have hcl := str_cells_len s
  have hone : ∀ u ∈ strCells s, u.oneCell' = true := by
    intro u hu
    simp only [strCells, List.mem_map] at hu
    obtain ⟨b, -, rfl⟩ := hu
    rfl
  by_cases hm : s.size = 0
  · have hn : strCells s = [] := List.eq_nil_of_length_eq_zero (by omega)
    refine ⟨v, w, ?_, by simpa [hn, hm] using hown, Fr.refl _ _, .inl rfl⟩
    have hf : (Builtin.firstCells 1 0 (.string s)).run P w = .ok #[] w := by
      have := first_str (P := P) w s
      rw [hm, hn] at this
      exact this
    rcases hown.2 with ⟨rfl, rfl⟩ | ⟨g, cap, cur, fr, rfl, hbg, hg, hnc, hcm, hcs, htake, hfz⟩
    · simp [Builtin.append_, run_underlying ht, run_underlying hu, sizeOf, typeInfo, hi, Builtin.lenOf, hm, hsize, hf]
    · simp [Builtin.append_, run_underlying ht, run_underlying hu, sizeOf, typeInfo, hi, Builtin.lenOf, hm, hsize, hf, hnc, storeCells]
  · rcases hown.2 with ⟨rfl, rfl⟩ | ⟨g, cap, cur, fr, rfl, hbg, hg, hnc, hcm, hcs, htake, hfz⟩
    · have hx : xs = [] := List.eq_nil_of_length_eq_zero (by simpa using hown.1)
      subst hx
      have hrun := run_append_nil_string (P := P) w t u ty e i (.int .u8 0) ht hu hi hz s (by omega) (by omega) (by rw [hby]; omega)
      have hge := grownCap_ge w s.size 0 e
      have hcm' : grownCap w s.size 0 e ≤ maxLen := grownCap_le_maxLen w s.size 0 e (by unfold maxLen; omega)
      have hd : s.data.size = s.size := rfl
      have hheap := heap_alloc_new w.drew (.cells (s.data.map (fun b => Value.int .u8 b.toNat) ++ Builtin.zeroCells (Value.int .u8 0).cells (grownCap w s.size 0 e - s.size)) e)
      refine ⟨_, _, hrun, ⟨by simp [hcl], .inr ⟨w.heap.size, _, _, (0, 0), by simp, hbase, hheap, by simpa using hge, hcm', ?_, ?_, ?_⟩⟩, (Fr.drew w _).trans (Fr.new _ _ _) (fun _ _ h => h) (fun _ _ h => h), .inr rfl⟩
      · simp [size_zeroCells, Value.cells]
        omega
      · simp only [Array.toList_append, Array.toList_map, Nat.zero_add, Nat.mul_one, List.nil_append]
        rw [List.take_left' (by simp [hd])]
        rfl
      · intro k _
        have : (w.drew.alloc (.cells (s.data.map (fun b => Value.int .u8 b.toNat) ++ Builtin.zeroCells (Value.int .u8 0).cells (grownCap w s.size 0 e - s.size)) e)).heap[w.heap.size]? = _ := hheap
        simp only [World.frozen?, this]
        simp
    · by_cases hroom : n + s.size ≤ cap
      · have hfit : n * 1 + (strCells s).length ≤ cur.size := by rw [hcl, hcs]; omega
        have hst := run_storeCells_cells (P := P) g (n * 1) (strCells s) 0 w (fun j hj => by simp [World.cell?, hg]; omega) (fun j hj => hfz _ (by omega)) hone
        simp only [Nat.add_zero] at hst
        have hadd : (⟨g, 0, none⟩ : Addr).add (n * 1) = ⟨g, n * 1, none⟩ := by unfold Addr.add; split <;> simp_all
        have hf := first_str (P := P) w s
        refine ⟨.slice (some ⟨g, 0, none⟩) (n + s.size) cap, w.setCells g (n * 1) (strCells s), ?_, ⟨by rw [List.length_append, hown.1, hcl, Nat.add_mul]; omega, .inr ⟨g, cap, _, fr, rfl, hbg, heap_setCells g (strCells s) _ cur e fr w hg, hroom, hcm, by rw [size_setAll]; exact hcs, ?_, ?_⟩⟩, ?_, .inl rfl⟩
        · simp only [Nat.mul_one] at hst hadd
          simp [Builtin.append_, run_underlying ht, run_underlying hu, sizeOf, typeInfo, hi, Builtin.lenOf, hroom, hsize, hf, hadd, hst]
        · have hcells := heap_setCells g (strCells s) (n * 1) cur e fr w hg
          have hat : ∀ k, (w.setCells g (n * 1) (strCells s)).cell? ⟨g, k, none⟩ = (((strCells s).zipIdx (n * 1)).foldl (fun (c : Array Value) (p : Value × Nat) => c.setIfInBounds p.2 p.1) cur)[k]? := fun k => by unfold World.cell?; rw [hcells]; rfl
          refine List.ext_getElem? fun k => ?_
          rw [List.getElem?_take]
          by_cases hk : k < (n + s.size) * 1
          · rw [if_pos hk, Array.getElem?_toList, ← hat k]
            by_cases hk1 : k < n * 1
            · rw [World.cell?_setCells_out g (strCells s) (n * 1) w ⟨g, k, none⟩ (fun _ _ => .inl hk1), List.getElem?_append_left (by rw [hown.1]; exact hk1), ← htake, List.getElem?_take, if_pos hk1]
              simp [World.cell?, hg]
            · have hj : k - n * 1 < (strCells s).length := by rw [hcl]; omega
              have := World.cell?_setCells_in g (strCells s) (n * 1) w (fun j hj => by simp [World.cell?, hg]; omega) (k - n * 1) hj
              rw [show n * 1 + (k - n * 1) = k by omega] at this
              rw [this, List.getElem?_append_right (by rw [hown.1]; omega), hown.1, List.getElem?_eq_getElem hj]
          · rw [if_neg hk, List.getElem?_eq_none]
            rw [List.length_append, hown.1, hcl]
            omega
        · intro k hk
          rw [World.frozen?_setCells]
          exact hfz k (by rw [size_setAll] at hk; exact hk)
        · exact (fr_setCells g (strCells s) _ w).mono fun k _ h => by simp [Value.ownBlock, h]
      · have holds : ∀ j u, xs[j]? = some u → w.drew.cell? ((⟨g, 0, none⟩ : Addr).add j) = some u := fun j u hu => by
          have hadd : (⟨g, 0, none⟩ : Addr).add j = ⟨g, j, none⟩ := by unfold Addr.add; split <;> simp_all
          rw [hadd]
          rw [← htake, List.getElem?_take] at hu
          split at hu
          · have hg' : w.drew.heap[g]? = some (.cells cur e fr) := hg
            simp [World.cell?, hg']
            simpa using hu
          · cases hu
        have hf := first_str (P := P) w.drew s
        have hfo := run_firstCells_some (P := P) w.drew 1 n ⟨g, 0, none⟩ n cap xs (by rw [hown.1]) holds
        have hne : ¬ (n + s.size ≤ cap) := hroom
        have h63' : ¬ (9223372036854775807 < ((n : Int) + (s.size : Int))) := by omega
        have h48' : ¬ (281474976710656 < Builtin.nextslicecap (n + s.size) cap * i.bytes) := by
          have := growslice_fits (need := n + s.size) (old := cap) (bytes := i.bytes) (by omega) (by rw [hby]; omega)
          omega
        have hge := grownCap_ge w (n + s.size) cap e
        have hcm' : grownCap w (n + s.size) cap e ≤ maxLen := grownCap_le_maxLen w (n + s.size) cap e (by unfold maxLen; omega)
        have hrun : (Builtin.append_ #[t, u] ty #[.slice (some ⟨g, 0, none⟩) n cap, .string s]).run P w = .ok (.slice (some ⟨w.heap.size, 0, none⟩) (n + s.size) (grownCap w (n + s.size) cap e))
            (w.drew.alloc (.cells (xs.toArray ++ (strCells s).toArray ++ Builtin.zeroCells (Value.int .u8 0).cells (grownCap w (n + s.size) cap e - (n + s.size))) e)) := by
          simp only [hby, Nat.mul_one] at h48'
          simp [Builtin.append_, run_underlying ht, run_underlying hu, sizeOf, typeInfo, zeroValue, hi, hz, Builtin.lenOf, hne, h63', h48', Question.forced, hf, hfo, hsize, hby, newRow, grownCap]
          congr 2
          apply Array.ext'
          simp [List.append_assoc]
        have hlen : (xs ++ strCells s).length = n + s.size := by rw [List.length_append, hown.1, hcl]; omega
        have hheap := heap_alloc_new w.drew (.cells (xs.toArray ++ (strCells s).toArray ++ Builtin.zeroCells (Value.int .u8 0).cells (grownCap w (n + s.size) cap e - (n + s.size))) e)
        refine ⟨_, _, hrun, ⟨by rw [hlen]; omega, .inr ⟨w.heap.size, _, _, (0, 0), rfl, hbase, hheap, hge, hcm', ?_, ?_, ?_⟩⟩, (Fr.drew w _).trans (Fr.new _ _ _) (fun _ _ h => h) (fun _ _ h => h), .inr rfl⟩
        · have hx := hown.1
          simp [size_zeroCells, Value.cells, hcl]
          omega
        · simp only [Array.toList_append, Nat.mul_one]
          rw [List.take_left' (by simpa using hlen)]
        · intro k _
          have : (w.drew.alloc (.cells (xs.toArray ++ (strCells s).toArray ++ Builtin.zeroCells (Value.int .u8 0).cells (grownCap w (n + s.size) cap e - (n + s.size))) e)).heap[w.heap.size]? = _ := hheap
          simp only [World.frozen?, this]
          simp

theorem wpList_append_str {ops : Array Oper} {rest : List Oper} {o : Oper} {a : Act} {Q : Exit → Act → World → Prop} (hgd : o.guard = none) (s x : Operand) (t u : TypeId)
    (ho : o.op = .call { callee := .builtin .append, args := #[s, x], argTypes := #[t, u] })
    (base : Nat) (e : TypeId) (i : TypeInfo) (ht : P.underlying t = some (.slice e)) (hu : P.underlying u = some .string) (hi : P.info? e = some i) (hz : i.zero = some (.int .u8 0))
    (hsize : i.size = 1) (hby : i.bytes = 1)
    (v : Value) (n : Nat) (xs : List Value) (hs : a.eval s = v) (hown : Row w base e 1 v n xs)
    (str : ByteArray) (hx : a.eval x = .string str) (h63 : n + str.size ≤ 1000000) (hbase : base ≤ w.heap.size)
    (h : ∀ v' w', Row w' base e 1 v' (n + str.size) (xs ++ strCells str) → Fr w w' (fun k => some k = v.ownBlock) → (v'.ownBlock = v.ownBlock ∨ v'.ownBlock = some w.heap.size) → wpList P ops Q rest (a.put o.dst v') w') : wpList P ops Q (o :: rest) a w := by
  refine wpList_plain hgd fun K hK => ?_
  obtain ⟨v', w', hrun, h2, h3, h4⟩ := run_append_str (P := P) w base t u o.type e i ht hu hi hz hsize hby v n xs hown str h63 hbase
  unfold Oper.wp execOp
  simp only [ho, resolve, invoke, builtin, Sem.run_bind, Sem.run_pure, Result.andThen_ok, List.map_toArray, List.map_cons, List.map_nil, hs, hx, hrun]
  exact hK _ _ (h v' w' h2 h3 h4)
end
end Go.Mem
