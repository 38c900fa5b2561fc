import Derived.Test.YtodcnbejnchmhaaGreatDoorYb23
import Derived.Deep.LoopGhost
import Derived.Test.YtodcnbejnchmhaaGreatDoorYb15
import Derived.Deep.Slices
import Derived.Test.YtodcnbejnchmhaaGreatDoorYb20
import Derived.Test.YtodcnbejnchmhaaGreatDoorYb21
import Derived.Test.YtodcnbejnchmhaaGreatDoorYb14
import Derived.Test.YtodcnbejnchmhaaGreatDoorYb10
import Derived.Laws.CopyOwn
import Derived.Test.YtodcnbejnchmhaaGreatDoorYb19
import Derived.Test.YtodcnbejnchmhaaGreatDoorYb09
namespace Go.Proofs.YtodcnbejnchmhaaGreatDoor
open Go.RowKit Go.Mem Go.Lin Go.Dcm

/-- which method a kind tells -/
def methOf (k : Int) : FuncId := if k = 1 then 95 else if k = 2 then 96 else if k = 3 then 97 else if k = 4 then 98 else if k = 5 then 99 else 100
theorem make_any : ∀ (fn : Fn) (first cap : Array Value) (w : World), (Instr.makeFunc fn first cap).run Tryz.prog w = .ok (.func fn first cap) w := fun _ _ _ _ => rfl
theorem deed_grule (g : Nat) (k : Int) (h : k = 1) (w : World) : Calls Tryz.prog 62 #[gP g, intV k] w fun e w' => e = .returned (.func (.func 95) #[gP g] #[]) ∧ w' = w := by
  have hmf := make_any
  subst h
  go_enter Tryz.func62, Tryz.ntmps62
  go_wp2_with fail
  go_ret
  exact ⟨rfl, rfl⟩
theorem deed_gzone (g : Nat) (k : Int) (h : k = 2) (w : World) : Calls Tryz.prog 62 #[gP g, intV k] w fun e w' => e = .returned (.func (.func 96) #[gP g] #[]) ∧ w' = w := by
  have hmf := make_any
  subst h
  go_enter Tryz.func62, Tryz.ntmps62
  go_wp2_with fail
  go_ret
  exact ⟨rfl, rfl⟩
theorem deed_gera (g : Nat) (k : Int) (h : k = 3) (w : World) : Calls Tryz.prog 62 #[gP g, intV k] w fun e w' => e = .returned (.func (.func 97) #[gP g] #[]) ∧ w' = w := by
  have hmf := make_any
  subst h
  go_enter Tryz.func62, Tryz.ntmps62
  go_wp2_with fail
  go_ret
  exact ⟨rfl, rfl⟩
theorem deed_glink (g : Nat) (k : Int) (h : k = 4) (w : World) : Calls Tryz.prog 62 #[gP g, intV k] w fun e w' => e = .returned (.func (.func 98) #[gP g] #[]) ∧ w' = w := by
  have hmf := make_any
  subst h
  go_enter Tryz.func62, Tryz.ntmps62
  go_wp2_with fail
  go_ret
  exact ⟨rfl, rfl⟩
theorem deed_gfault (g : Nat) (k : Int) (h : k = 5) (w : World) : Calls Tryz.prog 62 #[gP g, intV k] w fun e w' => e = .returned (.func (.func 99) #[gP g] #[]) ∧ w' = w := by
  have hmf := make_any
  subst h
  go_enter Tryz.func62, Tryz.ntmps62
  go_wp2_with fail
  go_ret
  exact ⟨rfl, rfl⟩
theorem deed_gpass (g : Nat) (k : Int) (h1 : k ≠ 1) (h2 : k ≠ 2) (h3 : k ≠ 3) (h4 : k ≠ 4) (h5 : k ≠ 5) (w : World) : Calls Tryz.prog 62 #[gP g, intV k] w fun e w' => e = .returned (.func (.func 100) #[gP g] #[]) ∧ w' = w := by
  have hmf := make_any
  have e1 : ((k : Int) == 1) = false := by simpa using h1
  have e2 : ((k : Int) == 2) = false := by simpa using h2
  have e3 : ((k : Int) == 3) = false := by simpa using h3
  have e4 : ((k : Int) == 4) = false := by simpa using h4
  have e5 : ((k : Int) == 5) = false := by simpa using h5
  clear h1 h2 h3 h4 h5
  go_enter Tryz.func62, Tryz.ntmps62
  go_wp2_with fail
  go_ret
  exact ⟨rfl, rfl⟩
theorem deed_any (g : Nat) (k : Int) (w : World) : Calls Tryz.prog 62 #[gP g, intV k] w fun e w' => e = .returned (.func (.func (methOf k)) #[gP g] #[]) ∧ w' = w := by
  unfold methOf
  by_cases h1 : k = 1
  · rw [if_pos h1]
    exact deed_grule g k h1 w
  rw [if_neg h1]
  by_cases h2 : k = 2
  · rw [if_pos h2]
    exact deed_gzone g k h2 w
  rw [if_neg h2]
  by_cases h3 : k = 3
  · rw [if_pos h3]
    exact deed_gera g k h3 w
  rw [if_neg h3]
  by_cases h4 : k = 4
  · rw [if_pos h4]
    exact deed_glink g k h4 w
  rw [if_neg h4]
  by_cases h5 : k = 5
  · rw [if_pos h5]
    exact deed_gfault g k h5 w
  rw [if_neg h5]
  exact deed_gpass g k h1 h2 h3 h4 h5 w
theorem meth_any (w : World) (g B : Nat) (i : Int) (s : StL) (h : GAt w g B i s) (hs : size s ≤ 100000) (hz : Zn s) (x : LineL) : Calls Tryz.prog (methOf x.kind) #[gP g, lineV x] w (GPost w g B i (stepD s (i, x))) := by
  unfold methOf stepD
  by_cases h1 : x.kind = 1
  · rw [if_pos h1, if_pos h1]
    exact grule_any w g B i s h hs x
  rw [if_neg h1, if_neg h1]
  by_cases h2 : x.kind = 2
  · rw [if_pos h2, if_pos h2]
    exact gzone_any w g B i s h hs x
  rw [if_neg h2, if_neg h2]
  by_cases h3 : x.kind = 3
  · rw [if_pos h3, if_pos h3]
    cases ho : s.opn with
    | false =>
      have e : moreD s i x = tell s i 0 10 := by unfold moreD; simp [ho]
      show Calls _ _ _ _ (GPost w g B i (moreD s i x))
      rw [e]
      exact gera_none w g B i s h hs x ho
    | true =>
      obtain ⟨z, hc⟩ := hz.1 ho
      have hk := hz.2 z (mem_zones.2 (.inr hc))
      show Calls _ _ _ _ (GPost w g B i (moreD s i x))
      by_cases h8 : 8 ≤ z.eras.length
      · have e : moreD s i x = { tell s i 0 17 with opn := x.era.til.has } := by unfold moreD; simp [ho, hc, h8]
        rw [e]
        exact gera_many w g B i s h hs x z ho hc h8
      · have e : moreD s i x = { s with cur := some ⟨z.name, z.eras ++ [x.era], z.lines ++ [i]⟩, opn := x.era.til.has } := by unfold moreD; simp [ho, hc, h8]
        rw [e]
        exact gera_more w g B i s h hs x z ho hc (by omega) hk.1
  rw [if_neg h3, if_neg h3]
  by_cases h4 : x.kind = 4
  · rw [if_pos h4, if_pos h4]
    exact glink_any w g B i s h hs x
  rw [if_neg h4, if_neg h4]
  by_cases h5 : x.kind = 5
  · rw [if_pos h5, if_pos h5]
    exact gfault_any w g B i s h hs x
  rw [if_neg h5, if_neg h5]
  exact pass_any w g B i s h x
set_option maxRecDepth 100000 in
set_option maxHeartbeats 1600000 in
theorem finish_any (w : World) (g B : Nat) (i : Int) (s : StL) (h : GAt w g B i s) (hs : size s ≤ 100000) (hz : Zn s) : Calls Tryz.prog 63 #[gP g] w (GPost w g B i (endS s)) := by
  obtain ⟨vr, vz, vl, vd, hb, hr⟩ := h.open_
  have hlt := h.lt
  have c5 := blkc hb 5 _ rfl
  cases ho : s.opn with
  | false =>
    rw [ho] at c5
    have HE : endS s = s := by unfold endS; simp [ho]
    rw [HE]
    have H := Lib.hid h
    clear h hb hr HE hz
    go_enter Tryz.func63, Tryz.ntmps63
    go_wp2_with fail
    go_end0
    exact ⟨rfl, H.out, Fr.refl _ _⟩
  | true =>
    rw [ho] at c5
    obtain ⟨z, hc⟩ := hz.1 ho
    have hk := hz.2 z (mem_zones.2 (.inr hc))
    have HE : endS s = tell s (lastOf z) 0 21 := by unfold endS; simp [ho, hc]
    rw [HE]
    obtain ⟨M, bz, cap, a, ⟨z', ve, vn⟩, rfl, rfl, ha, hO⟩ := open_z hr hc
    have hsz : a.length ≤ 100000 := by
      have h1 := (size_parts hs).2.1
      have h2 := congrArg List.length ha
      unfold StL.zones at h1
      rw [List.length_append] at h1
      rw [List.length_map] at h2
      omega
    obtain ⟨pre, t, hpt⟩ : ∃ pre t, z'.lines = pre ++ [t] := by
      rcases List.eq_nil_or_concat z'.lines with e | ⟨a, y, e⟩
      · have h1 : z'.eras.length = z'.lines.length := hk.1
        have h2 : 1 ≤ z'.eras.length := hk.2.1
        rw [e] at h1
        simp at h1
        rw [h1] at h2
        simp at h2
      · exact ⟨a, y, by rw [e, List.concat_eq_append]⟩
    have hlast : lastOf z' = t := by unfold lastOf; rw [hpt]; simp [List.getLastD_eq_getLast?]
    have hpl : pre.length ≤ 8 := by
      have h1 : z'.eras.length = z'.lines.length := hk.1
      have h2 : z'.eras.length ≤ 8 := hk.2.2
      rw [hpt, List.length_append] at h1
      omega
    have HL := Lib.hid (last_any w g a.length cap bz _ hb rfl hsz)
    have HG := Lib.hid h
    obtain ⟨cs, hBz, hkk, hcs, k1, k2⟩ := hO.cells
    have HO := Lib.hid hO
    obtain ⟨An, cn, hvn0, -, -, hrd⟩ := hO.hy.l.rd
    have hvn : vn = .slice An z'.lines.length cn := hvn0
    clear hvn0
    rw [hpt] at hvn
    have hrd : Rd w 1 An z'.lines.length (z'.lines.flatMap intL) := hrd
    rw [hpt] at hrd
    have hr1 : ∃ bn off, An = some ⟨bn, off, none⟩ ∧ w.cell? ⟨bn, off + pre.length, none⟩ = some (intV t) := by
      obtain ⟨bn, off, e, hx⟩ := hrd.2 (by simp)
      refine ⟨bn, off, e, hx pre.length (intV t) ?_⟩
      have := flat_get intL 1 intL_len (l := pre ++ [t]) (i := pre.length) (x := t) (by simp) 0 (by omega)
      simpa [intL] using this
    obtain ⟨bn, off, rfl, ct⟩ := hr1
    rw [show (pre ++ [t]).length = pre.length + 1 by simp] at hvn
    subst hvn
    rw [hlast]
    have hd := (size_parts hs).2.2.2
    have cz := blkc hkk (a.length * 3 + 2) _ k2
    clear h hb hr HE hO hkk k1 k2 hcs hrd hk hpt hlast hz
    go_enter Tryz.func63, Tryz.ntmps63
    go_wp2_with fail
    refine HL.out.mono ?_
    rintro e w2 ⟨rfl, hf2⟩
    have cz2 := cell_far hf2 cz (fun h => h)
    have ct2 := cell_far hf2 ct (fun h => h)
    have HT := Lib.hid (tell_any w2 g B i s (HG.out.kept hf2) hd t 0 21)
    have HF2 := Lib.hid (gx_none (g := g) (B := B) hf2)
    clear hf2 cz ct
    go_wp2_with fail
    refine HT.out.mono ?_
    rintro e w3 ⟨rfl, hg3, hf3⟩
    have HG3 := Lib.hid hg3
    have HF3 := Lib.hid hf3
    clear hg3 hf3
    go_wp2_with fail
    go_end0
    exact ⟨rfl, HG3.out, gx_trans HF2.out HF3.out⟩
end Go.Proofs.YtodcnbejnchmhaaGreatDoor
namespace Go.Proofs.YtodcnbejnchmhaaGreatDoor
open Go.RowKit Go.Mem Go.Lin Go.Dcm

/-- a slice of lines -/
def LinesAt (w : World) (A : Option Addr) (l : List LineL) : Prop := Rd w 29 A l.length (l.flatMap lineL)
theorem LinesAt.kept {w w' : World} {A : Option Addr} {l : List LineL} (h : LinesAt w A l) (hf : Fr w w' (fun _ => False)) : LinesAt w' A l := Rd.fr h hf (fun _ _ _ _ h => h)
theorem LinesAt.at_ {w : World} {A : Option Addr} {l : List LineL} (h : LinesAt w A l) {i : Nat} (hi : i < l.length) : ∃ b off, A = some ⟨b, off, none⟩ ∧ ∀ j, j < (lineC l[i]).size → w.cell? ⟨b, off + i * 29 + j, none⟩ = (lineC l[i])[j]? := by
  obtain ⟨b, off, e, hc⟩ := rows_at lineL_len h (List.getElem?_eq_getElem hi)
  refine ⟨b, off, e, fun j hj => ?_⟩
  rw [hc j hj]
  show (lineC l[i]).toList[j]? = _
  simp
/-- four slices, and the document that they hold -/
def DocPost (tr tz tl : TypeId) (w : World) (d : DocL) (e : Ending) (w' : World) : Prop := ∃ vr vz vl vd, e = .returned (.agg #[vr, vz, vl, vd]) ∧ DocAt tr tz tl w' w.heap.size vr vz vl vd d ∧ Fr w w' (fun _ => False)
theorem zs_plain {w : World} {B : Nat} {v : Value} {zs : List ZoneL} (h : ZsAt w B v zs) : ∃ zv : List ZV, zv.map (·.1) = zs ∧ Own w B 101 3 zoneL v zv ∧ ∀ x ∈ zv, ZAt w B x := by
  obtain ⟨zv, M, h1, h2, h3, -⟩ := h
  exact ⟨zv, h1, h2, h3⟩
theorem zat_base {w : World} {a b : Nat} {z : ZV} (h : ZAt w b z) (hb : a ≤ b) : ZAt w a z := ⟨own_base h.e hb, own_base h.l hb⟩
theorem doc_of {w : World} {a B : Nat} {vr vz vl vd : Value} {s : StL} (h : GR w B vr vz vl vd s) (hb : a ≤ B) : DocAt 100 101 102 w a vr vz vl vd s.doc := by
  obtain ⟨zv, h1, h2, h3⟩ := zs_plain h.z
  exact ⟨own_base h.r hb, ⟨zv, h1, own_base h2 hb, fun x hx => zat_base (h3 x hx) hb⟩, own_base h.l hb, own_base h.d hb⟩
theorem gx_low2 {w a b : World} {g B : Nat} (h : Fr w a (fun _ => False)) (hf : Fr a b (Gx g B a)) (h1 : w.heap.size ≤ g) (h2 : g < B) : Fr w b (fun _ => False) := h.fresh hf fun i hi => by
  rcases hi with rfl | ⟨hi, -⟩
  · exact h1
  · omega
theorem infoDoc : (Tryz.prog.info? 57).map (·.size) = some 4 := by kernel_rfl
theorem res_of {w : World} {q : Nat} {cs : Array Value} (hs : cs.size = 4) (hb : Blk w q 57 cs) (tmps : Array Value) (hp : tmps.getD 2 undef = .pointer (some ⟨q, 0, none⟩)) : (results Tryz.f41 tmps).run Tryz.prog w = .ok (.agg cs) w :=
  results_cell_row (P := Tryz.prog) (fn := Tryz.f41) (p := 2) (ty := 57) rfl tmps _ q 57 cs (0, 0) _ hp hb Tryz.underlying57 rfl (by rw [hs]; exact infoDoc)
theorem gat_new (w : World) (_h : 0 < w.heap.size) : GAt (w.alloc (.cells #[.slice none 0 0, .slice none 0 0, .slice none 0 0, .slice none 0 0, intV 0, .bool false] 128)) w.heap.size (w.heap.size + 1) 0 stZ :=
  gat_mk (Nat.lt_succ_self _) (Blk.made w 128 #[.slice none 0 0, .slice none 0 0, .slice none 0 0, .slice none 0 0, intV 0, .bool false]) ⟨own_none _ _ _ _ _, ⟨[], w.heap.size + 1, rfl, own_none _ _ _ _ _, fun x hx => by simp at hx, Nat.le_refl _, by simp, fun a x e => by simp at e⟩, own_none _ _ _ _ _, own_none _ _ _ _ _⟩
theorem doc_one {tr tz tl : TypeId} {w : World} {B : Nat} {vr vz vl vd : Value} {d : DocL} (h : DocAt tr tz tl w B vr vz vl vd d) : (#[vr, vz, vl, vd] : Array Value).all (·.oneCell') = true := by
  obtain ⟨A1, c1, rfl⟩ := h.r.slice
  obtain ⟨zv, -, hz, -⟩ := h.z
  obtain ⟨A2, c2, rfl⟩ := hz.slice
  obtain ⟨A3, c3, rfl⟩ := h.l.slice
  obtain ⟨A4, c4, rfl⟩ := h.g.slice
  simp [Value.oneCell']
/-- a document stays where a block of documents turns -/
theorem doc_far {w w' : World} {B q : Nat} {vr vz vl vd : Value} {d : DocL} {cs : Array Value} (h : DocAt 100 101 102 w B vr vz vl vd d) (hf : Fr w w' (fun i => i = q)) (hq : Blk w q 57 cs) : DocAt 100 101 102 w' B vr vz vl vd d := by
  obtain ⟨zv, h1, h2, h3⟩ := h.z
  have key : ∀ {X : Type} {b : Nat} {e : TypeId} {k : Nat} {f : X → List Value} {v : Value} {l : List X}, e ≠ 57 → Own w b e k f v l → Own w' b e k f v l := fun hne ho =>
    own_far ho hf fun i cs' _ hb e => by subst e; exact hne (blk_same hb hq)
  exact ⟨key (by decide) h.r, ⟨zv, h1, key (by decide) h2, fun x hx => ⟨key (by decide) (h3 x hx).e, key (by decide) (h3 x hx).l⟩⟩, key (by decide) h.l, key (by decide) h.g⟩
/-- where the loop stands -/
def OInv (w : World) (_A : Option Addr) (l : List LineL) (k : Nat) (v : Value) (wr : World) : Prop := ∃ (i : Nat) (j : Int), i + k = l.length ∧ v = intV (i : Int) ∧ GAt wr (w.heap.size + 1) (w.heap.size + 2) j (ofS (l.take i)) ∧ Blk wr w.heap.size 57 #[.slice none 0 0, .slice none 0 0, .slice none 0 0, .slice none 0 0] ∧ Fr w wr (fun _ => False)
set_option maxRecDepth 100000 in
set_option maxHeartbeats 3200000 in
theorem dOf_any (l : List LineL) (A : Option Addr) (c : Nat) (w : World) (hl : LinesAt w A l) (hlen : l.length ≤ 40000) : Calls Tryz.prog 41 #[.slice A l.length c] w (DocPost 100 101 102 w (ofD l)) := by
  have hf0 := Fr.new w (.cells #[.slice none 0 0, .slice none 0 0, .slice none 0 0, .slice none 0 0] 57) (fun _ => False)
  have hbR := Blk.made w 57 #[.slice none 0 0, .slice none 0 0, .slice none 0 0, .slice none 0 0]
  have hg0 := gat_new (w.alloc (.cells #[.slice none 0 0, .slice none 0 0, .slice none 0 0, .slice none 0 0] 57)) (by simp)
  have hf1 := Fr.new (w.alloc (.cells #[.slice none 0 0, .slice none 0 0, .slice none 0 0, .slice none 0 0] 57)) (.cells #[.slice none 0 0, .slice none 0 0, .slice none 0 0, .slice none 0 0, intV 0, .bool false] 128) (fun _ => False)
  have HI := Lib.hid (show OInv w A l l.length (intV 0) ((w.alloc (.cells #[.slice none 0 0, .slice none 0 0, .slice none 0 0, .slice none 0 0] 57)).alloc (.cells #[.slice none 0 0, .slice none 0 0, .slice none 0 0, .slice none 0 0, intV 0, .bool false] 128)) from
    ⟨0, 0, by simp, rfl, by simpa [ofS, num, runD] using hg0, hf1.blk hbR (fun h => h), ff0 hf0 hf1⟩)
  have HL := Lib.hid hl
  clear hf0 hbR hg0 hf1 hl
  go_enter Tryz.func41, Tryz.ntmps41
  go_wp2_with fail
  go_loopg [10] l.length (fun k v10 wr => OInv w A l k v10 wr)
  case atStart => exact HI.out
  case round =>
    obtain ⟨i, j, hik, rfl, hg, hR, hf⟩ := hrel
    have hws := hf.size
    have HR := Lib.hid hR
    have HF := Lib.hid hf
    have HG := Lib.hid hg
    by_cases hlt : i < l.length
    · obtain ⟨b, off, rfl, hcell⟩ := (HL.out.kept hf).at_ hlt
      obtain ⟨x, hx⟩ : ∃ x, l[i] = x := ⟨_, rfl⟩
      have hst := step_take l i hlt
      rw [hx] at hcell hst
      have hzn := zn_of (l.take i)
      have hsz : size (ofS (l.take i)) ≤ 100000 := by
        have := size_of (l.take i)
        rw [List.length_take] at this
        omega
      obtain ⟨s, hs⟩ : ∃ s, ofS (l.take i) = s := ⟨_, rfl⟩
      rw [hs] at hst hzn hsz HG
      have HST := Lib.hid hst
      have HC := Lib.hid hcell
      have hi1 : (i : Int) < (l.length : Int) := by omega
      have HZ := Lib.hid (show Blk _ wr.heap.size 71 (lineC lineZ) from Blk.made wr 71 #[intV 0, .string ⟨#[]⟩, intV 0, intV 0, intV 0, intV 0, intV 0, intV 0, intV 0, intV 0, intV 0, .string ⟨#[]⟩, .string ⟨#[]⟩, .string ⟨#[]⟩, intV 0, intV 0, intV 0, .string ⟨#[]⟩, .string ⟨#[]⟩, .bool false, intV 0, intV 0, intV 0, intV 0, intV 0, intV 0, intV 0, intV 0, intV 0])
      have hn := Fr.new wr (.cells #[intV 0, .string ⟨#[]⟩, intV 0, intV 0, intV 0, intV 0, intV 0, intV 0, intV 0, intV 0, intV 0, .string ⟨#[]⟩, .string ⟨#[]⟩, .string ⟨#[]⟩, intV 0, intV 0, intV 0, .string ⟨#[]⟩, .string ⟨#[]⟩, .bool false, intV 0, intV 0, intV 0, intV 0, intV 0, intV 0, intV 0, intV 0, intV 0] 71) (fun _ => False)
      obtain ⟨vr, vz, vl, vd, hb, hr⟩ := (HG.out.kept hn).open_
      have hgq : w.heap.size + 1 ≠ wr.heap.size := by have := HG.out.open_; obtain ⟨_, _, _, _, hb, _⟩ := this; have := hb.lt; omega
      have HB := Lib.hid hb
      have HGR := Lib.hid hr
      have HN := Lib.hid hn
      have hF : ∀ args w, (callFunc (methOf x.kind) args).run Tryz.prog w = .ok (.enter (methOf x.kind) args) w := by
        intro args w
        unfold methOf
        split
        · exact Tryz.call95 args w
        split
        · exact Tryz.call96 args w
        split
        · exact Tryz.call97 args w
        split
        · exact Tryz.call98 args w
        split
        · exact Tryz.call99 args w
        exact Tryz.call100 args w
      clear hst hcell hf hR hg hb hr hn hs hx
      go_wp2_with (first
        | (refine wpList_load_at 71 _ b (off + i * 29) (lineC x) _ (by rfl) rfl rfl HC.out Tryz.underlying71 rfl (infoL _) ?_)
        | (refine wpList_store_blk 71 _ _ wr.heap.size 0 71 (lineC lineZ) (lineC x) (lineC x) (by rfl) rfl rfl rfl rfl HZ.out (infoL _) (lineC_one _) (show 0 + 29 ≤ 29 by decide) (put_line _ _) ?_
           intro w9 hf9 hb9
           have hB9 := hf9.blk HB.out hgq
           have c4 := blkc hB9 4 _ rfl
           have f4 := free_at hB9 4
           have HQ9 := Lib.hid hb9
           have HB9 := Lib.hid hB9
           have HF9 := Lib.hid hf9
           clear hf9 hb9 hB9))
      have hf9 := HN.out.fresh HF9.out (fun i e => by have e : i = wr.heap.size := e; omega)
      have hG9 := HG.out.kept hf9
      obtain ⟨vr2, vz2, vl2, vd2, hb2, hr2⟩ := hG9.open_
      have hG1 : GAt (w9.setCell ⟨w.heap.size + 1, 4, none⟩ (intV (i : Int))) (w.heap.size + 1) (w.heap.size + 2) (i : Int) s := gat_put (Nat.lt_succ_self _) hb2 rfl hr2
      have hs1 := Fr.set (w := w9) (a := ⟨w.heap.size + 1, 4, none⟩) (v := intV (i : Int)) (S := fun k => k = w.heap.size + 1) rfl
      have hq1 := hs1.blk HQ9.out (fun e => hgq e.symm)
      have hR1 := hs1.blk (hf9.blk HR.out (fun h => h)) (fun e => by have e : w.heap.size = w.heap.size + 1 := e; omega)
      have hF1 : Fr w _ (fun _ => False) := (ff0 HF.out hf9).fresh hs1 (fun i e => by have e : i = w.heap.size + 1 := e; omega)
      clear hf9 hG9 hb2 hr2 hs1 c4 f4 HB9 HF9 HQ9 HN HGR HB HZ HC hgq HG HR HF
      generalize World.setCell w9 _ _ = W1 at *
      have HM := Lib.hid (meth_any W1.drew _ _ _ _ (hG1.kept (Fr.drew _ _)) hsz hzn x)
      have HG1 := Lib.hid (hG1.kept (Fr.drew W1 (fun _ => False)))
      have HR1 := Lib.hid ((Fr.drew W1 (fun _ => False)).blk hR1 (fun h => h))
      have HF1 := Lib.hid (ff0 hF1 (Fr.drew _ _))
      clear hG1 hR1 hF1
      refine wp_region_held_drew (S := fun w' => Blk w' wr.heap.size 71 (lineC x)) (by kernel_rfl) (line_kept (Fr.drew W1 _) hq1) (fun hHeld => ?_)
      refine wpAnyH_take (i := 0) (v := ?_) rfl (by kernel_rfl) (by kernel_rfl) (by kernel_rfl) (fun _ _ _ h => h) (Or.inl ⟨by rfl, ?_⟩) (by assumption) ?_
      rotate_left
      · intro w' hSw
        have k0 := blkc hSw 0 (intV x.kind) rfl
        go_simp
        try with_reducible rfl
      try simp only [Act.put, List.setIfInBounds_toArray, List.set_cons_zero, List.set_cons_succ, List.getElem_toArray, List.getElem_cons_zero]
      refine wpAnyH_take (i := 1) (v := ?_) rfl (by kernel_rfl) (by kernel_rfl) (by kernel_rfl) (fun _ _ _ h => h) (Or.inl ⟨by rfl, ?_⟩) (by assumption) ?_
      rotate_left
      · intro w' hSw
        have k0 := blkc hSw 0 (intV x.kind) rfl
        go_simp
        try with_reducible rfl
      try simp only [Act.put, List.setIfInBounds_toArray, List.set_cons_zero, List.set_cons_succ, List.getElem_toArray, List.getElem_cons_succ, List.getElem_cons_zero]
      refine wpAnyH_take (i := 2) (v := ?_) rfl (by kernel_rfl) (by kernel_rfl) (by kernel_rfl) (fun _ _ _ h => h) (Or.inl ⟨by rfl, ?_⟩) (by assumption) ?_
      rotate_left
      · intro w' hSw
        have k0 := blkc hSw 0 (intV x.kind) rfl
        go_simp
        try with_reducible rfl
      try simp only [Act.put, List.setIfInBounds_toArray, List.set_cons_zero, List.set_cons_succ, List.getElem_toArray, List.getElem_cons_succ, List.getElem_cons_zero]
      refine wpAnyH_take (i := 4) (v := _) rfl (by kernel_rfl) (by kernel_rfl) (by kernel_rfl) (fun _ _ _ h => h) (yields_blk 71 _ wr.heap.size 0 71 (lineC x) (lineC x) _ (by rfl) rfl rfl (fun _ h => h) Tryz.underlying71 rfl (infoL _) (part_line _)) (by assumption) ?_
      try simp only [Act.put, List.setIfInBounds_toArray, List.set_cons_zero, List.set_cons_succ, List.getElem_toArray, List.getElem_cons_succ, List.getElem_cons_zero]
      refine wpAnyH_ready (rs := [3]) (by kernel_rfl) (by simp) ?_
      refine AllReadyH.cons rfl (fun K hK => ?_) AllReadyH.nil
      go_simp
      refine (deed_any _ _ _).mono ?_
      rintro e wd ⟨rfl, rfl⟩
      refine hK.out _ _ hHeld (fun hHeld2 => ?_)
      clear hK K
      try simp only [Act.put, List.setIfInBounds_toArray, List.set_cons_zero, List.set_cons_succ, List.getElem_toArray, List.getElem_cons_succ, List.getElem_cons_zero]
      refine wpAnyH_ready (rs := [5]) (by kernel_rfl) (by simp) ?_
      refine AllReadyH.cons rfl (fun K hK => ?_) AllReadyH.nil
      go_simp
      refine HM.out.mono ?_
      rintro e w5 ⟨rfl, hg5, hf5⟩
      refine hK.out _ _ (hf5.blk hHeld2 (gx_at HG1.out hHeld2)) (fun hHeld5 => ?_)
      clear hK K
      try simp only [Act.put, List.setIfInBounds_toArray, List.set_cons_zero, List.set_cons_succ, List.getElem_toArray, List.getElem_cons_succ, List.getElem_cons_zero]
      refine wpAnyH_done (by kernel_rfl) ?_ _
      have HG5 := Lib.hid hg5
      have HF5 := Lib.hid hf5
      clear hg5 hf5 hHeld hHeld2 hHeld5 hq1
      go_wp2_with fail
      go_roundg (gk - 1)
      case measure => omega
      case rel =>
        refine ⟨i + 1, (i : Int), by omega, by go_num, ?_, HF5.out.blk HR1.out (gx_low (by omega) (by omega)), gx_low2 HF1.out HF5.out (by omega) (by omega)⟩
        rw [HST.out]
        exact HG5.out
    · have hi1 : (l.length : Int) ≤ (i : Int) := by omega
      obtain rfl : i = l.length := by omega
      rw [List.take_length] at HG
      have hzn := zn_of l
      have hsz : size (ofS l) ≤ 100000 := by
        have := size_of l
        omega
      have HM := Lib.hid (finish_any wr _ _ _ _ HG.out hsz hzn)
      have HE := Lib.hid (show (endS (ofS l)).doc = ofD l from rfl)
      clear hR hg hf
      go_wp2_with fail
      refine HM.out.mono ?_
      rintro e w5 ⟨rfl, hg5, hf5⟩
      obtain ⟨vr, vz, vl, vd, hb, hr⟩ := hg5.open_
      have HD := Lib.hid (doc_of hr (show w.heap.size ≤ w.heap.size + 2 by omega))
      have HB5 := Lib.hid hb
      have HR5 := Lib.hid (hf5.blk HR.out (gx_low (by omega) (by omega)))
      have HF5 := Lib.hid (gx_low2 HF.out hf5 (by omega) (by omega))
      clear hg5 hf5 hb hr
      go_wp2_with (first
        | (refine wpList_load_blk 57 _ (w.heap.size + 1) 0 128 _ #[vr, vz, vl, vd] _ (by rfl) rfl rfl HB5.out Tryz.underlying57 rfl infoDoc (fun j hj => by have hj : j < 4 := hj; match j, hj with | 0, _ => rfl | 1, _ => rfl | 2, _ => rfl | 3, _ => rfl) ?_)
        | (refine wpList_store_blk 57 _ _ w.heap.size 0 57 _ #[vr, vz, vl, vd] #[vr, vz, vl, vd] (by rfl) rfl rfl rfl rfl HR5.out infoDoc (doc_one HD.out) (show 0 + 4 ≤ 4 by decide) rfl ?_
           intro w9 hf9 hb9
           have HE9 := Lib.hid hb9
           have HF9 := Lib.hid hf9
           clear hf9 hb9))
      (try simp only [Exit.inBlock, Exit.then])
      refine bodyPost_ret (res_of rfl HE9.out _ rfl) rfl ⟨vr, vz, vl, vd, rfl, ?_, HF5.out.fresh HF9.out (fun i e => by have e : i = w.heap.size := e; omega)⟩
      rw [← HE.out]
      exact doc_far HD.out HF9.out HR5.out
end Go.Proofs.YtodcnbejnchmhaaGreatDoor
namespace Go.Proofs.YtodcnbejnchmhaaGreatDoor
open Go.RowKit Go.Mem Go.Lin Go.WideShapes

instance : Inhabited LineL := ⟨lineZ⟩
end Go.Proofs.YtodcnbejnchmhaaGreatDoor
namespace Go.Proofs.YtodcnbejnchmhaaGreatDoor
open Go.RowKit Go.Mem Go.Lin Go.WideShapes

/-- numbers that an int can be, a text that a string can be -/
structure EdR (e : EdL) : Prop where
  l1 : inR e.l1
  c1 : inR e.c1
  l2 : inR e.l2
  c2 : inR e.c2
  s : e.s.length ≤ maxLen
def EdsAt (w : World) (A : Option Addr) (es : List EdL) : Prop := Rd w 5 A es.length (es.flatMap edL)
theorem EdsAt.kept {w w' : World} {A : Option Addr} {es : List EdL} (h : EdsAt w A es) (hf : Fr w w' (fun _ => False)) : EdsAt w' A es := Rd.fr h hf (fun _ _ _ _ h => h)
theorem EdsAt.at_ {w : World} {A : Option Addr} {es : List EdL} (h : EdsAt w A es) {i : Nat} (hi : i < es.length) : ∃ b off, A = some ⟨b, off, none⟩ ∧ ∀ j, j < (edC es[i]).size → w.cell? ⟨b, off + i * 5 + j, none⟩ = (edC es[i])[j]? := by
  obtain ⟨b, off, e, hc⟩ := rows_at edL_len h (List.getElem?_eq_getElem hi)
  refine ⟨b, off, e, fun j hj => ?_⟩
  rw [hc j hj]
  show (edC es[i]).toList[j]? = _
  simp
theorem cells_redit : Tryz.prog.cellsOf 37 = 5 := by kernel_rfl
theorem array5 {α : Type} {cs : Array α} (h : cs.size = 5) : ∃ c0 c1 c2 c3 c4, cs = #[c0, c1, c2, c3, c4] := by
  obtain ⟨l⟩ := cs
  match l, h with
  | [c0, c1, c2, c3, c4], _ => exact ⟨c0, c1, c2, c3, c4, rfl⟩
section
variable {H : Type} {enc : TypeId × Value → H} {w : World} {base : Nat} {spare : Nat → Bool} {held : Bool}
set_option maxRecDepth 100000 in
theorem open_ed {n : Nat} {c0 c1 c2 c3 c4 : Value} {y : DataW H × List MemPlace} (h : DataW.trod enc Tryz.prog w base spare held n 37 [c0, c1, c2, c3, c4] = some y) :
    ∃ x : EdL, c0 = intV x.l1 ∧ c1 = intV x.c1 ∧ c2 = intV x.l2 ∧ c3 = intV x.c2 ∧ c4 = strV x.s ∧ EdR x := by
  obtain ⟨xs, m, -, -, -, hlen, hf⟩ := DataW.trod_struct Tryz.underlying37 h
  obtain ⟨y0, g0⟩ := fld hlen hf 0 _ rfl
  simp only [List.getElem_toArray, List.getElem_cons_zero, cells_int, List.drop_zero, List.take_succ_cons, List.take_zero] at g0
  obtain ⟨a0, e0, l0⟩ := leaf_int g0
  obtain ⟨y1, g1⟩ := fld hlen hf 1 _ rfl
  simp only [List.getElem_toArray, List.getElem_cons_zero, List.getElem_cons_succ, cells_int, List.drop_succ_cons, List.drop_zero, List.take_succ_cons, List.take_zero] at g1
  obtain ⟨a1, e1, l1⟩ := leaf_int g1
  obtain ⟨y2, g2⟩ := fld hlen hf 2 _ rfl
  simp only [List.getElem_toArray, List.getElem_cons_zero, List.getElem_cons_succ, cells_int, List.drop_succ_cons, List.drop_zero, List.take_succ_cons, List.take_zero] at g2
  obtain ⟨a2, e2, l2⟩ := leaf_int g2
  obtain ⟨y3, g3⟩ := fld hlen hf 3 _ rfl
  simp only [List.getElem_toArray, List.getElem_cons_zero, List.getElem_cons_succ, cells_int, List.drop_succ_cons, List.drop_zero, List.take_succ_cons, List.take_zero] at g3
  obtain ⟨a3, e3, l3⟩ := leaf_int g3
  obtain ⟨y4, g4⟩ := fld hlen hf 4 _ rfl
  simp only [List.getElem_toArray, List.getElem_cons_zero, List.getElem_cons_succ, cells_str, List.drop_succ_cons, List.drop_zero, List.take_succ_cons, List.take_zero] at g4
  obtain ⟨a4, e4, l4⟩ := leaf_str g4
  exact ⟨⟨a0, a1, a2, a3, a4⟩, e0, e1, e2, e3, e4, ⟨l0, l1, l2, l3, l4⟩⟩
set_option maxRecDepth 100000 in
theorem open_edV {r : Reach} {b0 : Nat} {v : Value} {d : DataW H} {p : List MemPlace} (hv : Value.okWide Tryz.prog w r b0 37 v) (h : DataW.Trod enc Tryz.prog w base spare held 37 v d p) :
    ∃ x : EdL, v = edV x ∧ EdR x := by
  obtain ⟨cs, rfl, hsz⟩ := okWide_struct Tryz.underlying37 hv
  obtain ⟨c0, c1, c2, c3, c4, rfl⟩ := array5 (hsz.trans cells_redit)
  obtain ⟨fuel, hf⟩ := h
  obtain ⟨x, e0, e1, e2, e3, e4, l⟩ := open_ed (by simpa [Value.cells] using hf)
  exact ⟨x, by rw [e0, e1, e2, e3, e4]; rfl, l⟩
end
set_option maxRecDepth 100000 in
/-- a slice of edits that came in -/
theorem eds_in {H : Type} {enc : TypeId × Value → H} {w : World} {base fuel : Nat} {spare : Nat → Bool} {held : Bool} {a : Option Addr} {len cap : Nat} {x : DataW H × List MemPlace}
    (h : DataW.trod enc Tryz.prog w base spare held fuel 22 [Value.slice a len cap] = some x) :
    ∃ l : List EdL, EdsAt w a l ∧ l.length = len ∧ len ≤ maxLen ∧ ∀ e ∈ l, EdR e := by
  rcases Go.Deep.open_slice Tryz.underlying22 h with ⟨hcs, -⟩ | ⟨ad, l, c, m, n, D, Pl, hcs, hb, hl, hm, hmm, hx, hi⟩
  · simp at hcs
    obtain ⟨rfl, rfl, rfl⟩ := hcs
    exact ⟨[], ⟨rfl, fun h => absurd h (by simp)⟩, rfl, Nat.zero_le _, by simp⟩
  · simp at hcs
    obtain ⟨rfl, rfl, rfl⟩ := hcs
    have hlm : len ≤ m := by rw [hmm]; split <;> omega
    rw [cells_redit] at hi
    have each : ∀ i, i < len → ∃ e : EdL, (∀ j, j < 5 → w.cell? (ad.add (i * 5 + j)) = (edL e)[j]?) ∧ EdR e := by
      intro i hlt
      obtain ⟨cs, h1, h2⟩ := hi i (by omega)
      obtain ⟨-, hlen, hat⟩ := World.cells?_some h1
      obtain ⟨c0, c1, c2, c3, c4, e⟩ := array5 (cs := cs.toArray) (by simpa using hlen)
      have e : cs = [c0, c1, c2, c3, c4] := by simpa using congrArg Array.toList e
      subst e
      obtain ⟨x, e0, e1, e2, e3, e4, l⟩ := open_ed h2
      subst e0 e1 e2 e3 e4
      refine ⟨x, fun j hj => ?_, l⟩
      have k := hat j hj
      rw [Go.Deep.add_add] at k
      exact k
    obtain ⟨f, hf⟩ := Go.Deep.choose_lt each
    refine ⟨(List.range len).map f, ⟨?_, fun hpos => ?_⟩, by simp, by omega, ?_⟩
    · rw [flat_len edL 5 edL_len]
    · rw [List.length_map, List.length_range] at hpos
      have h0 := (hf 0 hpos).1 0 (by omega)
      obtain ⟨b, off, rfl⟩ : ∃ b off, ad = ⟨b, off, none⟩ := by
        obtain ⟨b, off, spot⟩ := ad
        cases spot with
        | none => exact ⟨b, off, rfl⟩
        | some s =>
          exfalso
          have h0 : w.cell? ((⟨b, off, some s⟩ : Addr).add (0 * 5 + 0)) = some (intV (f 0).l1) := h0
          simp [Addr.add, World.cell?] at h0
          split at h0 <;> simp at h0
      have hadd : ∀ j, (⟨b, off, none⟩ : Addr).add j = ⟨b, off + j, none⟩ := fun j => by unfold Addr.add; split <;> simp_all
      refine ⟨b, off, rfl, fun j u hu => ?_⟩
      have hj : j < len * 5 := by
        have := (List.getElem?_eq_some_iff.1 hu).1
        rw [flat_len edL 5 edL_len, List.length_map, List.length_range] at this
        exact this
      have h1 : ((List.range len).map f)[j / 5]? = some (f (j / 5)) := by
        rw [List.getElem?_map, List.getElem?_range (by omega)]
        rfl
      have h2 := flat_get edL 5 edL_len h1 (j % 5) (Nat.mod_lt _ (by omega))
      rw [show j / 5 * 5 + j % 5 = j by omega] at h2
      have h3 := (hf (j / 5) (by omega)).1 (j % 5) (Nat.mod_lt _ (by omega))
      rw [hadd, show j / 5 * 5 + j % 5 = j by omega] at h3
      rw [h3, ← h2, hu]
    · intro e he
      obtain ⟨i, hi, rfl⟩ := List.mem_map.1 he
      exact (hf i (List.mem_range.1 hi)).2
end Go.Proofs.YtodcnbejnchmhaaGreatDoor
namespace Go.Proofs.YtodcnbejnchmhaaGreatDoor
open Go.Rope hiding Bs
open Go.RowKit Go.Mem Go.Lin Go.Dcm

theorem make_func : ∀ (fn : Fn) (first cap : Array Value) (w : World), (Instr.makeFunc fn first cap).run Tryz.prog w = .ok (.func fn first cap) w := fun _ _ _ _ => rfl
abbrev offF (v : Value) : Value := .func (.func 51) #[v] #[]
abbrev lineF (v : Value) : Value := .func (.func 34) #[v] #[]
/-- the ways that stretch goes -/
def StrR (w : World) (f t k : Int) (e : Ending) (w' : World) : Prop := e = .returned (.tuple #[intV f, intV t, intV k]) ∧ Fr w w' (fun _ => False)
theorem stretch_no1 {w : World} {v x : Value} {l : Bs} {h : Nat} (r : S3.RopeAt w v x l h) (hl : l.length ≤ 20000) (e : EdL) (h1 : S3.offsetD l e.l1 e.c1 = (0, 2)) : Calls Tryz.prog 50 #[offF v, edV e] w (StrR w 0 0 2) := by
  obtain ⟨l1, c1, l2, c2, s⟩ := e
  have HO := Lib.hid (fun (W : World) (f : Fr w W (fun _ => False)) => S3.Offset_any (r.keep f) hl l1 c1 0 2 h1)
  clear r h1
  unfold edV edC
  go_enter Tryz.func50, Tryz.ntmps50
  go_wp2_with fail
  refine (HO.out _ (Fr.new _ _ _)).mono ?_
  rintro e w2 ⟨rfl, rfl⟩
  go_wp2_with fail
  go_ret3
  exact ⟨rfl, Fr.new _ _ _⟩
theorem stretch_no2 {w : World} {v x : Value} {l : Bs} {h : Nat} (r : S3.RopeAt w v x l h) (hl : l.length ≤ 20000) (e : EdL) (a : Nat) (h1 : S3.offsetD l e.l1 e.c1 = ((a : Int), 0)) (h2 : S3.offsetD l e.l2 e.c2 = (0, 2)) : Calls Tryz.prog 50 #[offF v, edV e] w (StrR w 0 0 2) := by
  obtain ⟨l1, c1, l2, c2, s⟩ := e
  have HO := Lib.hid (fun (W : World) (f : Fr w W (fun _ => False)) => S3.Offset_any (r.keep f) hl l1 c1 (a : Int) 0 h1)
  have HP := Lib.hid (fun (W : World) (f : Fr w W (fun _ => False)) => S3.Offset_any (r.keep f) hl l2 c2 0 2 h2)
  clear r h1 h2
  unfold edV edC
  go_enter Tryz.func50, Tryz.ntmps50
  go_wp2_with fail
  refine (HO.out _ (Fr.new _ _ _)).mono ?_
  rintro e w2 ⟨rfl, rfl⟩
  go_wp2_with fail
  refine (HP.out _ (Fr.new _ _ _)).mono ?_
  rintro e w3 ⟨rfl, rfl⟩
  go_wp2_with fail
  go_ret3
  exact ⟨rfl, Fr.new _ _ _⟩
theorem stretch_ok {w : World} {v x : Value} {l : Bs} {h : Nat} (r : S3.RopeAt w v x l h) (hl : l.length ≤ 20000) (e : EdL) (a b : Nat) (h1 : S3.offsetD l e.l1 e.c1 = ((a : Int), 0)) (h2 : S3.offsetD l e.l2 e.c2 = ((b : Int), 0)) : Calls Tryz.prog 50 #[offF v, edV e] w (StrR w a b 0) := by
  obtain ⟨l1, c1, l2, c2, s⟩ := e
  have HO := Lib.hid (fun (W : World) (f : Fr w W (fun _ => False)) => S3.Offset_any (r.keep f) hl l1 c1 (a : Int) 0 h1)
  have HP := Lib.hid (fun (W : World) (f : Fr w W (fun _ => False)) => S3.Offset_any (r.keep f) hl l2 c2 (b : Int) 0 h2)
  clear r h1 h2
  unfold edV edC
  go_enter Tryz.func50, Tryz.ntmps50
  go_wp2_with fail
  refine (HO.out _ (Fr.new _ _ _)).mono ?_
  rintro e w2 ⟨rfl, rfl⟩
  go_wp2_with fail
  refine (HP.out _ (Fr.new _ _ _)).mono ?_
  rintro e w3 ⟨rfl, rfl⟩
  go_wp2_with fail
  go_ret3
  exact ⟨rfl, Fr.new _ _ _⟩
/-- what changed answers -/
def chgD (l : Bs) (e : EdL) : Bs := if (editD l e).2 = 0 then (editD l e).1 else []
theorem changed_bad {w : World} {v : Value} (e : EdL) (HS : RowKit.Hid (∀ W, Fr w W (fun _ => False) → Calls Tryz.prog 50 #[offF v, edV e] W (StrR W 0 0 2))) : Calls Tryz.prog 32 #[v, edV e] w (S3.GivesR w [] 2) := by
  obtain ⟨l1, c1, l2, c2, s⟩ := e
  have hmf := make_func
  unfold edV edC at *
  go_enter Tryz.func32, Tryz.ntmps32
  go_wp2_with fail
  refine (HS.out _ (Fr.new _ _ _)).mono ?_
  rintro e w2 ⟨rfl, hf2⟩
  have HF2 := Lib.hid (ff0 (Fr.new w _ (fun _ => False)) hf2)
  clear hf2
  go_wp2_with fail
  go_ret2
  exact ⟨_, _, _, rfl, S3.RopeAt.nil _, HF2.out⟩
set_option maxRecDepth 100000 in
set_option maxHeartbeats 1600000 in
theorem changed_any {w : World} {v x : Value} {l : Bs} {h : Nat} (r : S3.RopeAt w v x l h) (hl : l.length ≤ 20000) (e : EdL) (hz : e.s.length ≤ 20100) : Calls Tryz.prog 32 #[v, edV e] w (S3.GivesR w (chgD l e) (editD l e).2) := by
  unfold chgD
  have hmf := make_func
  cases ed_way l e with
  | no1 h1 hd =>
    rw [hd]
    exact changed_bad e (Lib.hid fun W f => stretch_no1 (r.keep f) hl e h1)
  | no2 a h1 h2 hd =>
    rw [hd]
    exact changed_bad e (Lib.hid fun W f => stretch_no2 (r.keep f) hl e a h1 h2)
  | back a b h1 h2 h3 hd =>
    rw [hd]
    have HS := Lib.hid (fun (W : World) (f : Fr w W (fun _ => False)) => stretch_ok (r.keep f) hl e a b h1 h2)
    have HP := Lib.hid (fun (W : World) (f : Fr w W (fun _ => False)) => S3.Splice_any (r.keep f) hl (a : Int) (b : Int) e.s hz [] 2 h3)
    obtain ⟨l1, c1, l2, c2, s⟩ := e
    clear r h1 h2 h3 hd
    unfold edV edC at *
    go_enter Tryz.func32, Tryz.ntmps32
    go_wp2_with fail
    refine (HS.out _ (Fr.new _ _ _)).mono ?_
    rintro e w2 ⟨rfl, hf2⟩
    have c4 := hf2.cell0 (blkc (Blk.made w 39 #[intV l1, intV c1, intV l2, intV c2, strV s]) 4 _ rfl)
    have HF2 := Lib.hid (ff0 (Fr.new w _ (fun _ => False)) hf2)
    clear hf2
    go_wp2_with fail
    refine (HP.out _ HF2.out).mono ?_
    rintro e w3 ⟨v3, x3, h3, rfl, hr3, hf3⟩
    have HF3 := Lib.hid (ff0 HF2.out hf3)
    clear hf3 hr3
    go_wp2_with fail
    go_ret2
    exact ⟨_, _, _, rfl, S3.RopeAt.nil _, HF3.out⟩
  | large a b h1 h2 h3 hd =>
    rw [hd]
    have HS := Lib.hid (fun (W : World) (f : Fr w W (fun _ => False)) => stretch_ok (r.keep f) hl e a b h1 h2)
    have HP := Lib.hid (fun (W : World) (f : Fr w W (fun _ => False)) => S3.Splice_any (r.keep f) hl (a : Int) (b : Int) e.s hz [] 17 h3)
    obtain ⟨l1, c1, l2, c2, s⟩ := e
    clear r h1 h2 h3 hd
    unfold edV edC at *
    go_enter Tryz.func32, Tryz.ntmps32
    go_wp2_with fail
    refine (HS.out _ (Fr.new _ _ _)).mono ?_
    rintro e w2 ⟨rfl, hf2⟩
    have c4 := hf2.cell0 (blkc (Blk.made w 39 #[intV l1, intV c1, intV l2, intV c2, strV s]) 4 _ rfl)
    have HF2 := Lib.hid (ff0 (Fr.new w _ (fun _ => False)) hf2)
    clear hf2
    go_wp2_with fail
    refine (HP.out _ HF2.out).mono ?_
    rintro e w3 ⟨v3, x3, h3, rfl, hr3, hf3⟩
    have HF3 := Lib.hid (ff0 HF2.out hf3)
    clear hf3 hr3
    go_wp2_with fail
    go_ret2
    exact ⟨_, _, _, rfl, S3.RopeAt.nil _, HF3.out⟩
  | many a b t h1 h2 h3 ht hm hd =>
    rw [hd]
    have HS := Lib.hid (fun (W : World) (f : Fr w W (fun _ => False)) => stretch_ok (r.keep f) hl e a b h1 h2)
    have HP := Lib.hid (fun (W : World) (f : Fr w W (fun _ => False)) => S3.Splice_any (r.keep f) hl (a : Int) (b : Int) e.s hz t 0 h3)
    obtain ⟨l1, c1, l2, c2, s⟩ := e
    have hm1 : (400 : Int) < ((feeds t + 1 : Nat) : Int) := by omega
    clear r h1 h2 h3 hd
    unfold edV edC at *
    go_enter Tryz.func32, Tryz.ntmps32
    go_wp2_with fail
    refine (HS.out _ (Fr.new _ _ _)).mono ?_
    rintro e w2 ⟨rfl, hf2⟩
    have c4 := hf2.cell0 (blkc (Blk.made w 39 #[intV l1, intV c1, intV l2, intV c2, strV s]) 4 _ rfl)
    have HF2 := Lib.hid (ff0 (Fr.new w _ (fun _ => False)) hf2)
    clear hf2
    go_wp2_with fail
    refine (HP.out _ HF2.out).mono ?_
    rintro e w3 ⟨v3, x3, h3, rfl, hr3, hf3⟩
    have HF3 := Lib.hid (ff0 HF2.out hf3)
    have HL := Lib.hid (S3.Lines_any hr3 ht)
    clear hf3 hr3
    go_wp2_with fail
    refine HL.out.mono ?_
    rintro e w4 ⟨rfl, rfl⟩
    go_wp2_with fail
    go_ret2
    exact ⟨_, _, _, rfl, S3.RopeAt.nil _, HF3.out⟩
  | ok i j a b t hi hj h1 h2 h3 ht hm hd hs hab hij hc =>
    rw [hd]
    have HS := Lib.hid (fun (W : World) (f : Fr w W (fun _ => False)) => stretch_ok (r.keep f) hl e a b h1 h2)
    have HP := Lib.hid (fun (W : World) (f : Fr w W (fun _ => False)) => S3.Splice_any (r.keep f) hl (a : Int) (b : Int) e.s hz t 0 h3)
    obtain ⟨l1, c1, l2, c2, s⟩ := e
    have hm1 : ((feeds t + 1 : Nat) : Int) ≤ (400 : Int) := by omega
    clear r h1 h2 h3 hd hi hj hs hc
    unfold edV edC at *
    go_enter Tryz.func32, Tryz.ntmps32
    go_wp2_with fail
    refine (HS.out _ (Fr.new _ _ _)).mono ?_
    rintro e w2 ⟨rfl, hf2⟩
    have c4 := hf2.cell0 (blkc (Blk.made w 39 #[intV l1, intV c1, intV l2, intV c2, strV s]) 4 _ rfl)
    have HF2 := Lib.hid (ff0 (Fr.new w _ (fun _ => False)) hf2)
    clear hf2
    go_wp2_with fail
    refine (HP.out _ HF2.out).mono ?_
    rintro e w3 ⟨v3, x3, h3, rfl, hr3, hf3⟩
    have HF3 := Lib.hid (ff0 HF2.out hf3)
    have HL := Lib.hid (S3.Lines_any hr3 ht)
    have HR3 := Lib.hid hr3
    clear hf3 hr3
    go_wp2_with fail
    refine HL.out.mono ?_
    rintro e w4 ⟨rfl, rfl⟩
    go_wp2_with fail
    go_ret2
    exact ⟨_, _, _, rfl, HR3.out, HF3.out⟩
end Go.Proofs.YtodcnbejnchmhaaGreatDoor
namespace Go.Mem
open Go.RowKit
/- copy of elements of several cells -/
section
variable {P : Program}
theorem run_copy_many (w : World) (dT sT ty elem : TypeId) (k n : Nat) (g o dLen dCap : Nat) (a : Addr) (sLen sCap : Nat) (cur : Array Value) (t : TypeId) (cs : List Value)
    (hu : P.underlying dT = some (.slice elem)) (hs : (P.info? elem).map (·.size) = some k)
    (hg : Blk w g t cur) (hn : n = Nat.min sLen dLen) (hcs : cs.length = n * k)
    (hsrc : ∀ j v, cs[j]? = some v → w.cell? (a.add j) = some v) (hfit : o + cs.length ≤ cur.size) (h1 : ∀ v ∈ cs, v.oneCell' = true) :
    (Builtin.copy_ #[dT, sT] ty #[.slice (some ⟨g, o, none⟩) dLen dCap, .slice (some a) sLen sCap]).run P w =
      .ok (goInt n) (w.setRow g (cur.toList.take o ++ cs ++ cur.toList.drop (o + cs.length)).toArray) := by
  have hl := run_loadCells_list (P := P) w a cs hsrc
  have hst := run_storeCells_at P g o t cs 0 cur w hg (by simpa using hfit) h1
  cases hq : P.info? elem with
  | none => simp [hq] at hs
  | some i =>
    have hi : i.size = k := by simpa [hq] using hs
    rw [hcs] at hl
    simp [Builtin.copy_, run_underlying hu, Builtin.lenOf, Builtin.firstCells, sizeOf, typeInfo, hq, hi, ← hn, hl, hst]
theorem run_copy_zero (w : World) (dT sT ty elem : TypeId) (k : Nat) (d a : Option Addr) (dLen dCap sLen sCap : Nat) (hu : P.underlying dT = some (.slice elem)) (hs : (P.info? elem).map (·.size) = some k) (hn : 0 = Nat.min sLen dLen) :
    (Builtin.copy_ #[dT, sT] ty #[.slice d dLen dCap, .slice a sLen sCap]).run P w = .ok (goInt 0) w := by
  cases hq : P.info? elem with
  | none => simp [hq] at hs
  | some i =>
    have hl : ∀ (x : Addr), (loadCells x 0).run P w = .ok #[] w := fun x => by simpa using run_loadCells_list (P := P) w x [] (by simp)
    cases d <;> cases a <;> simp [Builtin.copy_, run_underlying hu, Builtin.lenOf, Builtin.firstCells, sizeOf, typeInfo, hq, ← hn, storeCells, hl]
theorem fr_row (w : World) (g : Nat) (t : TypeId) (cur cs : Array Value) (h : Blk w g t cur) : Fr w (w.setRow g cs) (· = g) ∧ Blk (w.setRow g cs) g t cs :=
  ⟨⟨rfl, rfl, rfl, by simp [World.setRow], fun k _ hk => setRow_other w g k cs (fun e => hk e)⟩, setRow_heap w g cur cs t (0, 0) h⟩
/-- n elements of k cells go over into the block g, from the cell off on -/
theorem copy_many (w : World) (dT sT ty elem : TypeId) (k n : Nat) (hu : P.underlying dT = some (.slice elem)) (hs : (P.info? elem).map (·.size) = some k)
    (dp sp : Option Addr) (dLen dCap sLen sCap : Nat) (g off : Nat) (cur : List Value) (t : TypeId) (hg : Blk w g t cur.toArray) (hn : n = Nat.min sLen dLen) (cs : List Value)
    (hpos : 0 < n → dp = some ⟨g, off, none⟩) (hr : Rd w k sp n cs) (hfit : off + cs.length ≤ cur.length) (h1 : ∀ v ∈ cs, v.oneCell' = true) :
    ∃ w', (Builtin.copy_ #[dT, sT] ty #[.slice dp dLen dCap, .slice sp sLen sCap]).run P w = .ok (goInt n) w' ∧ Fr w w' (· = g) ∧ Blk w' g t (splice cur off cs).toArray := by
  by_cases h0 : n = 0
  · subst h0
    have e : cs = [] := List.eq_nil_of_length_eq_zero (by have := hr.1; simpa using this)
    subst e
    exact ⟨w, run_copy_zero w dT sT ty elem k dp sp dLen dCap sLen sCap hu hs hn, Fr.refl _ _, by simpa [splice] using hg⟩
  · obtain rfl := hpos (by omega)
    obtain ⟨b, o, rfl, hc⟩ := hr.2 (by omega)
    have hf := fr_row w g t cur.toArray (cur.toArray.toList.take off ++ cs ++ cur.toArray.toList.drop (off + cs.length)).toArray hg
    refine ⟨_, run_copy_many w dT sT ty elem k n g off dLen dCap ⟨b, o, none⟩ sLen sCap cur.toArray t cs hu hs hg hn hr.1 (fun j v hj => ?_) (by simpa using hfit) h1, hf.1, ?_⟩
    · have := hc j v hj
      have hadd : (⟨b, o, none⟩ : Addr).add j = ⟨b, o + j, none⟩ := by unfold Addr.add; split <;> simp_all
      rw [hadd]
      exact this
    · have := hf.2
      simpa [splice] using this
theorem wpList_copy_many {w : World} {ops : Array Oper} {rest : List Oper} {o : Oper} {a : Act} {Q : Exit → Act → World → Prop} (hgd : o.guard = none) (d s : Operand) (dT sT : TypeId)
    (ho : o.op = .call { callee := .builtin .copy, args := #[d, s], argTypes := #[dT, sT] }) (elem : TypeId) (k n : Nat) (hu : P.underlying dT = some (.slice elem)) (hs : (P.info? elem).map (·.size) = some k)
    (dp sp : Option Addr) (dLen dCap sLen sCap : Nat) (hd : a.eval d = .slice dp dLen dCap) (hx : a.eval s = .slice sp sLen sCap) (g off : Nat) (cur : List Value) (t : TypeId) (hg : Blk w g t cur.toArray) (hn : n = Nat.min sLen dLen) (cs : List Value)
    (hpos : 0 < n → dp = some ⟨g, off, none⟩) (hr : Rd w k sp n cs) (hfit : off + cs.length ≤ cur.length) (h1 : ∀ v ∈ cs, v.oneCell' = true) (cur' : List Value) (hc : splice cur off cs = cur')
    (h : ∀ w', Fr w w' (· = g) → Blk w' g t cur'.toArray → wpList P ops Q rest (a.put o.dst (goInt n)) w') : wpList P ops Q (o :: rest) a w := by
  subst hc
  obtain ⟨w', hrun, hf, hb⟩ := copy_many (P := P) w dT sT o.type elem k n hu hs dp sp dLen dCap sLen sCap g off cur t hg hn cs hpos hr hfit h1
  refine wpList_plain hgd fun K hK => ?_
  unfold Oper.wp
  simp [execOp, ho, resolve, invoke, builtin, hd, hx, hrun, Result.andThen]
  exact hK _ _ (h w' hf hb)
end
end Go.Mem
namespace Go.Proofs.YtodcnbejnchmhaaGreatDoor
open Go.RowKit Go.Mem Go.Lin

theorem isDigit_any (c : UInt8) (w : World) : Calls Tryz.prog 183 #[.int .u8 (c.toNat : Int)] w fun e w' => e = .returned (.bool (Go.Kwd.digitB c)) ∧ w = w' := by
  have HX := Lib.hid (show Go.Kwd.digitB c = (decide ((48 : Int) ≤ (c.toNat : Int)) && decide ((c.toNat : Int) ≤ 57)) by unfold Go.Kwd.digitB; congr 1 <;> simp <;> omega)
  obtain ⟨x, hx⟩ : ∃ x, Go.Kwd.digitB c = x := ⟨_, rfl⟩
  rw [hx] at HX ⊢
  generalize (c.toNat : Int) = n at *
  clear hx
  by_cases h1 : (48 : Int) ≤ n
  all_goals by_cases h2 : n ≤ 57
  all_goals
    go_enter Tryz.func183, Tryz.ntmps183
    go_wp2_with fail
    go_ret
    exact ⟨by rw [HX.out]; simp [h1, h2], rfl⟩
theorem isLetterSign_any (c : UInt8) (w : World) : Calls Tryz.prog 198 #[.int .u8 (c.toNat : Int)] w fun e w' => e = .returned (.bool (letB c)) ∧ w = w' := by
  have HX := Lib.hid (show letB c = ((decide ((97 : Int) ≤ (c.toNat : Int)) && decide ((c.toNat : Int) ≤ 122)) || (decide ((65 : Int) ≤ (c.toNat : Int)) && decide ((c.toNat : Int) ≤ 90)) || Go.Kwd.digitB c || (c.toNat : Int) == 43) by
    have h43 : (c == 43) = ((c.toNat : Int) == 43) := S8.eq_byte c 43
    unfold letB Go.Kwd.letterB
    rw [h43]
    congr 3
    · congr 1 <;> simp <;> omega
    · congr 1 <;> simp <;> omega)
  have HD := Lib.hid (isDigit_any c w)
  obtain ⟨x, hx⟩ : ∃ x, letB c = x := ⟨_, rfl⟩
  rw [hx] at HX ⊢
  obtain ⟨z, hz⟩ : ∃ z, Go.Kwd.digitB c = z := ⟨_, rfl⟩
  rw [hz] at HX HD
  generalize (c.toNat : Int) = n at *
  clear hx hz
  by_cases h0 : 97 ≤ n ∧ n ≤ 122
  · obtain ⟨h1, h2⟩ := h0
    go_enter Tryz.func198, Tryz.ntmps198
    go_wp2_with fail
    go_ret
    exact ⟨by rw [HX.out]; simp [h1, h2] <;> omega, rfl⟩
  by_cases h0 : 65 ≤ n ∧ n ≤ 90
  · obtain ⟨h3, h4⟩ := h0
    have h1 : ¬ 97 ≤ n := by omega
    go_enter Tryz.func198, Tryz.ntmps198
    go_wp2_with fail
    go_ret
    exact ⟨by rw [HX.out]; simp [h3, h4] <;> omega, rfl⟩
  have hr : 122 < n ∨ (90 < n ∧ n < 97) ∨ n < 65 := by omega
  rcases hr with hr | hr | hr
  · have h1 : 97 ≤ n := by omega
    have h2 : ¬ n ≤ 122 := by omega
    have h3 : 65 ≤ n := by omega
    have h4 : ¬ n ≤ 90 := by omega
    clear hr
    cases z
    · cases h5 : (n == 43)
      all_goals
        go_enter Tryz.func198, Tryz.ntmps198
        go_wp2_with fail
        refine HD.out.mono ?_
        rintro e w2 ⟨rfl, rfl⟩
        go_wp2_with fail
        go_ret
        exact ⟨by rw [HX.out]; simp [h1, h2, h3, h4, h5] <;> omega, rfl⟩
    · skip
      go_enter Tryz.func198, Tryz.ntmps198
      go_wp2_with fail
      refine HD.out.mono ?_
      rintro e w2 ⟨rfl, rfl⟩
      go_wp2_with fail
      go_ret
      exact ⟨by rw [HX.out]; simp [h1, h3] <;> omega, rfl⟩
  · have h1 : ¬ 97 ≤ n := by omega
    have h3 : 65 ≤ n := by omega
    have h4 : ¬ n ≤ 90 := by omega
    clear hr
    cases z
    · cases h5 : (n == 43)
      all_goals
        go_enter Tryz.func198, Tryz.ntmps198
        go_wp2_with fail
        refine HD.out.mono ?_
        rintro e w2 ⟨rfl, rfl⟩
        go_wp2_with fail
        go_ret
        exact ⟨by rw [HX.out]; simp [h3, h4, h5] <;> omega, rfl⟩
    · skip
      go_enter Tryz.func198, Tryz.ntmps198
      go_wp2_with fail
      refine HD.out.mono ?_
      rintro e w2 ⟨rfl, rfl⟩
      go_wp2_with fail
      go_ret
      exact ⟨by rw [HX.out]; simp [h3] <;> omega, rfl⟩
  · have h1 : ¬ 97 ≤ n := by omega
    have h3 : ¬ 65 ≤ n := by omega
    clear hr
    cases z
    · cases h5 : (n == 43)
      all_goals
        go_enter Tryz.func198, Tryz.ntmps198
        go_wp2_with fail
        refine HD.out.mono ?_
        rintro e w2 ⟨rfl, rfl⟩
        go_wp2_with fail
        go_ret
        exact ⟨by rw [HX.out]; simp [h5] <;> omega, rfl⟩
    · skip
      go_enter Tryz.func198, Tryz.ntmps198
      go_wp2_with fail
      refine HD.out.mono ?_
      rintro e w2 ⟨rfl, rfl⟩
      go_wp2_with fail
      go_ret
      exact ⟨by rw [HX.out]; simp <;> omega, rfl⟩
theorem isFormatSign_any (c : UInt8) (w : World) : Calls Tryz.prog 203 #[.int .u8 (c.toNat : Int)] w fun e w' => e = .returned (.bool (signB c)) ∧ w = w' := by
  have HX := Lib.hid (show signB c = (letB c || (c.toNat : Int) == 45) by unfold signB; rw [S8.eq_byte]; rfl)
  have HS := Lib.hid (isLetterSign_any c w)
  obtain ⟨x, hx⟩ : ∃ x, signB c = x := ⟨_, rfl⟩
  rw [hx] at HX ⊢
  obtain ⟨y, hy⟩ : ∃ y, letB c = y := ⟨_, rfl⟩
  rw [hy] at HX HS
  generalize (c.toNat : Int) = n at *
  clear hx hy
  cases y
  · cases h1 : (n == 45)
    all_goals
      go_enter Tryz.func203, Tryz.ntmps203
      go_wp2_with fail
      refine HS.out.mono ?_
      rintro e w2 ⟨rfl, rfl⟩
      go_wp2_with fail
      go_ret
      exact ⟨by rw [HX.out]; simp [h1], rfl⟩
  · go_enter Tryz.func203, Tryz.ntmps203
    go_wp2_with fail
    refine HS.out.mono ?_
    rintro e w2 ⟨rfl, rfl⟩
    go_wp2_with fail
    go_ret
    exact ⟨by rw [HX.out]; simp, rfl⟩
theorem unless_any (b : Bool) (k : Int) (w : World) : Calls Tryz.prog 172 #[.bool b, intV k] w fun e w' => e = .returned (intV (if b = true then 0 else k)) ∧ w = w' := by
  cases b
  all_goals
    go_enter Tryz.func172, Tryz.ntmps172
    go_wp2_with fail
    go_ret
    exact ⟨rfl, rfl⟩
theorem fits_any (l : Bs) (m : Int) (w : World) (x : Bool) (hx : (decide (1 ≤ l.length) && decide ((l.length : Int) ≤ m)) = x) : Calls Tryz.prog 196 #[strV l, intV m] w fun e w' => e = .returned (.bool x) ∧ w = w' := by
  have HX := Lib.hid hx
  clear hx
  by_cases h1 : (1 : Int) ≤ (l.length : Int)
  · by_cases h2 : (l.length : Int) ≤ m
    · have h3 : decide (1 ≤ l.length) = true := decide_eq_true (by omega)
      have hf : true = x := by rw [← HX.out, h3]; simp [h2]
      subst hf
      clear HX h3
      go_enter Tryz.func196, Tryz.ntmps196
      go_wp2_with fail
      go_ret
      exact ⟨by simp, rfl⟩
    · have hf : false = x := by rw [← HX.out]; simp [h2]
      subst hf
      clear HX
      go_enter Tryz.func196, Tryz.ntmps196
      go_wp2_with fail
      go_ret
      exact ⟨by simp, rfl⟩
  · have h3 : decide (1 ≤ l.length) = false := decide_eq_false (by omega)
    have hf : false = x := by rw [← HX.out, h3]; rfl
    subst hf
    clear HX h3
    go_enter Tryz.func196, Tryz.ntmps196
    go_wp2_with fail
    go_ret
    exact ⟨by simp, rfl⟩
theorem all_at (s : ByteArray) (E : UInt8 → Bool) : s.data.toList.all E = true ↔ ∀ j (h : j < s.size), E s[j] = true := by
  rw [List.all_eq_true]
  constructor
  · intro h k hk
    exact h _ (List.getElem_mem (by rw [S8.bytes_len]; exact hk))
  · intro h x hx
    obtain ⟨k, hk, e⟩ := List.getElem_of_mem hx
    rw [← e]
    exact h k (by rw [S8.bytes_len] at hk; exact hk)
theorem conL_any (s : ByteArray) (w : World) (hs : s.size ≤ 1000000) (x : Bool) (hx : s.data.toList.all letB = x) :
    Calls Tryz.prog 197 #[.string s, .func (.func 198) #[] #[]] w fun e w' => e = .returned (.bool x) ∧ w = w' := by
  have HX := Lib.hid (all_at s letB)
  rw [hx] at HX
  clear hx
  go_enter Tryz.func197, Tryz.ntmps197
  go_wp2_with fail
  go_loopg [5, 8] s.size (fun g _ v8 wr => ∃ k : Nat, k + g = s.size ∧ v8 = .int .i64 (k : Int) ∧ (∀ j (h : j < s.size), j < k → letB s[j] = true) ∧ w = wr)
  case atStart => exact ⟨0, by omega, rfl, fun j _ h => absurd h (by omega), rfl⟩
  case round =>
    obtain ⟨k, hk, rfl, hall, rfl⟩ := hrel
    have HA := Lib.hid hall
    clear hall
    by_cases hlt : k < s.size
    · have i0 : (0 : Int) ≤ (k : Int) := by omega
      have i1 : (k : Int) < (s.size : Int) := by omega
      obtain ⟨z, hz⟩ : ∃ z, letB s[k] = z := ⟨_, rfl⟩
      have HE := Lib.hid (isLetterSign_any s[k] w)
      have HE := Lib.hid (show Calls Tryz.prog 198 #[.int .u8 (s[k].toNat : Int)] w fun e w' => e = .returned (.bool z) ∧ w = w' by rw [← hz]; exact HE.out)
      have HZ := Lib.hid hz
      clear hz
      cases z with
      | true =>
        go_wp2_with fail
        refine HE.out.mono ?_
        rintro e w2 ⟨rfl, rfl⟩
        go_wp2_with fail
        go_roundg (s.size - (k + 1))
        case measure => omega
        case rel => exact ⟨k + 1, by omega, by go_num, fun j h hj => by
          by_cases e : j = k
          · subst e; exact HZ.out
          · exact HA.out j h (by omega), rfl⟩
      | false =>
        have hf : x = false := by
          rw [Bool.eq_false_iff]
          intro e
          have := HX.out.1 e k hlt
          rw [HZ.out] at this
          cases this
        subst hf
        go_wp2_with fail
        refine HE.out.mono ?_
        rintro e w2 ⟨rfl, rfl⟩
        go_wp2_with fail
        go_ret
        exact ⟨rfl, rfl⟩
    · have hf : x = true := HX.out.2 (fun j h => HA.out j h (by omega))
      subst hf
      have hk' : k = s.size := by omega
      subst hk'
      go_wp2_with fail
      go_ret
      exact ⟨rfl, rfl⟩
theorem conF_any (s : ByteArray) (w : World) (hs : s.size ≤ 1000000) (x : Bool) (hx : s.data.toList.all signB = x) :
    Calls Tryz.prog 197 #[.string s, .func (.func 203) #[] #[]] w fun e w' => e = .returned (.bool x) ∧ w = w' := by
  have HX := Lib.hid (all_at s signB)
  rw [hx] at HX
  clear hx
  go_enter Tryz.func197, Tryz.ntmps197
  go_wp2_with fail
  go_loopg [5, 8] s.size (fun g _ v8 wr => ∃ k : Nat, k + g = s.size ∧ v8 = .int .i64 (k : Int) ∧ (∀ j (h : j < s.size), j < k → signB s[j] = true) ∧ w = wr)
  case atStart => exact ⟨0, by omega, rfl, fun j _ h => absurd h (by omega), rfl⟩
  case round =>
    obtain ⟨k, hk, rfl, hall, rfl⟩ := hrel
    have HA := Lib.hid hall
    clear hall
    by_cases hlt : k < s.size
    · have i0 : (0 : Int) ≤ (k : Int) := by omega
      have i1 : (k : Int) < (s.size : Int) := by omega
      obtain ⟨z, hz⟩ : ∃ z, signB s[k] = z := ⟨_, rfl⟩
      have HE := Lib.hid (isFormatSign_any s[k] w)
      have HE := Lib.hid (show Calls Tryz.prog 203 #[.int .u8 (s[k].toNat : Int)] w fun e w' => e = .returned (.bool z) ∧ w = w' by rw [← hz]; exact HE.out)
      have HZ := Lib.hid hz
      clear hz
      cases z with
      | true =>
        go_wp2_with fail
        refine HE.out.mono ?_
        rintro e w2 ⟨rfl, rfl⟩
        go_wp2_with fail
        go_roundg (s.size - (k + 1))
        case measure => omega
        case rel => exact ⟨k + 1, by omega, by go_num, fun j h hj => by
          by_cases e : j = k
          · subst e; exact HZ.out
          · exact HA.out j h (by omega), rfl⟩
      | false =>
        have hf : x = false := by
          rw [Bool.eq_false_iff]
          intro e
          have := HX.out.1 e k hlt
          rw [HZ.out] at this
          cases this
        subst hf
        go_wp2_with fail
        refine HE.out.mono ?_
        rintro e w2 ⟨rfl, rfl⟩
        go_wp2_with fail
        go_ret
        exact ⟨rfl, rfl⟩
    · have hf : x = true := HX.out.2 (fun j h => HA.out j h (by omega))
      subst hf
      have hk' : k = s.size := by omega
      subst hk'
      go_wp2_with fail
      go_ret
      exact ⟨rfl, rfl⟩
end Go.Proofs.YtodcnbejnchmhaaGreatDoor
