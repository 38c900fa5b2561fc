import Derived.Test.YtlfjknndkjgciaaGreatDoorYd48
set_option maxRecDepth 100000
set_option maxHeartbeats 16000000
namespace Go.Proofs.YtlfjknndkjgciaaGreatDoor
open _root_.Go.Proofs.Tryz
open Go.RowKit Go.Mem Go.Lin Go.Dcm
namespace R
open _root_.Go.Proofs.Tryz
/-- the document at D holds the state s -/
structure St (W0 W : World) (D B : Nat) (vr vz vl vd : Value) (s : StL) : Prop where
 lt : D < B
 b : Blk W D 31 #[vr,vz,vl,vd]
 g : GR W B vr vz vl vd s
 f : Fr W0 W (fun i => D ≤ i)
theorem St.kept {W0 W W' : World} {D B : Nat} {vr vz vl vd : Value} {s : StL} (h : St W0 W D B vr vz vl vd s) (hf : Fr W W' (fun _ => False)) : St W0 W' D B vr vz vl vd s :=
 ⟨h.lt,hf.blk h.b (fun h => h),h.g.kept hf,h.f.trans hf (fun _ _ h => h) (fun _ _ h => h.elim)⟩
theorem ge_tb {W0 W W9 W' : World} {D B : Nat} {e : TypeId} (hD : D < B) (h : Fr W0 W (fun i => D ≤ i)) (hf9 : Fr W W9 (TB B e W)) (hs : Fr W9 W' (fun i => i = D)) : Fr W0 W' (fun i => D ≤ i) :=
 Qc1 h (Qc1 (hf9.mono fun _ _ h => by have := h.1; omega) (hs.mono fun i _ h => by have h : i = D := h; omega))
theorem QgG {X : Type} {W9 W' : World} {D B' : Nat} {e : TypeId} {k : Nat} {f : X → List Value} {v : Value} {l : List X} (h : Own W9 B' e k f v l) (hs : Fr W9 W' (fun i => i = D)) (hD : D < B') : Own W' B' e k f v l := QfE h hs hD
theorem zs_d {w w' : World} {D B : Nat} {v : Value} {zs : List ZoneL} (h : ZsAt w B v zs) (hf : Fr w w' (fun i => i = D)) (hg : D < B) : ZsAt w' B v zs :=
 h.fr hf (fun _ _ hi _ hx => by omega) (fun _ _ hi _ hx => by omega) (fun _ _ hi _ hx => by omega)
theorem St.push_d {W0 W W9 W' : World} {D B : Nat} {vr vz vl vd v9 : Value} {s s' : StL} (h : St W0 W D B vr vz vl vd s) (hf9 : Fr W W9 (TB B 65 W)) (ho : Own W9 B 65 4 QcM v9 s'.diags) (hs : Fr W9 W' (fun i => i = D)) (hb : Blk W' D 31 #[vr,vz,vl,v9])
  (e1 : s'.rules = s.rules) (e2 : s'.zones = s.zones) (e3 : s'.links = s.links) : St W0 W' D B vr vz vl v9 s' :=
 ⟨h.lt,hb,⟨e1 ▸ QgG (Qas h.g.r hf9 (by decide)) hs h.lt,e2 ▸ zs_d (R.QiD h.g.z hf9 (by decide) (by decide) (by decide)) hs h.lt,e3 ▸ QgG (Qas h.g.l hf9 (by decide)) hs h.lt,QgG ho hs h.lt⟩,ge_tb h.lt h.f hf9 hs⟩
theorem St.push_r {W0 W W9 W' : World} {D B : Nat} {vr vz vl vd v9 : Value} {s s' : StL} (h : St W0 W D B vr vz vl vd s) (hf9 : Fr W W9 (TB B 61 W)) (ho : Own W9 B 61 12 Qbu v9 s'.rules) (hs : Fr W9 W' (fun i => i = D)) (hb : Blk W' D 31 #[v9,vz,vl,vd])
  (e1 : s'.diags = s.diags) (e2 : s'.zones = s.zones) (e3 : s'.links = s.links) : St W0 W' D B v9 vz vl vd s' :=
 ⟨h.lt,hb,⟨QgG ho hs h.lt,e2 ▸ zs_d (R.QiD h.g.z hf9 (by decide) (by decide) (by decide)) hs h.lt,e3 ▸ QgG (Qas h.g.l hf9 (by decide)) hs h.lt,e1 ▸ QgG (Qas h.g.d hf9 (by decide)) hs h.lt⟩,ge_tb h.lt h.f hf9 hs⟩
theorem St.push_l {W0 W W9 W' : World} {D B : Nat} {vr vz vl vd v9 : Value} {s s' : StL} (h : St W0 W D B vr vz vl vd s) (hf9 : Fr W W9 (TB B 63 W)) (ho : Own W9 B 63 3 Qcp v9 s'.links) (hs : Fr W9 W' (fun i => i = D)) (hb : Blk W' D 31 #[vr,vz,v9,vd])
  (e1 : s'.rules = s.rules) (e2 : s'.zones = s.zones) (e3 : s'.diags = s.diags) : St W0 W' D B vr vz v9 vd s' :=
 ⟨h.lt,hb,⟨e1 ▸ QgG (Qas h.g.r hf9 (by decide)) hs h.lt,e2 ▸ zs_d (R.QiD h.g.z hf9 (by decide) (by decide) (by decide)) hs h.lt,QgG ho hs h.lt,e3 ▸ QgG (Qas h.g.d hf9 (by decide)) hs h.lt⟩,ge_tb h.lt h.f hf9 hs⟩
theorem QgQ {X : Type} {W : World} {base g : Nat} {e : TypeId} {k : Nat} {f : X → List Value} {x : X} {cs : Array Value} (hb : base ≤ g) (hk : Blk W g e cs) (hc : cs.toList = f x) (hs : cs.size = k) : Own W base e k f (.slice (some ⟨g,0,none⟩) 1 1) [x] := by
 have hl : cs.toList.length = k := by simpa using hs
 refine ⟨by simp [← hc,hl],.inr ⟨g,1,cs,rfl,hb,hk,Nat.le_refl _,by unfold maxLen; omega,by omega,?_⟩⟩;show cs.toList.take _ = [x].flatMap f;rw [show [x].length * k = cs.toList.length by simp [hl],List.take_length];simp [hc]
theorem St.push_z {W0 W W9 W' : World} {D B : Nat} {vr vz vl vd v9 : Value} {s s' : StL} {zv : List ZV} {z : ZV} (h : St W0 W D B vr vz vl vd s) (hz : zv.map (·.1) = s.zones) (hall : ∀ y ∈ zv,ZAt W B y) (hf9 : Fr W W9 (TB B 69 W)) (ho : Own W9 B 69 3 Qa1 v9 (zv ++ [z])) (hza : ZAt W9 W.heap.size z) (hs : Fr W9 W' (fun i => i = D)) (hb : Blk W' D 31 #[vr,v9,vl,vd])
  (e1 : s'.rules = s.rules) (e2 : s'.zones = s.zones ++ [z.1]) (e3 : s'.links = s.links) (e4 : s'.diags = s.diags) : St W0 W' D B vr v9 vl vd s' :=
 ⟨h.lt,hb,⟨e1 ▸ QgG (Qas h.g.r hf9 (by decide)) hs h.lt,by rw [e2,← hz]; exact zs_d (QdL hall hf9 ho hza h.g.base) hs h.lt,e3 ▸ QgG (Qas h.g.l hf9 (by decide)) hs h.lt,e4 ▸ QgG (Qas h.g.d hf9 (by decide)) hs h.lt⟩,ge_tb h.lt h.f hf9 hs⟩
theorem QoF {w : World} {q : Nat} {cs : Array Value} (hs : cs.size = 4) (hb : Blk w q 31 cs) (tmps : Array Value) (hp : tmps.getD 2 undef = .pointer (some ⟨q,0,none⟩)) : (results f14 tmps).run Tryz.prog w = .ok (.agg cs) w :=
 results_cell_row (P := Tryz.prog) (fn := f14) (p := 2) (ty := 31) rfl tmps _ q 31 cs (0,0) _ hp hb underlying31 rfl (by rw [hs]; exact Qc0)
theorem Qld : (Tryz.prog.info? 67).map (·.size) = some 1 := by kernel_rfl
theorem Qlc : (Tryz.prog.info? 66).map (·.size) = some 1 := by kernel_rfl
theorem QbH {w w' : World} {B : Nat} {e t : TypeId} {q : Nat} {cs : Array Value} (h : Blk w q t cs) (hf : Fr w w' (TB B e w)) (hne : t ≠ e) : Blk w' q t cs := hf.blk h fun hx => hne (Qal h hx.2.choose_spec)
theorem Qgm {w w' : World} {D : Nat} {t t' : TypeId} {q : Nat} {cs cs' : Array Value} (h : Blk w q t cs) (hd : Blk w D t' cs') (hf : Fr w w' (fun i => i = D)) (hne : t ≠ t') : Blk w' q t cs := hf.blk h fun hx => by
 have hx : q = D := hx;subst hx;exact hne (Qal h hd)
end R
open R
namespace R
open _root_.Go.Proofs.Tryz
/-- while an era is told of the last zone: what has turned since W2,the rows,the variable q -/
structure MZ (W2 W : World) (M q : Nat) (nm : Bs) (ve vn ue un : Value) (es : List EraL) (ls : List Int) : Prop where
 f : Fr W2 W (fun i => TB M 55 W2 i ∨ TB M 3 W2 i ∨ i = q)
 e : Own W M 55 13 eraL ve es
 l : Own W M 3 1 intL vn ls
 b : Blk W q 69 #[strV nm,ue,un]
theorem Qo6 {W2 W W9 : World} {M q : Nat} {e : TypeId} (he : e = 55 ∨ e = 3) (h : Fr W2 W (fun i => TB M 55 W2 i ∨ TB M 3 W2 i ∨ i = q)) (hf : Fr W W9 (TB M e W)) : Fr W2 W9 (fun i => TB M 55 W2 i ∨ TB M 3 W2 i ∨ i = q) := by
 refine ⟨hf.os.trans h.os,hf.tape.trans h.tape,hf.output.trans h.output,Nat.le_trans h.size hf.size,fun i hi hn => ?_⟩;have e1 := h.block i hi hn;refine (hf.block i (Nat.lt_of_lt_of_le hi h.size) (fun hx => hn ?_)).trans e1;obtain ⟨h1,cs,h2⟩ := hx;have h2 : Blk W2 i e cs := by unfold Blk at h2 ⊢; rw [← e1]; exact h2
 rcases he with rfl | rfl
 ·exact .inl ⟨h1,cs,h2⟩
 ·exact .inr (.inl ⟨h1,cs,h2⟩)
theorem MZ.kept {W2 W W' : World} {M q : Nat} {nm : Bs} {ve vn ue un : Value} {es : List EraL} {ls : List Int} (h : MZ W2 W M q nm ve vn ue un es ls) (hf : Fr W W' (fun _ => False)) : MZ W2 W' M q nm ve vn ue un es ls :=
 ⟨h.f.trans hf (fun _ _ h => h) (fun _ _ h => h.elim),h.e.kept hf,h.l.kept hf,hf.blk h.b (fun h => h)⟩
theorem MZ.era {W2 W W9 : World} {M q : Nat} {nm : Bs} {ve vn ue un v9 : Value} {es es9 : List EraL} {ls : List Int} (h : MZ W2 W M q nm ve vn ue un es ls) (hf : Fr W W9 (TB M 55 W)) (ho : Own W9 M 55 13 eraL v9 es9) : MZ W2 W9 M q nm v9 vn ue un es9 ls :=
 ⟨Qo6 (.inl rfl) h.f hf,ho,Qas h.l hf (by decide),QbH h.b hf (by decide)⟩
theorem MZ.int {W2 W W9 : World} {M q : Nat} {nm : Bs} {ve vn ue un v9 : Value} {es : List EraL} {ls ls9 : List Int} (h : MZ W2 W M q nm ve vn ue un es ls) (hf : Fr W W9 (TB M 3 W)) (ho : Own W9 M 3 1 intL v9 ls9) : MZ W2 W9 M q nm ve v9 ue un es ls9 :=
 ⟨Qo6 (.inr rfl) h.f hf,Qas h.e hf (by decide),ho,QbH h.b hf (by decide)⟩
theorem Qnk {X : Type} {w w' : World} {B q : Nat} {e t : TypeId} {k : Nat} {f : X → List Value} {v : Value} {l : List X} {cs : Array Value} (h : Own w B e k f v l) (hq : Blk w q t cs) (hf : Fr w w' (fun i => i = q)) (hne : e ≠ t) : Own w' B e k f v l :=
 Qel h hf fun i cs' _ hb e => by
  have e : i = q := e;subst e;exact hne (Qal hb hq)
theorem MZ.put {W2 W W9 : World} {M q : Nat} {nm : Bs} {ve vn ue un ue9 un9 : Value} {es : List EraL} {ls : List Int} (h : MZ W2 W M q nm ve vn ue un es ls) (hf : Fr W W9 (fun i => i = q)) (hb : Blk W9 q 69 #[strV nm,ue9,un9]) : MZ W2 W9 M q nm ve vn ue9 un9 es ls :=
 ⟨h.f.trans hf (fun _ _ h => h) (fun _ _ h => .inr (.inr h)),Qnk h.e h.b hf (by decide),Qnk h.l h.b hf (by decide),hb⟩
theorem QnX {w W6 : World} {B bz n cap : Nat} {a : List ZV} {y z : ZV} {C : Array Value} (h : Own w B 69 3 Qa1 (.slice (some ⟨bz,0,none⟩) n cap) (a ++ [y])) (hn : n = a.length + 1) (hb : Blk w bz 69 C) (hb6 : Blk W6 bz 69 (Qbx C (a.length * 3) (Qa1 z))) : Own W6 B 69 3 Qa1 (.slice (some ⟨bz,0,none⟩) n cap) (a ++ [z]) := by
 subst hn;have hla := Qdj Qa1 3 QcF a;refine ⟨by rw [Qdj Qa1 3 QcF],?_⟩;rcases h.2 with ⟨h',_⟩ | ⟨g',cap',cur,h',hbb,hg,hnc,hcm,hcs,ht⟩
 ·simp at h'
 ·injection h' with h1 h2 h3;injection h1 with h1;injection h1 with h1;subst h1 h3;have hC : cur = C := by
   have hg : Blk w bz 69 cur := hg;unfold Blk at hg hb;rw [hg] at hb;injection hb with hb;injection hb with hb
  subst hC;rw [List.length_append] at hnc ht;have hzl : (Qa1 z).length = 3 := rfl;have hfit : a.length * 3 + (Qa1 z).length ≤ cur.size := by
   rw [hcs,hzl];have := Nat.mul_le_mul_right 3 hnc;simp only [List.length_cons,List.length_nil] at this;omega
  have hms : (Qbx cur (a.length * 3) (Qa1 z)).size = cur.size := by
   have := congrArg List.length (QfZ (Qa1 z) (a.length * 3) cur hfit);simp only [List.length_append,List.length_take,List.length_drop,Array.length_toList] at this;rw [this];omega
  refine .inr ⟨bz,cap,_,by simp,hbb,hb6,by simpa using hnc,hcm,by rw [hms]; exact hcs,?_⟩;rw [QfZ _ _ _ hfit,List.length_append,List.flatMap_append];have h0 : cur.toList.take (a.length * 3) = a.flatMap Qa1 := by
   have := congrArg (List.take (a.length * 3)) ht;rw [List.take_take,Nat.min_eq_left (by simp only [List.length_cons,List.length_nil]; omega),List.flatMap_append,← hla,List.take_left] at this;rw [← hla];exact this
  rw [h0,show [z].length = 1 from rfl,show [z].flatMap Qa1 = Qa1 z by simp,← List.append_assoc,List.take_left' (by rw [List.length_append,hla,hzl]; omega)]
theorem St.more {W0 W2 W5 W6 : World} {D B M q bz cap : Nat} {a : List ZV} {y : ZV} {vr vz vl vd ve vn ue un : Value} {es : List EraL} {ls : List Int} {nm : Bs} {s s' : StL} {C : Array Value} (h : St W0 W2 D B vr vz vl vd s) (hO : OpenZ W2 B M bz cap a y vr vl vd s) (hz : vz = .slice (some ⟨bz,0,none⟩) (a.length + 1) cap) (hq : W0.heap.size ≤ q) (hDW : D < W0.heap.size) (hqb : bz ≠ q) (hqt : B ≤ q) (hqo : Blk W2 q 69 #[strV nm,ue,un])
  {uf ug : Value} (hM : MZ W2 W5 M q nm ve vn uf ug es ls) (hf : Fr W5 W6 (fun i => i = bz)) (hC : Blk W5 bz 69 C) (hb : Blk W6 bz 69 (Qbx C (a.length * 3) [strV nm,ve,vn]))
  (e1 : s'.rules = s.rules) (e2 : s'.zones = a.map (·.1) ++ [⟨nm,es,ls⟩]) (e3 : s'.links = s.links) (e4 : s'.diags = s.diags) : St W0 W6 D B vr vz vl vd s' := by
 have hD := h.lt;have hMB := hO.hB
 -- rows of other types,and the zones' row
 have far : ∀ {X : Type} {B' : Nat} {e : TypeId} {k : Nat} {f : X → List Value} {v : Value} {l : List X},e ≠ 55 → e ≠ 3 → e ≠ 69 → Own W2 B' e k f v l → Own W6 B' e k f v l := by
  intro X B' e k f v l h1 h2 h3 ho;refine Qnk ((ho.fr hM.f fun g hg => ?_) : Own W5 B' e k f v l) hC hf h3;obtain ⟨-,-,cs,hk⟩ := Qar ho hg;rintro (hx | hx | hx)
  ·exact h1 (Qal hk hx.2.choose_spec)
  ·exact h2 (Qal hk hx.2.choose_spec)
  ·subst hx; exact h3 (Qal hk hqo)
 have hoz : Own W5 B 69 3 Qa1 (.slice (some ⟨bz,0,none⟩) (a.length + 1) cap) (a ++ [y]) := by
  refine hO.oz.fr hM.f fun g hg => ?_;have hg : g = bz := by simpa [Value.ownBlock] using hg.symm
  subst hg;obtain ⟨cs,-,hk,-⟩ := Qfu hO.oz (by simp);rintro (hx | hx | hx)
  ·exact absurd (Qal hk hx.2.choose_spec) (by decide)
  ·exact absurd (Qal hk hx.2.choose_spec) (by decide)
  ·exact hqb hx
 have hoz6 : Own W6 B 69 3 Qa1 (.slice (some ⟨bz,0,none⟩) (a.length + 1) cap) (a ++ [(⟨nm,es,ls⟩,ve,vn)]) := QnX hoz rfl hC hb;have hza : ∀ z ∈ a,ZAt W6 B z := by
  intro z hz;have h1 := hO.ha z hz;have h2 := hO.hu z hz;have key : ∀ g,g < M → (g ≠ q) → ¬ (TB M 55 W2 g ∨ TB M 3 W2 g ∨ g = q) := by
   intro g hg hq;rintro (hx | hx | hx)
   ·have := hx.1; omega
   ·have := hx.1; omega
   ·exact hq hx
  have hne : ∀ {X : Type} {e : TypeId} {k : Nat} {f : X → List Value} {v : Value} {l : List X},e ≠ 69 → Own W2 B e k f v l → (∀ k,v.ownBlock = some k → k < M) → Own W6 B e k f v l := by
   intro X e k f v l h3 ho hu;refine Qnk ((ho.fr hM.f fun g hg => key g (hu g hg) (fun hx => ?_)) : Own W5 B e k f v l) hC hf h3;obtain ⟨-,-,cs,hk⟩ := Qar ho hg;subst hx;exact h3 (Qal hk hqo)
  exact ⟨hne (by decide) h1.e h2.1,hne (by decide) h1.l h2.2⟩
 have hzy : ZAt W6 M (⟨nm,es,ls⟩,ve,vn) := ⟨Qnk hM.e hC hf (by decide),Qnk hM.l hC hf (by decide)⟩;have hs26 : W2.heap.size ≤ W6.heap.size := Nat.le_trans hM.f.size hf.size;have hbD : Blk W6 D 31 #[vr,vz,vl,vd] := by
  refine hf.blk (hM.f.blk h.b ?_) (fun hx => by have hx : D = bz := hx; subst hx; have := (Qfu hO.oz (by simp)).choose_spec.1; omega);rintro (hx | hx | hx)
  ·have := hx.1; omega
  ·have := hx.1; omega
  ·omega
 have hge : Fr W0 W6 (fun i => D ≤ i) := by
  refine Qc1 h.f (Qc1 (hM.f.mono fun i _ hx => ?_) (hf.mono fun i _ hx => ?_))
  ·rcases hx with hx | hx | hx
   ·have := hx.1; omega
   ·have := hx.1; omega
   ·omega
  ·have hx : i = bz := hx;have := (Qfu hO.oz (by simp)).choose_spec.1;omega
 subst hz;refine ⟨hD,hbD,⟨e1 ▸ far (by decide) (by decide) (by decide) hO.r,?_,e3 ▸ far (by decide) (by decide) (by decide) hO.l,e4 ▸ far (by decide) (by decide) (by decide) hO.d⟩,hge⟩;rw [e2];exact QgI hoz6 hza hO.hu hzy hO.hB (Nat.le_trans hO.hM hs26)
end R
open R
namespace R
open _root_.Go.Proofs.Tryz
theorem Qjk {w : World} {B M bz cap : Nat} {a : List ZV} {y : ZV} {vr vl vd : Value} {s : StL} (h : OpenZ w B M bz cap a y vr vl vd s) : ∃ C : Array Value,Blk w bz 69 C ∧ B ≤ bz ∧ a.length * 3 + 3 ≤ C.size ∧ ∀ j,j < 3 → C[a.length * 3 + j]? = (Qa1 y)[j]? := by
 obtain ⟨cs,h1,h2,h3,h4⟩ := Qfu h.oz (by simp);rw [List.length_append] at h3;simp only [List.length_cons,List.length_nil] at h3;refine ⟨cs,h2,h1,by omega,fun j hj => ?_⟩;have hg := QdJ Qa1 3 QcF (l := a ++ [y]) (i := a.length) (x := y) (by simp) j hj;rw [List.getElem?_eq_getElem (show j < (Qa1 y).length from hj)] at hg ⊢;exact h4 _ _ hg
theorem mz_blk {W2 W : World} {M q : Nat} {nm : Bs} {ve vn ue un : Value} {es : List EraL} {ls : List Int} {p : Nat} {t : TypeId} {C : Array Value} (h : MZ W2 W M q nm ve vn ue un es ls) (hb : Blk W2 p t C) (h1 : t ≠ 55) (h2 : t ≠ 3) (h3 : p ≠ q) : Blk W p t C := by
 refine h.f.blk hb ?_;rintro (hx | hx | hx)
 ·exact h1 (Qal hb hx.2.choose_spec)
 ·exact h2 (Qal hb hx.2.choose_spec)
 ·exact h3 hx
theorem QpZ {w w' : World} {D B q : Nat} {e t : TypeId} {C : Array Value} (h : Blk w q t C) (hf : Fr w w' (PB D B e w)) (hne : t ≠ e) (hq : q ≠ D) : Blk w' q t C := by
 refine hf.blk h ?_;rintro (hx | hx)
 ·exact hq hx
 ·exact hne (Qal h hx.2.choose_spec)
/-- a list of lines that owns a row: the row's block,its last one -/
theorem Qpl {w : World} {M : Nat} {v : Value} {pre : List Int} {t : Int} (h : Own w M 3 1 intL v (pre ++ [t])) : ∃ bn cn C,v = .slice (some ⟨bn,0,none⟩) (pre.length + 1) cn ∧ M ≤ bn ∧ Blk w bn 3 C ∧ C[pre.length]? = some (intV t) := by
 obtain ⟨A,c,rfl,-,-,-,hA,hA2⟩ := Qex h;cases A with
 | none => exact absurd (hA rfl).1 (by simp)
 | some A =>
  obtain ⟨bn,rfl,-⟩ := hA2 A rfl;obtain ⟨C,h1,h2,-,h4⟩ := Qfu h rfl;refine ⟨bn,c,C,by simp,h1,h2,h4 _ _ ?_⟩;have := QdJ intL 1 Qi5 (l := pre ++ [t]) (i := pre.length) (x := t) (by simp) 0 (by omega);simpa [intL] using this
theorem zs_slice {w : World} {B : Nat} {v : Value} {zs : List ZoneL} (h : ZsAt w B v zs) : ∃ A c,v = .slice A zs.length c := by
 obtain ⟨zv,h1,h2,-⟩ := R.Qe0 h;obtain ⟨A,c,e⟩ := h2.slice;refine ⟨A,c,?_⟩;rw [e,← h1,List.length_map]
end R
open R
theorem QkM (l : List LineL) (A : Option Addr) (c : Nat) (w : World) (hl : LinesAt w A l) (hlen : l.length ≤ 40000) : Calls Tryz.prog 14 #[.slice A l.length c] w (Qgn 61 69 63 w (ofD l)) := by
 have s1 : (w.alloc (.cells #[.slice none 0 0,.slice none 0 0,.slice none 0 0,.slice none 0 0] 31)).heap.size = w.heap.size + 1 := by simp
 have s2 : ((w.alloc (.cells #[.slice none 0 0,.slice none 0 0,.slice none 0 0,.slice none 0 0] 31)).alloc (.cells #[.slice none 0 0,.slice none 0 0,.slice none 0 0,.slice none 0 0] 31)).heap.size = w.heap.size + 2 := by simp
 have n1 := Fr.new w (.cells #[.slice none 0 0,.slice none 0 0,.slice none 0 0,.slice none 0 0] 31) (fun _ => False);have n2 := Fr.new (w.alloc (.cells #[.slice none 0 0,.slice none 0 0,.slice none 0 0,.slice none 0 0] 31)) (.cells #[.slice none 0 0,.slice none 0 0,.slice none 0 0,.slice none 0 0] 31) (fun _ => False);have hq := n2.blk (Blk.made w 31 #[.slice none 0 0,.slice none 0 0,.slice none 0 0,.slice none 0 0]) (fun h => h);have hD := Blk.made (w.alloc (.cells #[.slice none 0 0,.slice none 0 0,.slice none 0 0,.slice none 0 0] 31)) 31 #[.slice none 0 0,.slice none 0 0,.slice none 0 0,.slice none 0 0];rw [s1] at hD;have hf0 := ff0 n1 n2;have HF0 := Xi hf0;have HQ0 := Xi hq;have HS0 := Xi (show R.St ((w.alloc (.cells #[.slice none 0 0,.slice none 0 0,.slice none 0 0,.slice none 0 0] 31)).alloc (.cells #[.slice none 0 0,.slice none 0 0,.slice none 0 0,.slice none 0 0] 31)) ((w.alloc (.cells #[.slice none 0 0,.slice none 0 0,.slice none 0 0,.slice none 0 0] 31)).alloc (.cells #[.slice none 0 0,.slice none 0 0,.slice none 0 0,.slice none 0 0] 31)) (w.heap.size + 1) (w.heap.size + 2) (.slice none 0 0) (.slice none 0 0) (.slice none 0 0) (.slice none 0 0) (ofS (l.take 0)) from ⟨by omega,hD,⟨Qca _ _ _ _ _,⟨[],w.heap.size + 2,rfl,Qca _ _ _ _ _,by simp,Nat.le_refl _,by omega,fun a x e => by simp at e⟩,Qca _ _ _ _ _,Qca _ _ _ _ _⟩,Fr.refl _ _⟩);have HL := Xi hl;clear n1 n2 hq hD hf0 s1 hl;go_enter func14,ntmps14;go_wp2_with fail;obtain ⟨W0,hW0⟩ : ∃ W,(w.alloc (.cells #[.slice none 0 0,.slice none 0 0,.slice none 0 0,.slice none 0 0] 31)).alloc (.cells #[.slice none 0 0,.slice none 0 0,.slice none 0 0,.slice none 0 0] 31) = W := ⟨_,rfl⟩;rw [hW0] at HF0 HQ0 HS0 s2 ⊢;clear hW0
 go_loopg [4,5] l.length (fun k v4 v5 wr => ∃ (i : Nat) (vr vz vl vd : Value),i + k = l.length ∧ v4 = .bool (ofS (l.take i)).opn ∧ v5 = intV (i : Int) ∧ R.St W0 wr (w.heap.size + 1) (w.heap.size + 2) vr vz vl vd (ofS (l.take i)))
 case atStart => exact ⟨0,_,_,_,_,by simp,rfl,rfl,HS0.out⟩
 case round =>
  obtain ⟨i,vr,vz,vl,vd,hik,rfl,rfl,hS⟩ := hrel;obtain ⟨Ar,cr,rfl⟩ := hS.g.r.slice;obtain ⟨Az,cz,rfl⟩ := R.zs_slice hS.g.z;obtain ⟨Al,cl,rfl⟩ := hS.g.l.slice;obtain ⟨Ad,cd,rfl⟩ := hS.g.d.slice;have HZn := Xi (zn_of (l.take i));have hszs := QiM (l.take i);have hil : (l.take i).length ≤ 40000 := by rw [List.length_take]; omega
  by_cases hlt : i < l.length
  ·have hlw := HF0.out.fresh hS.f (fun i h => by have h : w.heap.size + 1 ≤ i := h; omega);have hWS := hS.f.size;obtain ⟨b,off,rfl,hcell⟩ := (HL.out.kept hlw).at_ hlt;have HStep := Xi (Qjx l i hlt);obtain ⟨s,hs⟩ : ∃ s,ofS (l.take i) = s := ⟨_,rfl⟩;obtain ⟨x,hx⟩ : ∃ x,l[i] = x := ⟨_,rfl⟩;rw [hs] at hS HZn hszs HStep ⊢;rw [hx] at hcell HStep;obtain ⟨hL1,hL2,hL3,hL4⟩ := Qbt (s := s) (by omega);have hi1 : (i : Int) < (l.length : Int) := by omega
   have HC := Xi hcell;have HSr := Xi hS;have HBZ := Xi (show Blk _ wr.heap.size 58 (Qad Qae) from Blk.made wr 58 #[.int .i64 0,.string ⟨#[]⟩,.int .i64 0,.int .i64 0,.int .i64 0,.int .i64 0,.int .i64 0,.int .i64 0,.int .i64 0,.int .i64 0,.int .i64 0,.string ⟨#[]⟩,.string ⟨#[]⟩,.string ⟨#[]⟩,.int .i64 0,.int .i64 0,.int .i64 0,.string ⟨#[]⟩,.string ⟨#[]⟩,.bool false,.int .i64 0,.int .i64 0,.int .i64 0,.int .i64 0,.int .i64 0,.int .i64 0,.int .i64 0,.int .i64 0,.int .i64 0]);have HNZ := Xi (Fr.new wr (.cells #[.int .i64 0,.string ⟨#[]⟩,.int .i64 0,.int .i64 0,.int .i64 0,.int .i64 0,.int .i64 0,.int .i64 0,.int .i64 0,.int .i64 0,.int .i64 0,.string ⟨#[]⟩,.string ⟨#[]⟩,.string ⟨#[]⟩,.int .i64 0,.int .i64 0,.int .i64 0,.string ⟨#[]⟩,.string ⟨#[]⟩,.bool false,.int .i64 0,.int .i64 0,.int .i64 0,.int .i64 0,.int .i64 0,.int .i64 0,.int .i64 0,.int .i64 0,.int .i64 0] 58) (fun _ => False));clear hS hs hx hcell hlw;by_cases hk : x.kind = 1
   ·cases ho : s.opn
    ·have HE := Xi (show ofS (l.take (i + 1)) = { (s : StL) with rules := s.rules ++ [(x.rule,(i : Int))] } by
      rw [HStep.out];have hb : brk s (i : Int) = s := by unfold brk; rw [ho]; rfl
      unfold Qdv QcQ;rw [if_pos hk,hb])
     have HO := Xi ho;have HK := Xi hk;clear ho hk;go_wp2_with (first
      | ((with_reducible refine Qah 58 ?_); refine QaP 58 _ b (off + i * 29) (Qad x) _ (by rfl) rfl rfl HC.out underlying58 rfl (QaL _) ?_)
      | ((with_reducible refine Qab 58 ?_); refine Xs 58 wr.heap.size 0 58 (Qad Qae) (Qad x) (Qad x) HBZ.out (QaL _) (Qaj _) (Qao Qae x) ?_;intro W1 hf1 hb1;have hn1 := HNZ.out.fresh hf1 (fun i e => by have e : i = wr.heap.size := e; omega);have HS := Xi (HSr.out.kept hn1);have HQ := Xi hb1;have kc : W1.cell? ⟨wr.heap.size,0,none⟩ = some (intV 1) := by rw [← HK.out]; exact blkc HQ.out 0 _ rfl
         have dc : W1.cell? ⟨w.heap.size + 1,0,none⟩ = some (.slice Ar s.rules.length cr) := blkc HS.out.b 0 _ rfl;clear hf1 hb1 hn1 HC HBZ HNZ HSr)
      | ((with_reducible refine Qah 51 ?_); refine Xl 51 wr.heap.size 1 58 (Qad x) (Qam x.rule) HQ.out underlying51 (Qcg _) (Qho _) ?_)
      | ((with_reducible refine Qfh 61 ?_); refine Qco 61 #[(0,.tmp 50),(1,.tmp 51)] (.agg (Qbu (x.rule,(i : Int))).toArray) (by rfl) rfl (fun w => by kernel_rfl) ?_)
      | ((with_reducible refine QbC (y := .tmp 52) 26 ?_); refine QaN (t := 26) (e := 61) (y := .tmp 52) (v := .agg (Qbu (x.rule,(i : Int))).toArray) (Qbu (x.rule,(i : Int))).toArray (by rfl) rfl rfl (fun _ => by kernel_rfl) ?_;intro Wm2 hfm hsm hbm hrm;have HSm2 := Xi (HS.out.kept hfm);have HQm2 := Xb hfm HQ;have HXm2 := Xi hrm;have HFm2 := Xi hfm;have HS := HSm2;have HQ := HQm2;clear hfm hsm hbm hrm)
      | ((with_reducible refine QbI (.tmp 48) (.tmp 53) ?_); refine QaI (f := Qbu) (.tmp 48) (.tmp 53) 26 rfl rfl (w.heap.size + 2) 61 _ 12 112 underlying26 QhE rfl (by decide) _ rfl (HSm2.out.g.r) _ 1 (x.rule,(i : Int)) (Qbu (x.rule,(i : Int))).toArray.toList rfl HXm2.out rfl (QaZ (cs := (Qbu (x.rule,(i : Int))).toArray) (by simp [Qbu,Qam,Value.oneCell'])) (by assumption) (by decide) HSm2.out.g.base ?_;intro A2 c2 Wp2 hop hfp;have htp := Qbn (HSm2.out.g.r) hfp;have HTp2 := Xi htp;have HOp2 := Xi hop;have HBp2 := Xi (QbH HSm2.out.b htp (by decide));have HQp2 := Xi (QbH HQm2.out htp (by decide));clear htp hop hfp)
      | ((with_reducible refine Qab 26 ?_); refine Xc 26 (w.heap.size + 1) 0 31 _ _ (.slice A2 (s.rules.length + 1) c2) HBp2.out Qfy rfl ?_;intro Ws2 hfs hbs;have hqs := Qgm HQp2.out HBp2.out hfs (by decide);have HS := Xi (St.push_r (s' := { (s : StL) with rules := s.rules ++ [(x.rule,(i : Int))] }) HSm2.out HTp2.out HOp2.out hfs hbs rfl rfl rfl);have HQ := Xi hqs;clear hfs hbs hqs))
     go_roundg (l.length - (i + 1))
     case measure => omega
     case rel => exact ⟨i + 1,_,_,_,_,by omega,by rw [HE.out]; exact congrArg Value.bool HO.out.symm,by go_num,by rw [HE.out]; exact HS.out⟩
    ·have HE := Xi (show ofS (l.take (i + 1)) = { ({ tell s (i : Int) 0 21 with opn := false } : StL) with rules := s.rules ++ [(x.rule,(i : Int))] } by
      rw [HStep.out];have hb : brk s (i : Int) = { tell s (i : Int) 0 21 with opn := false } := by unfold brk; rw [ho]; rfl
      unfold Qdv QcQ;rw [if_pos hk,hb])
     have HO := Xi ho;have HK := Xi hk;clear ho hk;go_wp2_with (first
      | ((with_reducible refine Qah 58 ?_); refine QaP 58 _ b (off + i * 29) (Qad x) _ (by rfl) rfl rfl HC.out underlying58 rfl (QaL _) ?_)
      | ((with_reducible refine Qab 58 ?_); refine Xs 58 wr.heap.size 0 58 (Qad Qae) (Qad x) (Qad x) HBZ.out (QaL _) (Qaj _) (Qao Qae x) ?_;intro W1 hf1 hb1;have hn1 := HNZ.out.fresh hf1 (fun i e => by have e : i = wr.heap.size := e; omega);have HS := Xi (HSr.out.kept hn1);have HQ := Xi hb1;have kc : W1.cell? ⟨wr.heap.size,0,none⟩ = some (intV 1) := by rw [← HK.out]; exact blkc HQ.out 0 _ rfl
         have dc : W1.cell? ⟨w.heap.size + 1,0,none⟩ = some (.slice Ar s.rules.length cr) := blkc HS.out.b 0 _ rfl;have d3 : W1.cell? ⟨w.heap.size + 1,3,none⟩ = some (.slice Ad s.diags.length cd) := blkc HS.out.b 3 _ rfl;clear hf1 hb1 hn1 HC HBZ HNZ HSr)
      | ((with_reducible refine QbC (y := .tmp 39) 29 ?_); refine QaN (t := 29) (e := 65) (y := .tmp 39) (v := .agg #[strV [],intV (i : Int),intV 0,intV 21]) #[strV [],intV (i : Int),intV 0,intV 21] (by rfl) rfl rfl (fun _ => by kernel_rfl) ?_;intro Wm1 hfm hsm hbm hrm;have HSm1 := Xi (HS.out.kept hfm);have HQm1 := Xb hfm HQ;have HXm1 := Xi hrm;have HFm1 := Xi hfm;have HS := HSm1;have HQ := HQm1;clear hfm hsm hbm hrm)
      | ((with_reducible refine QbI (.tmp 37) (.tmp 40) ?_); refine QaI (f := QcM) (.tmp 37) (.tmp 40) 29 rfl rfl (w.heap.size + 2) 65 _ 4 40 underlying29 Qdi rfl (by decide) _ rfl (HSm1.out.g.d) _ 1 (DiagL.mk (i : Int) 0 21) #[strV [],intV (i : Int),intV 0,intV 21].toList rfl HXm1.out rfl (QaZ (cs := #[strV [],intV (i : Int),intV 0,intV 21]) (by simp [Value.oneCell'])) (by assumption) (by decide) HSm1.out.g.base ?_;intro A1 c1 Wp1 hop hfp;have htp := Qbn (HSm1.out.g.d) hfp;have HTp1 := Xi htp;have HOp1 := Xi hop;have HBp1 := Xi (QbH HSm1.out.b htp (by decide));have HQp1 := Xi (QbH HQm1.out htp (by decide));clear htp hop hfp)
      | ((with_reducible refine Qab 29 ?_); refine Xc 29 (w.heap.size + 1) 3 31 _ _ (.slice A1 (s.diags.length + 1) c1) HBp1.out QcD rfl ?_;intro Ws1 hfs hbs;have hqs := Qgm HQp1.out HBp1.out hfs (by decide);have HS := Xi (St.push_d (s' := { tell s (i : Int) 0 21 with opn := false }) HSm1.out HTp1.out HOp1.out hfs hbs rfl rfl rfl);have HQ := Xi hqs;have kc : Ws1.cell? ⟨wr.heap.size,0,none⟩ = some (intV 1) := by rw [← HK.out]; exact blkc hqs 0 _ rfl
         have dc : Ws1.cell? ⟨w.heap.size + 1,0,none⟩ = some (.slice Ar s.rules.length cr) := blkc hbs 0 _ rfl;clear hfs hbs hqs)
      | ((with_reducible refine Qah 51 ?_); refine Xl 51 wr.heap.size 1 58 (Qad x) (Qam x.rule) HQ.out underlying51 (Qcg _) (Qho _) ?_)
      | ((with_reducible refine Qfh 61 ?_); refine Qco 61 #[(0,.tmp 50),(1,.tmp 51)] (.agg (Qbu (x.rule,(i : Int))).toArray) (by rfl) rfl (fun w => by kernel_rfl) ?_)
      | ((with_reducible refine QbC (y := .tmp 52) 26 ?_); refine QaN (t := 26) (e := 61) (y := .tmp 52) (v := .agg (Qbu (x.rule,(i : Int))).toArray) (Qbu (x.rule,(i : Int))).toArray (by rfl) rfl rfl (fun _ => by kernel_rfl) ?_;intro Wm2 hfm hsm hbm hrm;have HSm2 := Xi (HS.out.kept hfm);have HQm2 := Xb hfm HQ;have HXm2 := Xi hrm;have HFm2 := Xi hfm;have HS := HSm2;have HQ := HQm2;clear hfm hsm hbm hrm)
      | ((with_reducible refine QbI (.tmp 48) (.tmp 53) ?_); refine QaI (f := Qbu) (.tmp 48) (.tmp 53) 26 rfl rfl (w.heap.size + 2) 61 _ 12 112 underlying26 QhE rfl (by decide) _ rfl (HSm2.out.g.r) _ 1 (x.rule,(i : Int)) (Qbu (x.rule,(i : Int))).toArray.toList rfl HXm2.out rfl (QaZ (cs := (Qbu (x.rule,(i : Int))).toArray) (by simp [Qbu,Qam,Value.oneCell'])) (by assumption) (by decide) HSm2.out.g.base ?_;intro A2 c2 Wp2 hop hfp;have htp := Qbn (HSm2.out.g.r) hfp;have HTp2 := Xi htp;have HOp2 := Xi hop;have HBp2 := Xi (QbH HSm2.out.b htp (by decide));have HQp2 := Xi (QbH HQm2.out htp (by decide));clear htp hop hfp)
      | ((with_reducible refine Qab 26 ?_); refine Xc 26 (w.heap.size + 1) 0 31 _ _ (.slice A2 (s.rules.length + 1) c2) HBp2.out Qfy rfl ?_;intro Ws2 hfs hbs;have hqs := Qgm HQp2.out HBp2.out hfs (by decide);have HS := Xi (St.push_r (s' := { ({ tell s (i : Int) 0 21 with opn := false } : StL) with rules := s.rules ++ [(x.rule,(i : Int))] }) HSm2.out HTp2.out HOp2.out hfs hbs rfl rfl rfl);have HQ := Xi hqs;clear hfs hbs hqs))
     go_roundg (l.length - (i + 1))
     case measure => omega
     case rel => exact ⟨i + 1,_,_,_,_,by omega,by rw [HE.out],by go_num,by rw [HE.out]; exact HS.out⟩
   by_cases hk2 : x.kind = 2
   ·have hk := hk2;cases ho : s.opn
    ·have HE := Xi (show ofS (l.take (i + 1)) = { (s : StL) with done := s.zones,cur := some ⟨x.name,[x.era],[(i : Int)]⟩,opn := x.era.til.has } by
      rw [HStep.out];have hb : brk s (i : Int) = s := by unfold brk; rw [ho]; rfl
      unfold Qdv QbR;rw [if_neg (by show ¬ x.kind = 1; omega),if_pos hk,hb])
     have HO := Xi ho;have HK := Xi hk;clear ho hk;go_wp2_with (first
      | ((with_reducible refine Qah 58 ?_); refine QaP 58 _ b (off + i * 29) (Qad x) _ (by rfl) rfl rfl HC.out underlying58 rfl (QaL _) ?_)
      | ((with_reducible refine Qab 58 ?_); refine Xs 58 wr.heap.size 0 58 (Qad Qae) (Qad x) (Qad x) HBZ.out (QaL _) (Qaj _) (Qao Qae x) ?_;intro W1 hf1 hb1;have hn1 := HNZ.out.fresh hf1 (fun i e => by have e : i = wr.heap.size := e; omega);have HS := Xi (HSr.out.kept hn1);have HQ := Xi hb1;have kc : W1.cell? ⟨wr.heap.size,0,none⟩ = some (intV 2) := by rw [← HK.out]; exact blkc HQ.out 0 _ rfl
         have dc : W1.cell? ⟨w.heap.size + 1,1,none⟩ = some (.slice Az s.zones.length cz) := blkc HS.out.b 1 _ rfl;have nc : W1.cell? ⟨wr.heap.size,12,none⟩ = some (strV x.name) := blkc HQ.out 12 _ rfl;have hc : W1.cell? ⟨wr.heap.size,19,none⟩ = some (.bool x.era.til.has) := blkc HQ.out 19 _ rfl;obtain ⟨zv,hzm,hoz,hza⟩ := R.Qe0 HS.out.g.z;have hzl : zv.length = s.zones.length := (List.length_map _).symm.trans (congrArg List.length hzm);have hzl2 : zv.length ≤ 100000 := by rw [hzl]; assumption
         have HZM := Xi hzm;have HOZ := Xi hoz;have HAL := Xi hza;have HSZ := HS;clear hzm hoz hza hzl;clear hf1 hb1 hn1 HC HBZ HNZ HSr)
      | ((with_reducible refine Qah 55 ?_); refine Xl 55 wr.heap.size 14 58 (Qad x) (eraC x.era) HQ.out underlying55 (QaO _) (QfX _) ?_)
      | ((with_reducible refine QbC (y := .tmp 63) 67 ?_); refine QaN (t := 67) (e := 55) (y := .tmp 63) (v := .agg (eraC x.era)) (eraC x.era) (by rfl) rfl rfl (fun _ => by kernel_rfl) ?_;intro Wm2 hfm hsm hbm hrm;have HSm2 := Xi (HS.out.kept hfm);have HQm2 := Xb hfm HQ;have HXm2 := Xi hrm;have HFm2 := Xi hfm;have HB2 := Xi hbm;have HS := HSm2;have HQ := HQm2;clear hfm hsm hbm hrm)
      | ((with_reducible refine QbC (y := .tmp 65) 66 ?_); refine QaN (t := 66) (e := 3) (y := .tmp 65) (v := intV (i : Int)) #[intV (i : Int)] (by rfl) rfl rfl (fun _ => by kernel_rfl) ?_;intro Wm3 hfm hsm hbm hrm;have HSm3 := Xi (HS.out.kept hfm);have HQm3 := Xb hfm HQ;have HXm3 := Xi hrm;have HFm3 := Xi hfm;have HB3 := Xi hbm;have HS := HSm3;have HQ := HQm3;clear hfm hsm hbm hrm)
      | ((with_reducible refine Qfh 69 ?_); refine Qco 69 #[(0,.tmp 61),(1,.tmp 64),(2,.tmp 66)] (.agg #[strV x.name,.slice (some ⟨W1.heap.size,0,none⟩) 1 1,.slice (some ⟨Wm2.heap.size,0,none⟩) 1 1]) (by rfl) rfl (fun w => by kernel_rfl) ?_)
      | ((with_reducible refine QbC (y := .tmp 67) 27 ?_); refine QaN (t := 27) (e := 69) (y := .tmp 67) (v := .agg #[strV x.name,.slice (some ⟨W1.heap.size,0,none⟩) 1 1,.slice (some ⟨Wm2.heap.size,0,none⟩) 1 1]) #[strV x.name,.slice (some ⟨W1.heap.size,0,none⟩) 1 1,.slice (some ⟨Wm2.heap.size,0,none⟩) 1 1] (by rfl) rfl rfl (fun _ => by kernel_rfl) ?_;intro Wm4 hfm hsm hbm hrm;have HSm4 := Xi (HS.out.kept hfm);have HQm4 := Xb hfm HQ;have HXm4 := Xi hrm;have HFm4 := Xi hfm;have HS := HSm4;have HQ := HQm4;clear hfm hsm hbm hrm)
      | ((with_reducible refine QbI (.tmp 59) (.tmp 68) ?_); refine QaI (f := Qa1) (.tmp 59) (.tmp 68) 27 rfl rfl (w.heap.size + 2) 69 _ 3 64 underlying27 QhD rfl (by decide) _ rfl (HOZ.out.kept (ff0 (ff0 HFm2.out HFm3.out) HFm4.out)) _ 1 ((⟨x.name,[x.era],[(i : Int)]⟩,.slice (some ⟨W1.heap.size,0,none⟩) 1 1,.slice (some ⟨Wm2.heap.size,0,none⟩) 1 1) : ZV) #[strV x.name,.slice (some ⟨W1.heap.size,0,none⟩) 1 1,.slice (some ⟨Wm2.heap.size,0,none⟩) 1 1].toList rfl HXm4.out rfl (QaZ (cs := #[strV x.name,.slice (some ⟨W1.heap.size,0,none⟩) 1 1,.slice (some ⟨Wm2.heap.size,0,none⟩) 1 1]) (by simp [Value.oneCell'])) (by assumption) (by decide) HSm4.out.g.base ?_;intro A4 c4 Wp4 hop hfp;have htp := Qbn (HOZ.out.kept (ff0 (ff0 HFm2.out HFm3.out) HFm4.out)) hfp;have HTp4 := Xi htp;have HOp4 := Xi hop;have HBp4 := Xi (QbH HSm4.out.b htp (by decide));have HQp4 := Xi (QbH HQm4.out htp (by decide));clear htp hop hfp)
      | ((with_reducible refine Qab 27 ?_); refine Xc 27 (w.heap.size + 1) 1 31 _ _ (.slice A4 (zv.length + 1) c4) HBp4.out Qfx rfl ?_;intro Ws4 hfs hbs;have HA4 := Xi (show ZAt Wp4 W1.heap.size ((⟨x.name,[x.era],[(i : Int)]⟩,.slice (some ⟨W1.heap.size,0,none⟩) 1 1,.slice (some ⟨Wm2.heap.size,0,none⟩) 1 1) : ZV) from ⟨QgQ (Nat.le_refl _) (QbH (HFm4.out.blk (HFm3.out.blk HB2.out (fun h => h)) (fun h => h)) HTp4.out (by decide)) rfl rfl,QgQ HFm2.out.size (QbH (HFm4.out.blk HB3.out (fun h => h)) HTp4.out (by decide)) rfl rfl⟩);have hqs := Qgm HQp4.out HBp4.out hfs (by decide);have HS := Xi (St.push_z (s' := { (s : StL) with done := s.zones,cur := some ⟨x.name,[x.era],[(i : Int)]⟩,opn := x.era.til.has }) HSZ.out HZM.out HAL.out (Qew (ff0 (ff0 HFm2.out HFm3.out) HFm4.out) HTp4.out) HOp4.out HA4.out hfs hbs rfl rfl rfl rfl);have HQ := Xi hqs;have hc4 : Ws4.cell? ⟨wr.heap.size,19,none⟩ = some (.bool x.era.til.has) := blkc hqs 19 _ rfl;clear hfs hbs hqs))
     go_roundg (l.length - (i + 1))
     case measure => omega
     case rel => exact ⟨i + 1,_,_,_,_,by omega,by rw [HE.out],by go_num,by rw [HE.out]; exact HS.out⟩
    ·have HE := Xi (show ofS (l.take (i + 1)) = { ({ tell s (i : Int) 0 21 with opn := false } : StL) with done := s.zones,cur := some ⟨x.name,[x.era],[(i : Int)]⟩,opn := x.era.til.has } by
      rw [HStep.out];have hb : brk s (i : Int) = { tell s (i : Int) 0 21 with opn := false } := by unfold brk; rw [ho]; rfl
      unfold Qdv QbR;rw [if_neg (by show ¬ x.kind = 1; omega),if_pos hk,hb])
     have HO := Xi ho;have HK := Xi hk;clear ho hk;go_wp2_with (first
      | ((with_reducible refine Qah 58 ?_); refine QaP 58 _ b (off + i * 29) (Qad x) _ (by rfl) rfl rfl HC.out underlying58 rfl (QaL _) ?_)
      | ((with_reducible refine Qab 58 ?_); refine Xs 58 wr.heap.size 0 58 (Qad Qae) (Qad x) (Qad x) HBZ.out (QaL _) (Qaj _) (Qao Qae x) ?_;intro W1 hf1 hb1;have hn1 := HNZ.out.fresh hf1 (fun i e => by have e : i = wr.heap.size := e; omega);have HS := Xi (HSr.out.kept hn1);have HQ := Xi hb1;have kc : W1.cell? ⟨wr.heap.size,0,none⟩ = some (intV 2) := by rw [← HK.out]; exact blkc HQ.out 0 _ rfl
         have dc : W1.cell? ⟨w.heap.size + 1,1,none⟩ = some (.slice Az s.zones.length cz) := blkc HS.out.b 1 _ rfl;have nc : W1.cell? ⟨wr.heap.size,12,none⟩ = some (strV x.name) := blkc HQ.out 12 _ rfl;have hc : W1.cell? ⟨wr.heap.size,19,none⟩ = some (.bool x.era.til.has) := blkc HQ.out 19 _ rfl;have d3 : W1.cell? ⟨w.heap.size + 1,3,none⟩ = some (.slice Ad s.diags.length cd) := blkc HS.out.b 3 _ rfl;clear hf1 hb1 hn1 HC HBZ HNZ HSr)
      | ((with_reducible refine QbC (y := .tmp 39) 29 ?_); refine QaN (t := 29) (e := 65) (y := .tmp 39) (v := .agg #[strV [],intV (i : Int),intV 0,intV 21]) #[strV [],intV (i : Int),intV 0,intV 21] (by rfl) rfl rfl (fun _ => by kernel_rfl) ?_;intro Wm1 hfm hsm hbm hrm;have HSm1 := Xi (HS.out.kept hfm);have HQm1 := Xb hfm HQ;have HXm1 := Xi hrm;have HFm1 := Xi hfm;have HS := HSm1;have HQ := HQm1;clear hfm hsm hbm hrm)
      | ((with_reducible refine QbI (.tmp 37) (.tmp 40) ?_); refine QaI (f := QcM) (.tmp 37) (.tmp 40) 29 rfl rfl (w.heap.size + 2) 65 _ 4 40 underlying29 Qdi rfl (by decide) _ rfl (HSm1.out.g.d) _ 1 (DiagL.mk (i : Int) 0 21) #[strV [],intV (i : Int),intV 0,intV 21].toList rfl HXm1.out rfl (QaZ (cs := #[strV [],intV (i : Int),intV 0,intV 21]) (by simp [Value.oneCell'])) (by assumption) (by decide) HSm1.out.g.base ?_;intro A1 c1 Wp1 hop hfp;have htp := Qbn (HSm1.out.g.d) hfp;have HTp1 := Xi htp;have HOp1 := Xi hop;have HBp1 := Xi (QbH HSm1.out.b htp (by decide));have HQp1 := Xi (QbH HQm1.out htp (by decide));clear htp hop hfp)
      | ((with_reducible refine Qab 29 ?_); refine Xc 29 (w.heap.size + 1) 3 31 _ _ (.slice A1 (s.diags.length + 1) c1) HBp1.out QcD rfl ?_;intro Ws1 hfs hbs;have hqs := Qgm HQp1.out HBp1.out hfs (by decide);have HS := Xi (St.push_d (s' := { tell s (i : Int) 0 21 with opn := false }) HSm1.out HTp1.out HOp1.out hfs hbs rfl rfl rfl);have HQ := Xi hqs;have kc : Ws1.cell? ⟨wr.heap.size,0,none⟩ = some (intV 2) := by rw [← HK.out]; exact blkc hqs 0 _ rfl
         have dc : Ws1.cell? ⟨w.heap.size + 1,1,none⟩ = some (.slice Az s.zones.length cz) := blkc hbs 1 _ rfl;have nc : Ws1.cell? ⟨wr.heap.size,12,none⟩ = some (strV x.name) := blkc hqs 12 _ rfl;have hc : Ws1.cell? ⟨wr.heap.size,19,none⟩ = some (.bool x.era.til.has) := blkc hqs 19 _ rfl;obtain ⟨zv,hzm,hoz,hza⟩ := R.Qe0 HS.out.g.z;have hzl : zv.length = s.zones.length := (List.length_map _).symm.trans (congrArg List.length hzm);have hzl2 : zv.length ≤ 100000 := by rw [hzl]; assumption
         have HZM := Xi hzm;have HOZ := Xi hoz;have HAL := Xi hza;have HSZ := HS;clear hzm hoz hza hzl;clear hfs hbs hqs)
      | ((with_reducible refine Qah 55 ?_); refine Xl 55 wr.heap.size 14 58 (Qad x) (eraC x.era) HQ.out underlying55 (QaO _) (QfX _) ?_)
      | ((with_reducible refine QbC (y := .tmp 63) 67 ?_); refine QaN (t := 67) (e := 55) (y := .tmp 63) (v := .agg (eraC x.era)) (eraC x.era) (by rfl) rfl rfl (fun _ => by kernel_rfl) ?_;intro Wm2 hfm hsm hbm hrm;have HSm2 := Xi (HS.out.kept hfm);have HQm2 := Xb hfm HQ;have HXm2 := Xi hrm;have HFm2 := Xi hfm;have HB2 := Xi hbm;have HS := HSm2;have HQ := HQm2;clear hfm hsm hbm hrm)
      | ((with_reducible refine QbC (y := .tmp 65) 66 ?_); refine QaN (t := 66) (e := 3) (y := .tmp 65) (v := intV (i : Int)) #[intV (i : Int)] (by rfl) rfl rfl (fun _ => by kernel_rfl) ?_;intro Wm3 hfm hsm hbm hrm;have HSm3 := Xi (HS.out.kept hfm);have HQm3 := Xb hfm HQ;have HXm3 := Xi hrm;have HFm3 := Xi hfm;have HB3 := Xi hbm;have HS := HSm3;have HQ := HQm3;clear hfm hsm hbm hrm)
      | ((with_reducible refine Qfh 69 ?_); refine Qco 69 #[(0,.tmp 61),(1,.tmp 64),(2,.tmp 66)] (.agg #[strV x.name,.slice (some ⟨Ws1.heap.size,0,none⟩) 1 1,.slice (some ⟨Wm2.heap.size,0,none⟩) 1 1]) (by rfl) rfl (fun w => by kernel_rfl) ?_)
      | ((with_reducible refine QbC (y := .tmp 67) 27 ?_); refine QaN (t := 27) (e := 69) (y := .tmp 67) (v := .agg #[strV x.name,.slice (some ⟨Ws1.heap.size,0,none⟩) 1 1,.slice (some ⟨Wm2.heap.size,0,none⟩) 1 1]) #[strV x.name,.slice (some ⟨Ws1.heap.size,0,none⟩) 1 1,.slice (some ⟨Wm2.heap.size,0,none⟩) 1 1] (by rfl) rfl rfl (fun _ => by kernel_rfl) ?_;intro Wm4 hfm hsm hbm hrm;have HSm4 := Xi (HS.out.kept hfm);have HQm4 := Xb hfm HQ;have HXm4 := Xi hrm;have HFm4 := Xi hfm;have HS := HSm4;have HQ := HQm4;clear hfm hsm hbm hrm)
      | ((with_reducible refine QbI (.tmp 59) (.tmp 68) ?_); refine QaI (f := Qa1) (.tmp 59) (.tmp 68) 27 rfl rfl (w.heap.size + 2) 69 _ 3 64 underlying27 QhD rfl (by decide) _ rfl (HOZ.out.kept (ff0 (ff0 HFm2.out HFm3.out) HFm4.out)) _ 1 ((⟨x.name,[x.era],[(i : Int)]⟩,.slice (some ⟨Ws1.heap.size,0,none⟩) 1 1,.slice (some ⟨Wm2.heap.size,0,none⟩) 1 1) : ZV) #[strV x.name,.slice (some ⟨Ws1.heap.size,0,none⟩) 1 1,.slice (some ⟨Wm2.heap.size,0,none⟩) 1 1].toList rfl HXm4.out rfl (QaZ (cs := #[strV x.name,.slice (some ⟨Ws1.heap.size,0,none⟩) 1 1,.slice (some ⟨Wm2.heap.size,0,none⟩) 1 1]) (by simp [Value.oneCell'])) (by assumption) (by decide) HSm4.out.g.base ?_;intro A4 c4 Wp4 hop hfp;have htp := Qbn (HOZ.out.kept (ff0 (ff0 HFm2.out HFm3.out) HFm4.out)) hfp;have HTp4 := Xi htp;have HOp4 := Xi hop;have HBp4 := Xi (QbH HSm4.out.b htp (by decide));have HQp4 := Xi (QbH HQm4.out htp (by decide));clear htp hop hfp)
      | ((with_reducible refine Qab 27 ?_); refine Xc 27 (w.heap.size + 1) 1 31 _ _ (.slice A4 (zv.length + 1) c4) HBp4.out Qfx rfl ?_;intro Ws4 hfs hbs;have HA4 := Xi (show ZAt Wp4 Ws1.heap.size ((⟨x.name,[x.era],[(i : Int)]⟩,.slice (some ⟨Ws1.heap.size,0,none⟩) 1 1,.slice (some ⟨Wm2.heap.size,0,none⟩) 1 1) : ZV) from ⟨QgQ (Nat.le_refl _) (QbH (HFm4.out.blk (HFm3.out.blk HB2.out (fun h => h)) (fun h => h)) HTp4.out (by decide)) rfl rfl,QgQ HFm2.out.size (QbH (HFm4.out.blk HB3.out (fun h => h)) HTp4.out (by decide)) rfl rfl⟩);have hqs := Qgm HQp4.out HBp4.out hfs (by decide);have HS := Xi (St.push_z (s' := { ({ tell s (i : Int) 0 21 with opn := false } : StL) with done := s.zones,cur := some ⟨x.name,[x.era],[(i : Int)]⟩,opn := x.era.til.has }) HSZ.out HZM.out HAL.out (Qew (ff0 (ff0 HFm2.out HFm3.out) HFm4.out) HTp4.out) HOp4.out HA4.out hfs hbs rfl rfl rfl rfl);have HQ := Xi hqs;have hc4 : Ws4.cell? ⟨wr.heap.size,19,none⟩ = some (.bool x.era.til.has) := blkc hqs 19 _ rfl;clear hfs hbs hqs))
     go_roundg (l.length - (i + 1))
     case measure => omega
     case rel => exact ⟨i + 1,_,_,_,_,by omega,by rw [HE.out],by go_num,by rw [HE.out]; exact HS.out⟩
   by_cases hk3 : x.kind = 3
   ·have hk := hk3;cases ho : s.opn
    ·have HE := Xi (show ofS (l.take (i + 1)) = tell s (i : Int) 0 10 by
      rw [HStep.out];have hb : Qcz s (i : Int) x = tell s (i : Int) 0 10 := by unfold Qcz; simp [ho]
      unfold Qdv;rw [if_neg (by show ¬ x.kind = 1; omega),if_neg (by show ¬ x.kind = 2; omega),if_pos hk,hb])
     have HO := Xi ho;have HK := Xi hk;clear ho hk;go_wp2_with (first
      | ((with_reducible refine Qah 58 ?_); refine QaP 58 _ b (off + i * 29) (Qad x) _ (by rfl) rfl rfl HC.out underlying58 rfl (QaL _) ?_)
      | ((with_reducible refine Qab 58 ?_); refine Xs 58 wr.heap.size 0 58 (Qad Qae) (Qad x) (Qad x) HBZ.out (QaL _) (Qaj _) (Qao Qae x) ?_;intro W1 hf1 hb1;have hn1 := HNZ.out.fresh hf1 (fun i e => by have e : i = wr.heap.size := e; omega);have HS := Xi (HSr.out.kept hn1);have HQ := Xi hb1;have kc : W1.cell? ⟨wr.heap.size,0,none⟩ = some (intV 3) := by rw [← HK.out]; exact blkc HQ.out 0 _ rfl
         have d3 : W1.cell? ⟨w.heap.size + 1,3,none⟩ = some (.slice Ad s.diags.length cd) := blkc HS.out.b 3 _ rfl;clear hf1 hb1 hn1 HC HBZ HNZ HSr)
      | ((with_reducible refine QbC (y := .tmp 82) 29 ?_); refine QaN (t := 29) (e := 65) (y := .tmp 82) (v := .agg #[strV [],intV (i : Int),intV 0,intV 10]) #[strV [],intV (i : Int),intV 0,intV 10] (by rfl) rfl rfl (fun _ => by kernel_rfl) ?_;intro Wm2 hfm hsm hbm hrm;have HSm2 := Xi (HS.out.kept hfm);have HQm2 := Xb hfm HQ;have HXm2 := Xi hrm;have HFm2 := Xi hfm;have HS := HSm2;have HQ := HQm2;clear hfm hsm hbm hrm)
      | ((with_reducible refine QbI (.tmp 80) (.tmp 83) ?_); refine QaI (f := QcM) (.tmp 80) (.tmp 83) 29 rfl rfl (w.heap.size + 2) 65 _ 4 40 underlying29 Qdi rfl (by decide) _ rfl (HSm2.out.g.d) _ 1 (DiagL.mk (i : Int) 0 10) #[strV [],intV (i : Int),intV 0,intV 10].toList rfl HXm2.out rfl (QaZ (cs := #[strV [],intV (i : Int),intV 0,intV 10]) (by simp [Value.oneCell'])) (by assumption) (by decide) HSm2.out.g.base ?_;intro A2 c2 Wp2 hop hfp;have htp := Qbn (HSm2.out.g.d) hfp;have HTp2 := Xi htp;have HOp2 := Xi hop;have HBp2 := Xi (QbH HSm2.out.b htp (by decide));have HQp2 := Xi (QbH HQm2.out htp (by decide));clear htp hop hfp)
      | ((with_reducible refine Qab 29 ?_); refine Xc 29 (w.heap.size + 1) 3 31 _ _ (.slice A2 (s.diags.length + 1) c2) HBp2.out QcD rfl ?_;intro Ws2 hfs hbs;have hqs := Qgm HQp2.out HBp2.out hfs (by decide);have HS := Xi (St.push_d (s' := tell s (i : Int) 0 10) HSm2.out HTp2.out HOp2.out hfs hbs rfl rfl rfl);have HQ := Xi hqs;clear hfs hbs hqs))
     go_roundg (l.length - (i + 1))
     case measure => omega
     case rel => exact ⟨i + 1,_,_,_,_,by omega,by rw [HE.out]; exact congrArg Value.bool HO.out.symm,by go_num,by rw [HE.out]; exact HS.out⟩
    ·have hS1 := HSr.out;obtain ⟨z,hc⟩ := HZn.out.1 ho;have hzk := HZn.out.2 z (Qc6.2 (.inr hc));obtain ⟨M,bz,cap,a,⟨z',ve,vn⟩,hvz,hyz,ham,hO⟩ := R.Qil hS1.g hc;have hyz : z = z' := hyz.symm;subst hyz;injection hvz with ez1 ez2 ez3;have ez3 := ez3.symm;subst ez1 ez3;obtain ⟨Ae,ce,hve⟩ : ∃ A c,ve = .slice A z.eras.length c := hO.hy.e.slice;obtain ⟨An,cn,hvn⟩ : ∃ A c,vn = .slice A z.lines.length c := hO.hy.l.slice;subst hve hvn;obtain ⟨C,hCb,hBb,hCf,hC3⟩ := R.Qjk hO;have ez2 : s.zones.length = a.length + 1 := ez2;rw [ez2] at hS1;have HSr := Xi hS1;have ha5 : a.length ≤ 100000 := by omega
     obtain ⟨hzl,hz1,hz8⟩ := hzk;have he5 : z.eras.length ≤ 100000 := by omega
     have hl5 : z.lines.length ≤ 100000 := by omega
     have HBQ := Xi (show bz < wr.heap.size from World.block_lt_of_cell? wr ⟨bz,a.length * 3,none⟩ (u := strV z.name) ((Qaa hCb _).trans (hC3 0 (by decide))));have HZ3 := Xi (show ∀ j,j < (#[strV z.name,.slice Ae z.eras.length ce,.slice An z.lines.length cn] : Array Value).size → C[a.length * 3 + j]? = (#[strV z.name,.slice Ae z.eras.length ce,.slice An z.lines.length cn] : Array Value)[j]? from fun j hj => (hC3 j hj).trans (by simp [Qa1]));have HCb := Xi hCb;have HOr := Xi hO;have HAM := Xi ham;have HCF := Xi hCf;have HK := Xi hk;by_cases h8 : 8 ≤ z.eras.length
     ·have HE := Xi (show ofS (l.take (i + 1)) = { tell s (i : Int) 0 17 with opn := x.era.til.has } by
       rw [HStep.out];have hb : Qcz s (i : Int) x = { tell s (i : Int) 0 17 with opn := x.era.til.has } := by unfold Qcz; simp [ho,hc,h8]
       unfold Qdv;rw [if_neg (by show ¬ x.kind = 1; omega),if_neg (by show ¬ x.kind = 2; omega),if_pos hk,hb])
      have h8i : (8 : Int) ≤ (z.eras.length : Int) := by omega
      clear ho hk hc hS1 hO hC3 hCb hzl h8;go_wp2_with (first
       | ((with_reducible refine Qah 58 ?_); refine QaP 58 _ b (off + i * 29) (Qad x) _ (by rfl) rfl rfl HC.out underlying58 rfl (QaL _) ?_)
       | ((with_reducible refine Qab 58 ?_); refine Xs 58 wr.heap.size 0 58 (Qad Qae) (Qad x) (Qad x) HBZ.out (QaL _) (Qaj _) (Qao Qae x) ?_;intro W1 hf1 hb1;have hn1 := HNZ.out.fresh hf1 (fun i e => by have e : i = wr.heap.size := e; omega);have HS := Xi (HSr.out.kept hn1);have HQ := Xi hb1;have kc : W1.cell? ⟨wr.heap.size,0,none⟩ = some (intV 3) := by rw [← HK.out]; exact blkc HQ.out 0 _ rfl
          have hc0 : W1.cell? ⟨wr.heap.size,19,none⟩ = some (.bool x.era.til.has) := blkc HQ.out 19 _ rfl;have d1 : W1.cell? ⟨w.heap.size + 1,1,none⟩ = some (.slice (some ⟨bz,0,none⟩) (a.length + 1) cap) := blkc HS.out.b 1 _ rfl;have hnz := Fr.new W1 (.cells #[strV z.name,.slice Ae z.eras.length ce,.slice An z.lines.length cn] 69) (fun _ => False);have hb7 := Blk.made W1 69 #[strV z.name,.slice Ae z.eras.length ce,.slice An z.lines.length cn];have HBz := Xb hn1 HCb;have hbq : bz < W1.heap.size := by have := HBQ.out; have := hn1.size; omega
          have hWq : W0.heap.size ≤ W1.heap.size := by have := hn1.size; omega
          have HBz2 := Xb hnz HBz;have HO2 := Xi ((HOr.out.kept hn1).kept hnz);have HS2 := Xi (HS.out.kept hnz);have HQ2 := Xb hnz HQ;have HM2 := Xi (show MZ (W1.alloc (.cells #[strV z.name,.slice Ae z.eras.length ce,.slice An z.lines.length cn] 69)) (W1.alloc (.cells #[strV z.name,.slice Ae z.eras.length ce,.slice An z.lines.length cn] 69)) M W1.heap.size z.name (.slice Ae z.eras.length ce) (.slice An z.lines.length cn) (.slice Ae z.eras.length ce) (.slice An z.lines.length cn) z.eras z.lines from ⟨Fr.refl _ _,HO2.out.hy.e,HO2.out.hy.l,hb7⟩);have HB7 := Xi hb7;have z1 := blkc hb7 1 (.slice Ae z.eras.length ce) rfl;have z2 := blkc hb7 2 (.slice An z.lines.length cn) rfl;have d3 : (W1.alloc (.cells #[strV z.name,.slice Ae z.eras.length ce,.slice An z.lines.length cn] 69)).cell? ⟨w.heap.size + 1,3,none⟩ = some (.slice Ad s.diags.length cd) := blkc HS2.out.b 3 _ rfl;have HS := HS2;have HQ := HQ2;have hMw : M ≤ (W1.alloc (.cells #[strV z.name,.slice Ae z.eras.length ce,.slice An z.lines.length cn] 69)).heap.size := HO2.out.hM;clear hnz hb7;clear hf1 hb1 hn1 HC HBZ HNZ HSr)
       | ((with_reducible refine Qah 69 ?_); refine Xl 69 bz (a.length * 3) 69 C #[strV z.name,.slice Ae z.eras.length ce,.slice An z.lines.length cn] HBz.out underlying69 Qeq HZ3.out ?_)
       | ((with_reducible refine QbC (y := .tmp 105) 29 ?_); refine QaN (t := 29) (e := 65) (y := .tmp 105) (v := .agg #[strV [],intV (i : Int),intV 0,intV 17]) #[strV [],intV (i : Int),intV 0,intV 17] (by rfl) rfl rfl (fun _ => by kernel_rfl) ?_;intro Wm2 hfm hsm hbm hrm;have HSm2 := Xi (HS.out.kept hfm);have HQm2 := Xb hfm HQ;have HXm2 := Xi hrm;have HFm2 := Xi hfm;have HS := HSm2;have HQ := HQm2;clear hfm hsm hbm hrm)
       | ((with_reducible refine QbI (.tmp 103) (.tmp 106) ?_); refine QaI (f := QcM) (.tmp 103) (.tmp 106) 29 rfl rfl (w.heap.size + 2) 65 _ 4 40 underlying29 Qdi rfl (by decide) _ rfl (HSm2.out.g.d) _ 1 (DiagL.mk (i : Int) 0 17) #[strV [],intV (i : Int),intV 0,intV 17].toList rfl HXm2.out rfl (QaZ (cs := #[strV [],intV (i : Int),intV 0,intV 17]) (by simp [Value.oneCell'])) (by assumption) (by decide) HSm2.out.g.base ?_;intro A2 c2 Wp2 hop hfp;have htp := Qbn (HSm2.out.g.d) hfp;have HTp2 := Xi htp;have HOp2 := Xi hop;have HBp2 := Xi (QbH HSm2.out.b htp (by decide));have HQp2 := Xi (QbH HQm2.out htp (by decide));clear htp hop hfp)
       | ((with_reducible refine Qab 29 ?_); refine Xc 29 (w.heap.size + 1) 3 31 _ _ (.slice A2 (s.diags.length + 1) c2) HBp2.out QcD rfl ?_;intro Ws2 hfs hbs;have hqs := Qgm HQp2.out HBp2.out hfs (by decide);have HS := Xi (St.push_d (s' := { tell s (i : Int) 0 17 with opn := x.era.til.has }) HSm2.out HTp2.out HOp2.out hfs hbs rfl rfl rfl);have HQ := Xi hqs;clear hfs hbs hqs))
      go_roundg (l.length - (i + 1))
      case measure => omega
      case rel => exact ⟨i + 1,_,_,_,_,by omega,by rw [HE.out],by go_num,by rw [HE.out]; exact HS.out⟩
     ·have HE := Xi (show ofS (l.take (i + 1)) = { s with cur := some ⟨z.name,z.eras ++ [x.era],z.lines ++ [(i : Int)]⟩,opn := x.era.til.has } by
       rw [HStep.out];have hb : Qcz s (i : Int) x = { s with cur := some ⟨z.name,z.eras ++ [x.era],z.lines ++ [(i : Int)]⟩,opn := x.era.til.has } := by unfold Qcz; simp [ho,hc,h8]
       unfold Qdv;rw [if_neg (by show ¬ x.kind = 1; omega),if_neg (by show ¬ x.kind = 2; omega),if_pos hk,hb])
      have h8i : (z.eras.length : Int) < 8 := by omega
      clear ho hk hc hS1 hO hC3 hCb hzl h8;go_wp2_with (first
       | ((with_reducible refine Qah 58 ?_); refine QaP 58 _ b (off + i * 29) (Qad x) _ (by rfl) rfl rfl HC.out underlying58 rfl (QaL _) ?_)
       | ((with_reducible refine Qab 58 ?_); refine Xs 58 wr.heap.size 0 58 (Qad Qae) (Qad x) (Qad x) HBZ.out (QaL _) (Qaj _) (Qao Qae x) ?_;intro W1 hf1 hb1;have hn1 := HNZ.out.fresh hf1 (fun i e => by have e : i = wr.heap.size := e; omega);have HS := Xi (HSr.out.kept hn1);have HQ := Xi hb1;have kc : W1.cell? ⟨wr.heap.size,0,none⟩ = some (intV 3) := by rw [← HK.out]; exact blkc HQ.out 0 _ rfl
          have hc0 : W1.cell? ⟨wr.heap.size,19,none⟩ = some (.bool x.era.til.has) := blkc HQ.out 19 _ rfl;have d1 : W1.cell? ⟨w.heap.size + 1,1,none⟩ = some (.slice (some ⟨bz,0,none⟩) (a.length + 1) cap) := blkc HS.out.b 1 _ rfl;have hnz := Fr.new W1 (.cells #[strV z.name,.slice Ae z.eras.length ce,.slice An z.lines.length cn] 69) (fun _ => False);have hb7 := Blk.made W1 69 #[strV z.name,.slice Ae z.eras.length ce,.slice An z.lines.length cn];have HBz := Xb hn1 HCb;have hbq : bz < W1.heap.size := by have := HBQ.out; have := hn1.size; omega
          have hWq : W0.heap.size ≤ W1.heap.size := by have := hn1.size; omega
          have HBz2 := Xb hnz HBz;have HO2 := Xi ((HOr.out.kept hn1).kept hnz);have HS2 := Xi (HS.out.kept hnz);have HQ2 := Xb hnz HQ;have HM2 := Xi (show MZ (W1.alloc (.cells #[strV z.name,.slice Ae z.eras.length ce,.slice An z.lines.length cn] 69)) (W1.alloc (.cells #[strV z.name,.slice Ae z.eras.length ce,.slice An z.lines.length cn] 69)) M W1.heap.size z.name (.slice Ae z.eras.length ce) (.slice An z.lines.length cn) (.slice Ae z.eras.length ce) (.slice An z.lines.length cn) z.eras z.lines from ⟨Fr.refl _ _,HO2.out.hy.e,HO2.out.hy.l,hb7⟩);have HB7 := Xi hb7;have z1 := blkc hb7 1 (.slice Ae z.eras.length ce) rfl;have z2 := blkc hb7 2 (.slice An z.lines.length cn) rfl;have d3 : (W1.alloc (.cells #[strV z.name,.slice Ae z.eras.length ce,.slice An z.lines.length cn] 69)).cell? ⟨w.heap.size + 1,3,none⟩ = some (.slice Ad s.diags.length cd) := blkc HS2.out.b 3 _ rfl;have HS := HS2;have HQ := HQ2;have hMw : M ≤ (W1.alloc (.cells #[strV z.name,.slice Ae z.eras.length ce,.slice An z.lines.length cn] 69)).heap.size := HO2.out.hM;clear hnz hb7;clear hf1 hb1 hn1 HC HBZ HNZ HSr)
       | ((with_reducible refine Qah 69 ?_); refine Xl 69 bz (a.length * 3) 69 C #[strV z.name,.slice Ae z.eras.length ce,.slice An z.lines.length cn] HBz.out underlying69 Qeq HZ3.out ?_)
       | ((with_reducible refine Qah 55 ?_); refine Xl 55 wr.heap.size 14 58 (Qad x) (eraC x.era) HQ.out underlying55 (QaO _) (QfX _) ?_)
       | ((with_reducible refine QbC (y := .tmp 112) 67 ?_); refine QaN (t := 67) (e := 55) (y := .tmp 112) (v := .agg (eraC x.era)) (eraC x.era) (by rfl) rfl rfl (fun _ => by kernel_rfl) ?_;intro Wm5 hfm hsm hbm hrm;have HM5 := Xi (HM2.out.kept hfm);have HX5 := Xi hrm;have hM5 : M ≤ Wm5.heap.size := Nat.le_trans hMw hfm.size;clear hfm hsm hbm hrm)
       | ((with_reducible refine QbI (.tmp 110) (.tmp 113) ?_); refine QaI (f := eraL) (.tmp 110) (.tmp 113) 67 rfl rfl M 55 _ 13 120 underlying67 Qpr rfl (by decide) _ rfl HM5.out.e _ 1 x.era (eraC x.era).toList rfl HX5.out rfl (QaZ (Qax _)) (by assumption) (by decide) hM5 ?_;intro A5 c5 Wp5 hop hfp;have hM6 : M ≤ Wp5.heap.size := Nat.le_trans hM5 hfp.size;have HM6 := Xi (HM5.out.era (Qbn HM5.out.e hfp) hop);clear hop hfp)
       | ((with_reducible refine Qab 67 ?_); refine QcO 67 _ _ W1.heap.size 1 69 _ _ (.slice A5 (z.eras.length + 1) c5) (by rfl) rfl rfl rfl rfl HM6.out.b Qld rfl (show 1 < 3 by decide) rfl ?_;intro Ws5 hfs hbs;have hM7 : M ≤ Ws5.heap.size := Nat.le_trans hM6 hfs.size;have HM7 := Xi (HM6.out.put hfs hbs);have z2 := blkc hbs 2 (.slice An z.lines.length cn) rfl;clear hfs hbs)
       | ((with_reducible refine QbC (y := .tmp 118) 66 ?_); refine QaN (t := 66) (e := 3) (y := .tmp 118) (v := intV (i : Int)) #[intV (i : Int)] (by rfl) rfl rfl (fun _ => by kernel_rfl) ?_;intro Wm6 hfm hsm hbm hrm;have HM8 := Xi (HM7.out.kept hfm);have HX6 := Xi hrm;have hM8 : M ≤ Wm6.heap.size := Nat.le_trans hM7 hfm.size;clear hfm hsm hbm hrm)
       | ((with_reducible refine QbI (.tmp 117) (.tmp 119) ?_); refine QaI (f := intL) (.tmp 117) (.tmp 119) 66 rfl rfl M 3 _ 1 8 underlying66 Qpq rfl (by decide) _ rfl HM8.out.l _ 1 (i : Int) [intV (i : Int)] rfl HX6.out rfl (by simp [Value.oneCell']) (by assumption) (by decide) hM8 ?_;intro A6 c6 Wp6 hop hfp;have HM9 := Xi (HM8.out.int (Qbn HM8.out.l hfp) hop);clear hop hfp)
       | ((with_reducible refine Qab 66 ?_); refine QcO 66 _ _ W1.heap.size 2 69 _ _ (.slice A6 (z.lines.length + 1) c6) (by rfl) rfl rfl rfl rfl HM9.out.b Qlc rfl (show 2 < 3 by decide) rfl ?_;intro Ws6 hfs hbs;have HM10 := Xi (HM9.out.put hfs hbs);have d1 := blkc (R.mz_blk HM10.out HS2.out.b (by decide) (by decide) (by omega)) 1 (.slice (some ⟨bz,0,none⟩) (a.length + 1) cap) rfl;have HBz6 := Xi (R.mz_blk HM10.out HBz2.out (by decide) (by decide) (by omega));clear hfs hbs)
       | ((with_reducible refine Qah 69 ?_); refine Qb2 69 _ W1.heap.size 0 69 #[strV z.name,.slice A5 (z.eras.length + 1) c5,.slice A6 (z.lines.length + 1) c6] #[strV z.name,.slice A5 (z.eras.length + 1) c5,.slice A6 (z.lines.length + 1) c6] _ (by rfl) rfl rfl HM10.out.b underlying69 rfl Qeq (Qaf _) ?_)
       | ((with_reducible refine Qab 69 ?_); refine Qbg 69 _ _ bz (a.length * 3) 69 C #[strV z.name,.slice A5 (z.eras.length + 1) c5,.slice A6 (z.lines.length + 1) c6] _ (by rfl) rfl rfl rfl rfl HBz6.out Qeq (by simp [Value.oneCell']) HCF.out rfl ?_;intro W6 hf6 hb6;have HS := Xi (St.more (s' := { s with cur := some ⟨z.name,z.eras ++ [x.era],z.lines ++ [(i : Int)]⟩,opn := x.era.til.has }) HS2.out HO2.out rfl hWq (by omega) (by omega) (by omega) HB7.out HM10.out hf6 HBz6.out hb6 rfl (by rw [HAM.out]; rfl) rfl rfl);clear hf6 hb6))
      go_roundg (l.length - (i + 1))
      case measure => omega
      case rel => exact ⟨i + 1,_,_,_,_,by omega,by rw [HE.out],by go_num,by rw [HE.out]; exact HS.out⟩
   by_cases hk4 : x.kind = 4
   ·have hk := hk4;cases ho : s.opn
    ·have HE := Xi (show ofS (l.take (i + 1)) = { (s : StL) with links := s.links ++ [⟨x.target,x.name,(i : Int)⟩] } by
      rw [HStep.out];have hb : brk s (i : Int) = s := by unfold brk; rw [ho]; rfl
      unfold Qdv Qpc;rw [if_neg (by show ¬ x.kind = 1; omega),if_neg (by show ¬ x.kind = 2; omega),if_neg (by show ¬ x.kind = 3; omega),if_pos hk,hb])
     have HO := Xi ho;have HK := Xi hk;clear ho hk;go_wp2_with (first
      | ((with_reducible refine Qah 58 ?_); refine QaP 58 _ b (off + i * 29) (Qad x) _ (by rfl) rfl rfl HC.out underlying58 rfl (QaL _) ?_)
      | ((with_reducible refine Qab 58 ?_); refine Xs 58 wr.heap.size 0 58 (Qad Qae) (Qad x) (Qad x) HBZ.out (QaL _) (Qaj _) (Qao Qae x) ?_;intro W1 hf1 hb1;have hn1 := HNZ.out.fresh hf1 (fun i e => by have e : i = wr.heap.size := e; omega);have HS := Xi (HSr.out.kept hn1);have HQ := Xi hb1;have kc : W1.cell? ⟨wr.heap.size,0,none⟩ = some (intV 4) := by rw [← HK.out]; exact blkc HQ.out 0 _ rfl
         have dc : W1.cell? ⟨w.heap.size + 1,2,none⟩ = some (.slice Al s.links.length cl) := blkc HS.out.b 2 _ rfl;have nc : W1.cell? ⟨wr.heap.size,12,none⟩ = some (strV x.name) := blkc HQ.out 12 _ rfl;have tc : W1.cell? ⟨wr.heap.size,13,none⟩ = some (strV x.target) := blkc HQ.out 13 _ rfl;clear hf1 hb1 hn1 HC HBZ HNZ HSr)
      | ((with_reducible refine Qfh 63 ?_); refine Qco 63 #[(0,.tmp 135),(1,.tmp 137),(2,.tmp 138)] (.agg #[strV x.target,strV x.name,intV (i : Int)]) (by rfl) rfl (fun w => by kernel_rfl) ?_)
      | ((with_reducible refine QbC (y := .tmp 139) 28 ?_); refine QaN (t := 28) (e := 63) (y := .tmp 139) (v := .agg #[strV x.target,strV x.name,intV (i : Int)]) #[strV x.target,strV x.name,intV (i : Int)] (by rfl) rfl rfl (fun _ => by kernel_rfl) ?_;intro Wm2 hfm hsm hbm hrm;have HSm2 := Xi (HS.out.kept hfm);have HQm2 := Xb hfm HQ;have HXm2 := Xi hrm;have HFm2 := Xi hfm;have HS := HSm2;have HQ := HQm2;clear hfm hsm hbm hrm)
      | ((with_reducible refine QbI (.tmp 133) (.tmp 140) ?_); refine QaI (f := Qcp) (.tmp 133) (.tmp 140) 28 rfl rfl (w.heap.size + 2) 63 _ 3 40 underlying28 QhF rfl (by decide) _ rfl (HSm2.out.g.l) _ 1 (LinkL.mk x.target x.name (i : Int)) #[strV x.target,strV x.name,intV (i : Int)].toList rfl HXm2.out rfl (QaZ (cs := #[strV x.target,strV x.name,intV (i : Int)]) (by simp [Value.oneCell'])) (by assumption) (by decide) HSm2.out.g.base ?_;intro A2 c2 Wp2 hop hfp;have htp := Qbn (HSm2.out.g.l) hfp;have HTp2 := Xi htp;have HOp2 := Xi hop;have HBp2 := Xi (QbH HSm2.out.b htp (by decide));have HQp2 := Xi (QbH HQm2.out htp (by decide));clear htp hop hfp)
      | ((with_reducible refine Qab 28 ?_); refine Xc 28 (w.heap.size + 1) 2 31 _ _ (.slice A2 (s.links.length + 1) c2) HBp2.out Qfz rfl ?_;intro Ws2 hfs hbs;have hqs := Qgm HQp2.out HBp2.out hfs (by decide);have HS := Xi (St.push_l (s' := { (s : StL) with links := s.links ++ [⟨x.target,x.name,(i : Int)⟩] }) HSm2.out HTp2.out HOp2.out hfs hbs rfl rfl rfl);have HQ := Xi hqs;clear hfs hbs hqs))
     go_roundg (l.length - (i + 1))
     case measure => omega
     case rel => exact ⟨i + 1,_,_,_,_,by omega,by rw [HE.out]; exact congrArg Value.bool HO.out.symm,by go_num,by rw [HE.out]; exact HS.out⟩
    ·have HE := Xi (show ofS (l.take (i + 1)) = { ({ tell s (i : Int) 0 21 with opn := false } : StL) with links := s.links ++ [⟨x.target,x.name,(i : Int)⟩] } by
      rw [HStep.out];have hb : brk s (i : Int) = { tell s (i : Int) 0 21 with opn := false } := by unfold brk; rw [ho]; rfl
      unfold Qdv Qpc;rw [if_neg (by show ¬ x.kind = 1; omega),if_neg (by show ¬ x.kind = 2; omega),if_neg (by show ¬ x.kind = 3; omega),if_pos hk,hb])
     have HO := Xi ho;have HK := Xi hk;clear ho hk;go_wp2_with (first
      | ((with_reducible refine Qah 58 ?_); refine QaP 58 _ b (off + i * 29) (Qad x) _ (by rfl) rfl rfl HC.out underlying58 rfl (QaL _) ?_)
      | ((with_reducible refine Qab 58 ?_); refine Xs 58 wr.heap.size 0 58 (Qad Qae) (Qad x) (Qad x) HBZ.out (QaL _) (Qaj _) (Qao Qae x) ?_;intro W1 hf1 hb1;have hn1 := HNZ.out.fresh hf1 (fun i e => by have e : i = wr.heap.size := e; omega);have HS := Xi (HSr.out.kept hn1);have HQ := Xi hb1;have kc : W1.cell? ⟨wr.heap.size,0,none⟩ = some (intV 4) := by rw [← HK.out]; exact blkc HQ.out 0 _ rfl
         have dc : W1.cell? ⟨w.heap.size + 1,2,none⟩ = some (.slice Al s.links.length cl) := blkc HS.out.b 2 _ rfl;have nc : W1.cell? ⟨wr.heap.size,12,none⟩ = some (strV x.name) := blkc HQ.out 12 _ rfl;have tc : W1.cell? ⟨wr.heap.size,13,none⟩ = some (strV x.target) := blkc HQ.out 13 _ rfl;have d3 : W1.cell? ⟨w.heap.size + 1,3,none⟩ = some (.slice Ad s.diags.length cd) := blkc HS.out.b 3 _ rfl;clear hf1 hb1 hn1 HC HBZ HNZ HSr)
      | ((with_reducible refine QbC (y := .tmp 39) 29 ?_); refine QaN (t := 29) (e := 65) (y := .tmp 39) (v := .agg #[strV [],intV (i : Int),intV 0,intV 21]) #[strV [],intV (i : Int),intV 0,intV 21] (by rfl) rfl rfl (fun _ => by kernel_rfl) ?_;intro Wm1 hfm hsm hbm hrm;have HSm1 := Xi (HS.out.kept hfm);have HQm1 := Xb hfm HQ;have HXm1 := Xi hrm;have HFm1 := Xi hfm;have HS := HSm1;have HQ := HQm1;clear hfm hsm hbm hrm)
      | ((with_reducible refine QbI (.tmp 37) (.tmp 40) ?_); refine QaI (f := QcM) (.tmp 37) (.tmp 40) 29 rfl rfl (w.heap.size + 2) 65 _ 4 40 underlying29 Qdi rfl (by decide) _ rfl (HSm1.out.g.d) _ 1 (DiagL.mk (i : Int) 0 21) #[strV [],intV (i : Int),intV 0,intV 21].toList rfl HXm1.out rfl (QaZ (cs := #[strV [],intV (i : Int),intV 0,intV 21]) (by simp [Value.oneCell'])) (by assumption) (by decide) HSm1.out.g.base ?_;intro A1 c1 Wp1 hop hfp;have htp := Qbn (HSm1.out.g.d) hfp;have HTp1 := Xi htp;have HOp1 := Xi hop;have HBp1 := Xi (QbH HSm1.out.b htp (by decide));have HQp1 := Xi (QbH HQm1.out htp (by decide));clear htp hop hfp)
      | ((with_reducible refine Qab 29 ?_); refine Xc 29 (w.heap.size + 1) 3 31 _ _ (.slice A1 (s.diags.length + 1) c1) HBp1.out QcD rfl ?_;intro Ws1 hfs hbs;have hqs := Qgm HQp1.out HBp1.out hfs (by decide);have HS := Xi (St.push_d (s' := { tell s (i : Int) 0 21 with opn := false }) HSm1.out HTp1.out HOp1.out hfs hbs rfl rfl rfl);have HQ := Xi hqs;have kc : Ws1.cell? ⟨wr.heap.size,0,none⟩ = some (intV 4) := by rw [← HK.out]; exact blkc hqs 0 _ rfl
         have dc : Ws1.cell? ⟨w.heap.size + 1,2,none⟩ = some (.slice Al s.links.length cl) := blkc hbs 2 _ rfl;have nc : Ws1.cell? ⟨wr.heap.size,12,none⟩ = some (strV x.name) := blkc hqs 12 _ rfl;have tc : Ws1.cell? ⟨wr.heap.size,13,none⟩ = some (strV x.target) := blkc hqs 13 _ rfl;clear hfs hbs hqs)
      | ((with_reducible refine Qfh 63 ?_); refine Qco 63 #[(0,.tmp 135),(1,.tmp 137),(2,.tmp 138)] (.agg #[strV x.target,strV x.name,intV (i : Int)]) (by rfl) rfl (fun w => by kernel_rfl) ?_)
      | ((with_reducible refine QbC (y := .tmp 139) 28 ?_); refine QaN (t := 28) (e := 63) (y := .tmp 139) (v := .agg #[strV x.target,strV x.name,intV (i : Int)]) #[strV x.target,strV x.name,intV (i : Int)] (by rfl) rfl rfl (fun _ => by kernel_rfl) ?_;intro Wm2 hfm hsm hbm hrm;have HSm2 := Xi (HS.out.kept hfm);have HQm2 := Xb hfm HQ;have HXm2 := Xi hrm;have HFm2 := Xi hfm;have HS := HSm2;have HQ := HQm2;clear hfm hsm hbm hrm)
      | ((with_reducible refine QbI (.tmp 133) (.tmp 140) ?_); refine QaI (f := Qcp) (.tmp 133) (.tmp 140) 28 rfl rfl (w.heap.size + 2) 63 _ 3 40 underlying28 QhF rfl (by decide) _ rfl (HSm2.out.g.l) _ 1 (LinkL.mk x.target x.name (i : Int)) #[strV x.target,strV x.name,intV (i : Int)].toList rfl HXm2.out rfl (QaZ (cs := #[strV x.target,strV x.name,intV (i : Int)]) (by simp [Value.oneCell'])) (by assumption) (by decide) HSm2.out.g.base ?_;intro A2 c2 Wp2 hop hfp;have htp := Qbn (HSm2.out.g.l) hfp;have HTp2 := Xi htp;have HOp2 := Xi hop;have HBp2 := Xi (QbH HSm2.out.b htp (by decide));have HQp2 := Xi (QbH HQm2.out htp (by decide));clear htp hop hfp)
      | ((with_reducible refine Qab 28 ?_); refine Xc 28 (w.heap.size + 1) 2 31 _ _ (.slice A2 (s.links.length + 1) c2) HBp2.out Qfz rfl ?_;intro Ws2 hfs hbs;have hqs := Qgm HQp2.out HBp2.out hfs (by decide);have HS := Xi (St.push_l (s' := { ({ tell s (i : Int) 0 21 with opn := false } : StL) with links := s.links ++ [⟨x.target,x.name,(i : Int)⟩] }) HSm2.out HTp2.out HOp2.out hfs hbs rfl rfl rfl);have HQ := Xi hqs;clear hfs hbs hqs))
     go_roundg (l.length - (i + 1))
     case measure => omega
     case rel => exact ⟨i + 1,_,_,_,_,by omega,by rw [HE.out],by go_num,by rw [HE.out]; exact HS.out⟩
   by_cases hk5 : x.kind = 5
   ·have hk := hk5;cases ho : s.opn
    ·have HE := Xi (show ofS (l.take (i + 1)) = tell s (i : Int) x.col x.err by
      rw [HStep.out];unfold Qdv;rw [if_neg (by show ¬ x.kind = 1; omega),if_neg (by show ¬ x.kind = 2; omega),if_neg (by show ¬ x.kind = 3; omega),if_neg (by show ¬ x.kind = 4; omega),if_pos hk])
     have HO := Xi ho;have HK := Xi hk;clear ho hk;go_wp2_with (first
      | ((with_reducible refine Qah 58 ?_); refine QaP 58 _ b (off + i * 29) (Qad x) _ (by rfl) rfl rfl HC.out underlying58 rfl (QaL _) ?_)
      | ((with_reducible refine Qab 58 ?_); refine Xs 58 wr.heap.size 0 58 (Qad Qae) (Qad x) (Qad x) HBZ.out (QaL _) (Qaj _) (Qao Qae x) ?_;intro W1 hf1 hb1;have hn1 := HNZ.out.fresh hf1 (fun i e => by have e : i = wr.heap.size := e; omega);have HS := Xi (HSr.out.kept hn1);have HQ := Xi hb1;have kc : W1.cell? ⟨wr.heap.size,0,none⟩ = some (intV 5) := by rw [← HK.out]; exact blkc HQ.out 0 _ rfl
         have cc : W1.cell? ⟨wr.heap.size,28,none⟩ = some (intV x.col) := blkc HQ.out 28 _ rfl;have ec : W1.cell? ⟨wr.heap.size,27,none⟩ = some (intV x.err) := blkc HQ.out 27 _ rfl;have d3 : W1.cell? ⟨w.heap.size + 1,3,none⟩ = some (.slice Ad s.diags.length cd) := blkc HS.out.b 3 _ rfl;clear hf1 hb1 hn1 HC HBZ HNZ HSr)
      | ((with_reducible refine QbC (y := .tmp 152) 29 ?_); refine QaN (t := 29) (e := 65) (y := .tmp 152) (v := .agg #[strV [],intV (i : Int),intV x.col,intV x.err]) #[strV [],intV (i : Int),intV x.col,intV x.err] (by rfl) rfl rfl (fun _ => by kernel_rfl) ?_;intro Wm2 hfm hsm hbm hrm;have HSm2 := Xi (HS.out.kept hfm);have HQm2 := Xb hfm HQ;have HXm2 := Xi hrm;have HFm2 := Xi hfm;have HS := HSm2;have HQ := HQm2;clear hfm hsm hbm hrm)
      | ((with_reducible refine QbI (.tmp 146) (.tmp 153) ?_); refine QaI (f := QcM) (.tmp 146) (.tmp 153) 29 rfl rfl (w.heap.size + 2) 65 _ 4 40 underlying29 Qdi rfl (by decide) _ rfl (HSm2.out.g.d) _ 1 (DiagL.mk (i : Int) x.col x.err) #[strV [],intV (i : Int),intV x.col,intV x.err].toList rfl HXm2.out rfl (QaZ (cs := #[strV [],intV (i : Int),intV x.col,intV x.err]) (by simp [Value.oneCell'])) (by assumption) (by decide) HSm2.out.g.base ?_;intro A2 c2 Wp2 hop hfp;have htp := Qbn (HSm2.out.g.d) hfp;have HTp2 := Xi htp;have HOp2 := Xi hop;have HBp2 := Xi (QbH HSm2.out.b htp (by decide));have HQp2 := Xi (QbH HQm2.out htp (by decide));clear htp hop hfp)
      | ((with_reducible refine Qab 29 ?_); refine Xc 29 (w.heap.size + 1) 3 31 _ _ (.slice A2 (s.diags.length + 1) c2) HBp2.out QcD rfl ?_;intro Ws2 hfs hbs;have hqs := Qgm HQp2.out HBp2.out hfs (by decide);have HS := Xi (St.push_d (s' := tell s (i : Int) x.col x.err) HSm2.out HTp2.out HOp2.out hfs hbs rfl rfl rfl);have HQ := Xi hqs;clear hfs hbs hqs))
     go_roundg (l.length - (i + 1))
     case measure => omega
     case rel => exact ⟨i + 1,_,_,_,_,by omega,by rw [HE.out]; exact congrArg Value.bool HO.out.symm,by go_num,by rw [HE.out]; exact HS.out⟩
    ·have HE := Xi (show ofS (l.take (i + 1)) = tell s (i : Int) x.col x.err by
      rw [HStep.out];unfold Qdv;rw [if_neg (by show ¬ x.kind = 1; omega),if_neg (by show ¬ x.kind = 2; omega),if_neg (by show ¬ x.kind = 3; omega),if_neg (by show ¬ x.kind = 4; omega),if_pos hk])
     have HO := Xi ho;have HK := Xi hk;clear ho hk;go_wp2_with (first
      | ((with_reducible refine Qah 58 ?_); refine QaP 58 _ b (off + i * 29) (Qad x) _ (by rfl) rfl rfl HC.out underlying58 rfl (QaL _) ?_)
      | ((with_reducible refine Qab 58 ?_); refine Xs 58 wr.heap.size 0 58 (Qad Qae) (Qad x) (Qad x) HBZ.out (QaL _) (Qaj _) (Qao Qae x) ?_;intro W1 hf1 hb1;have hn1 := HNZ.out.fresh hf1 (fun i e => by have e : i = wr.heap.size := e; omega);have HS := Xi (HSr.out.kept hn1);have HQ := Xi hb1;have kc : W1.cell? ⟨wr.heap.size,0,none⟩ = some (intV 5) := by rw [← HK.out]; exact blkc HQ.out 0 _ rfl
         have cc : W1.cell? ⟨wr.heap.size,28,none⟩ = some (intV x.col) := blkc HQ.out 28 _ rfl;have ec : W1.cell? ⟨wr.heap.size,27,none⟩ = some (intV x.err) := blkc HQ.out 27 _ rfl;have d3 : W1.cell? ⟨w.heap.size + 1,3,none⟩ = some (.slice Ad s.diags.length cd) := blkc HS.out.b 3 _ rfl;clear hf1 hb1 hn1 HC HBZ HNZ HSr)
      | ((with_reducible refine QbC (y := .tmp 152) 29 ?_); refine QaN (t := 29) (e := 65) (y := .tmp 152) (v := .agg #[strV [],intV (i : Int),intV x.col,intV x.err]) #[strV [],intV (i : Int),intV x.col,intV x.err] (by rfl) rfl rfl (fun _ => by kernel_rfl) ?_;intro Wm2 hfm hsm hbm hrm;have HSm2 := Xi (HS.out.kept hfm);have HQm2 := Xb hfm HQ;have HXm2 := Xi hrm;have HFm2 := Xi hfm;have HS := HSm2;have HQ := HQm2;clear hfm hsm hbm hrm)
      | ((with_reducible refine QbI (.tmp 146) (.tmp 153) ?_); refine QaI (f := QcM) (.tmp 146) (.tmp 153) 29 rfl rfl (w.heap.size + 2) 65 _ 4 40 underlying29 Qdi rfl (by decide) _ rfl (HSm2.out.g.d) _ 1 (DiagL.mk (i : Int) x.col x.err) #[strV [],intV (i : Int),intV x.col,intV x.err].toList rfl HXm2.out rfl (QaZ (cs := #[strV [],intV (i : Int),intV x.col,intV x.err]) (by simp [Value.oneCell'])) (by assumption) (by decide) HSm2.out.g.base ?_;intro A2 c2 Wp2 hop hfp;have htp := Qbn (HSm2.out.g.d) hfp;have HTp2 := Xi htp;have HOp2 := Xi hop;have HBp2 := Xi (QbH HSm2.out.b htp (by decide));have HQp2 := Xi (QbH HQm2.out htp (by decide));clear htp hop hfp)
      | ((with_reducible refine Qab 29 ?_); refine Xc 29 (w.heap.size + 1) 3 31 _ _ (.slice A2 (s.diags.length + 1) c2) HBp2.out QcD rfl ?_;intro Ws2 hfs hbs;have hqs := Qgm HQp2.out HBp2.out hfs (by decide);have HS := Xi (St.push_d (s' := tell s (i : Int) x.col x.err) HSm2.out HTp2.out HOp2.out hfs hbs rfl rfl rfl);have HQ := Xi hqs;clear hfs hbs hqs))
     go_roundg (l.length - (i + 1))
     case measure => omega
     case rel => exact ⟨i + 1,_,_,_,_,by omega,by rw [HE.out]; exact congrArg Value.bool HO.out.symm,by go_num,by rw [HE.out]; exact HS.out⟩
   have h1 := hk;have h2 := hk2;have h3 := hk3;have h4 := hk4;have h5 := hk5;clear hk hk2 hk3 hk4 hk5;cases ho : s.opn
   ·have HE := Xi (show ofS (l.take (i + 1)) = s by
     rw [HStep.out];unfold Qdv;rw [if_neg h1,if_neg h2,if_neg h3,if_neg h4,if_neg h5])
    have HO := Xi ho;have e1 : (x.kind == 1) = false := by simpa using h1
    have e2 : (x.kind == 2) = false := by simpa using h2
    have e3 : (x.kind == 3) = false := by simpa using h3
    have e4 : (x.kind == 4) = false := by simpa using h4
    have e5 : (x.kind == 5) = false := by simpa using h5
    clear ho h1 h2 h3 h4 h5;go_wp2_with (first
     | ((with_reducible refine Qah 58 ?_); refine QaP 58 _ b (off + i * 29) (Qad x) _ (by rfl) rfl rfl HC.out underlying58 rfl (QaL _) ?_)
     | ((with_reducible refine Qab 58 ?_); refine Xs 58 wr.heap.size 0 58 (Qad Qae) (Qad x) (Qad x) HBZ.out (QaL _) (Qaj _) (Qao Qae x) ?_;intro W1 hf1 hb1;have hn1 := HNZ.out.fresh hf1 (fun i e => by have e : i = wr.heap.size := e; omega);have HS := Xi (HSr.out.kept hn1);have HQ := Xi hb1;have kc : W1.cell? ⟨wr.heap.size,0,none⟩ = some (intV x.kind) := blkc HQ.out 0 _ rfl;clear hf1 hb1 hn1 HC HBZ HNZ HSr))
    go_roundg (l.length - (i + 1))
    case measure => omega
    case rel => exact ⟨i + 1,_,_,_,_,by omega,by rw [HE.out]; exact congrArg Value.bool HO.out.symm,by go_num,by rw [HE.out]; exact HS.out⟩
   ·have HE := Xi (show ofS (l.take (i + 1)) = s by
     rw [HStep.out];unfold Qdv;rw [if_neg h1,if_neg h2,if_neg h3,if_neg h4,if_neg h5])
    have HO := Xi ho;have e1 : (x.kind == 1) = false := by simpa using h1
    have e2 : (x.kind == 2) = false := by simpa using h2
    have e3 : (x.kind == 3) = false := by simpa using h3
    have e4 : (x.kind == 4) = false := by simpa using h4
    have e5 : (x.kind == 5) = false := by simpa using h5
    clear ho h1 h2 h3 h4 h5;go_wp2_with (first
     | ((with_reducible refine Qah 58 ?_); refine QaP 58 _ b (off + i * 29) (Qad x) _ (by rfl) rfl rfl HC.out underlying58 rfl (QaL _) ?_)
     | ((with_reducible refine Qab 58 ?_); refine Xs 58 wr.heap.size 0 58 (Qad Qae) (Qad x) (Qad x) HBZ.out (QaL _) (Qaj _) (Qao Qae x) ?_;intro W1 hf1 hb1;have hn1 := HNZ.out.fresh hf1 (fun i e => by have e : i = wr.heap.size := e; omega);have HS := Xi (HSr.out.kept hn1);have HQ := Xi hb1;have kc : W1.cell? ⟨wr.heap.size,0,none⟩ = some (intV x.kind) := blkc HQ.out 0 _ rfl;clear hf1 hb1 hn1 HC HBZ HNZ HSr))
    go_roundg (l.length - (i + 1))
    case measure => omega
    case rel => exact ⟨i + 1,_,_,_,_,by omega,by rw [HE.out]; exact congrArg Value.bool HO.out.symm,by go_num,by rw [HE.out]; exact HS.out⟩
  ·obtain rfl : i = l.length := by omega
   rw [List.take_length] at hS HZn hszs hil ⊢;obtain ⟨s,hsl⟩ : ∃ s,ofS l = s := ⟨_,rfl⟩;rw [hsl] at hS HZn hszs ⊢;obtain ⟨hL1,hL2,hL3,hL4⟩ := Qbt (s := s) (by omega);have hi1 : (l.length : Int) ≤ (l.length : Int) := Int.le_refl _;have HS := Xi hS;clear hS;have HQE0 := Xi (HS.out.f.blk HQ0.out (by omega));have hDW := HS.out.f.size;cases ho : s.opn
   ·have HEnd := Xi (show ofD l = s.doc by
     unfold ofD;rw [hsl];unfold endD endS;simp [ho])
    have HQE := HQE0;clear ho hsl;go_wp2_with (first
     | ((with_reducible refine Qah 31 ?_); refine Qb2 31 _ (w.heap.size + 1) 0 31 #[.slice Ar s.rules.length cr,.slice Az s.zones.length cz,.slice Al s.links.length cl,.slice Ad s.diags.length cd] #[.slice Ar s.rules.length cr,.slice Az s.zones.length cz,.slice Al s.links.length cl,.slice Ad s.diags.length cd] _ (by rfl) rfl rfl HS.out.b underlying31 rfl Qc0 (Qaf _) ?_)
     | ((with_reducible refine Qab 31 ?_); refine Qbg 31 _ _ w.heap.size 0 31 _ #[.slice Ar s.rules.length cr,.slice Az s.zones.length cz,.slice Al s.links.length cl,.slice Ad s.diags.length cd] #[.slice Ar s.rules.length cr,.slice Az s.zones.length cz,.slice Al s.links.length cl,.slice Ad s.diags.length cd] (by rfl) rfl rfl rfl rfl HQE.out Qc0 (by simp [Value.oneCell']) (show 0 + 4 ≤ 4 by decide) rfl ?_;intro W9 hf9 hb9;have HE9 := Xi hb9;have HF9 := Xi hf9;clear hf9 hb9))
    (try simp only [Exit.inBlock,Exit.then]);refine bodyPost_ret (QoF rfl HE9.out _ rfl) rfl ?_;exact ⟨_,_,_,_,rfl,by rw [HEnd.out]; exact R.Qgk (R.Qmr HS.out.g (by omega)) HF9.out HQE.out,(HF0.out.fresh HS.out.f (fun i h => by have h : w.heap.size + 1 ≤ i := h; omega)).fresh HF9.out (fun i h => by have h : i = w.heap.size := h; omega)⟩
   ·have hS1 := HS.out;obtain ⟨z,hc⟩ := HZn.out.1 ho;have hzk := HZn.out.2 z (Qc6.2 (.inr hc));obtain ⟨M,bz,cap,a,⟨z',ve,vn⟩,hvz,hyz,ham,hO⟩ := R.Qil hS1.g hc;have hyz : z = z' := hyz.symm;subst hyz;injection hvz with ez1 ez2 ez3;have ez3 := ez3.symm;subst ez1 ez3;obtain ⟨Ae,ce,hve⟩ : ∃ A c,ve = .slice A z.eras.length c := hO.hy.e.slice;obtain ⟨An,cn,hvn⟩ : ∃ A c,vn = .slice A z.lines.length c := hO.hy.l.slice;subst hve hvn;obtain ⟨C,hCb,hBb,hCf,hC3⟩ := R.Qjk hO;have ez2 : s.zones.length = a.length + 1 := ez2;rw [ez2] at hS1;have ha5 : a.length ≤ 100000 := by omega
    obtain ⟨hzl,hz1,hz8⟩ := hzk;obtain ⟨pre,t,hpt⟩ : ∃ pre t,z.lines = pre ++ [t] := by
     rcases List.eq_nil_or_concat z.lines with e | ⟨a,y,e⟩
     ·rw [e] at hzl; simp at hzl; rw [hzl] at hz1; simp at hz1
     ·exact ⟨a,y,by rw [e,List.concat_eq_append]⟩
    have hlast : Qip z = t := by unfold Qip; rw [hpt]; simp [List.getLastD_eq_getLast?]
    have hpl : pre.length ≤ 8 := by
     have h2 := congrArg List.length hpt;rw [List.length_append] at h2;simp only [List.length_cons,List.length_nil] at h2;omega
    have hol := hO.hy.l;have hol : Own wr M 3 1 intL (.slice An z.lines.length cn) z.lines := hol;rw [hpt] at hol;obtain ⟨bn,cn',Cn,hvn,hMn,hbn,hcn⟩ := R.Qpl hol;injection hvn with en1 en2 en3;subst en1 en3;have en2 : z.lines.length = pre.length + 1 := by rw [hpt,List.length_append]; rfl
    rw [en2] at hC3;have d1 : wr.cell? ⟨w.heap.size + 1,1,none⟩ = some (.slice (some ⟨bz,0,none⟩) (a.length + 1) cap) := blkc hS1.b 1 _ rfl;have hnz := Fr.new wr (.cells #[strV z.name,.slice Ae z.eras.length ce,.slice (some ⟨bn,0,none⟩) (pre.length + 1) cn] 69) (fun _ => False);have HEnd := Xi (show ofD l = (tell s t 0 21).doc by
     unfold ofD;rw [hsl];unfold endD endS;simp [ho,hc,hlast])
    have HZ3 := Xi (show ∀ j,j < (#[strV z.name,.slice Ae z.eras.length ce,.slice (some ⟨bn,0,none⟩) (pre.length + 1) cn] : Array Value).size → C[a.length * 3 + j]? = (#[strV z.name,.slice Ae z.eras.length ce,.slice (some ⟨bn,0,none⟩) (pre.length + 1) cn] : Array Value)[j]? from fun j hj => (hC3 j hj).trans (by simp [Qa1]));have HBz := Xi hCb;have HS2 := Xi ((hS1.kept hnz).kept (Fr.drew _ (fun _ => False)));have HB8 := Xi ((Fr.drew _ (fun _ => False)).blk (Blk.made wr 69 #[strV z.name,.slice Ae z.eras.length ce,.slice (some ⟨bn,0,none⟩) (pre.length + 1) cn]) (fun h => h));have HBn := Xi ((Fr.drew _ (fun _ => False)).blk (hnz.blk hbn (fun h => h)) (fun h => h));have HCn := Xi hcn;have hbase : w.heap.size + 2 ≤ (wr.alloc (.cells #[strV z.name,.slice Ae z.eras.length ce,.slice (some ⟨bn,0,none⟩) (pre.length + 1) cn] 69)).drew.heap.size := HS2.out.g.base;have hbnD : bn ≠ w.heap.size + 1 := by have := hO.hB; omega
    have hw64 := Xi ((IntWalk.i64_left _).trans (IntWalk.wrap64_in (pre.length : Int) (by omega)));clear ho hc hS1 hO hC3 hCb hzl hpt hlast hol hbn hcn hsl;go_wp2_with ((with_reducible refine Qah 69 ?_); refine Xl 69 bz (a.length * 3) 69 C #[strV z.name,.slice Ae z.eras.length ce,.slice (some ⟨bn,0,none⟩) (pre.length + 1) cn] HBz.out underlying69 Qeq HZ3.out ?_);refine wp_region_held_drew (S := fun w' => Fr (wr.alloc (.cells #[strV z.name,.slice Ae z.eras.length ce,.slice (some ⟨bn,0,none⟩) (pre.length + 1) cn] 69)).drew w' (PB (w.heap.size + 1) (w.heap.size + 2) 65 (wr.alloc (.cells #[strV z.name,.slice Ae z.eras.length ce,.slice (some ⟨bn,0,none⟩) (pre.length + 1) cn] 69)).drew)) (by kernel_rfl) (Fr.refl _ _) (fun hHeld => ?_);refine Xt 0 (v := ?_) (fun w' hSw => ?_) ?_;rotate_left
    ·skip;go_simp
     try with_reducible rfl
    try simp only [Act.put,Xa]
    refine Xt 2 (v := ?_) (fun w' hSw => ?_) ?_;rotate_left
    ·skip;go_simp
     try with_reducible rfl
    try simp only [Act.put,Xa]
    refine Xt 3 (v := ?_) (fun w' hSw => ?_) ?_;rotate_left
    ·have k8 := blkc (R.QpZ HB8.out hSw (by decide) (by omega)) 2 _ rfl; go_simp; try with_reducible rfl
    try simp only [Act.put,Xa]
    refine Xt 4 (v := ?_) (fun w' hSw => ?_) ?_;rotate_left
    ·skip;go_simp
     try with_reducible rfl
    try simp only [Act.put,Xa]
    refine Xt 5 (v := ?_) (fun w' hSw => ?_) ?_;rotate_left
    ·have k8 := blkc (R.QpZ HB8.out hSw (by decide) (by omega)) 2 _ rfl; go_simp; try with_reducible rfl
    try simp only [Act.put,Xa]
    refine Xt 6 (v := ?_) (fun w' hSw => ?_) ?_;rotate_left
    ·skip;go_simp
     try with_reducible rfl
    try simp only [Act.put,Xa]
    refine Xt 7 (v := ?_) (fun w' hSw => ?_) ?_;rotate_left
    ·have kw := hw64.out; go_simp; try with_reducible rfl
    try simp only [Act.put,Xa]
    refine Xt 8 (v := ?_) (fun w' hSw => ?_) ?_;rotate_left
    ·have kw := hw64.out; have kl : (pre.length : Int) < (pre.length : Int) + 1 := by omega
     go_simp; try with_reducible rfl
    try simp only [Act.put,Xa]
    refine Xt 9 (v := ?_) (fun w' hSw => ?_) ?_;rotate_left
    ·have kn := blkc (R.QpZ HBn.out hSw (by decide) hbnD) pre.length _ HCn.out; go_simp; try with_reducible rfl
    try simp only [Act.put,Xa]
    refine Xt 10 (v := ?_) (fun w' hSw => ?_) ?_;rotate_left
    ·skip;go_simp
     try with_reducible rfl
    try simp only [Act.put,Xa]
    refine Qec (f := QcM) 1 11 12 _ _ _ rfl rfl rfl (by kernel_rfl) (by kernel_rfl) (by kernel_rfl) (by kernel_rfl) (by decide) rfl rfl rfl rfl rfl rfl rfl (by decide) rfl
     (w.heap.size + 1) 3 (w.heap.size + 2) 31 _ s.diags.length cd Ad #[strV [],intV t,intV 0,intV 21] (.agg #[strV [],intV t,intV 0,intV 21]) (DiagL.mk t 0 21) (by omega) HS2.out.b rfl rfl rfl rfl rfl rfl (fun w => by kernel_rfl) rfl (by simp [Value.oneCell']) rfl rfl _ 4 40 underlying29 Qdi rfl (by decide) rfl HS2.out.g.d (by omega) (by decide) hbase
     (fun W hf => hf.mono (fun _ _ h => Or.inr h)) ?_
    intro A9 c9 w9 hS9 ho9 hb9 hf9;clear hHeld
    try simp only [Act.put,Xa]
    refine Xt 13 (v := ?_) (fun w' hSw => ?_) ?_;rotate_left
    ·skip;go_simp
     try with_reducible rfl
    try simp only [Act.put,Xa]
    refine Qe3 14 _ rfl (by kernel_rfl) (by kernel_rfl) rfl rfl rfl (w.heap.size + 1) 3 _ _ (.slice A9 (s.diags.length + 1) c9) hb9 (show 3 < 4 by decide) rfl rfl rfl QcD (fun W hf => hS9.trans hf (fun _ _ h => h) (fun i _ h => Or.inl h)) ?_;intro W10 hs10 hb10;have HS10 := Xi (St.push_d (s' := tell s t 0 21) HS2.out hf9 ho9 hs10 hb10 rfl rfl rfl);have HQE := Xi (HS10.out.f.blk HQ0.out (by omega));clear ho9 hb9 hf9 hs10 hb10 hS9
    try simp only [Act.put,Xa]
    go_wp2_with (first
     | ((with_reducible refine Qah 31 ?_); refine Qb2 31 _ (w.heap.size + 1) 0 31 #[.slice Ar s.rules.length cr,.slice (some ⟨bz,0,none⟩) (a.length + 1) cap,.slice Al s.links.length cl,.slice A9 (s.diags.length + 1) c9] #[.slice Ar s.rules.length cr,.slice (some ⟨bz,0,none⟩) (a.length + 1) cap,.slice Al s.links.length cl,.slice A9 (s.diags.length + 1) c9] _ (by rfl) rfl rfl HS10.out.b underlying31 rfl Qc0 (Qaf _) ?_)
     | ((with_reducible refine Qab 31 ?_); refine Qbg 31 _ _ w.heap.size 0 31 _ #[.slice Ar s.rules.length cr,.slice (some ⟨bz,0,none⟩) (a.length + 1) cap,.slice Al s.links.length cl,.slice A9 (s.diags.length + 1) c9] #[.slice Ar s.rules.length cr,.slice (some ⟨bz,0,none⟩) (a.length + 1) cap,.slice Al s.links.length cl,.slice A9 (s.diags.length + 1) c9] (by rfl) rfl rfl rfl rfl HQE.out Qc0 (by simp [Value.oneCell']) (show 0 + 4 ≤ 4 by decide) rfl ?_;intro W9 hf9 hb9;have HE9 := Xi hb9;have HF9 := Xi hf9;clear hf9 hb9))
    (try simp only [Exit.inBlock,Exit.then]);refine bodyPost_ret (QoF rfl HE9.out _ rfl) rfl ?_;exact ⟨_,_,_,_,rfl,by rw [HEnd.out]; exact R.Qgk (R.Qmr HS10.out.g (by omega)) HF9.out HQE.out,(HF0.out.fresh HS10.out.f (fun i h => by have h : w.heap.size + 1 ≤ i := h; omega)).fresh HF9.out (fun i h => by have h : i = w.heap.size := h; omega)⟩
end Go.Proofs.YtlfjknndkjgciaaGreatDoor
