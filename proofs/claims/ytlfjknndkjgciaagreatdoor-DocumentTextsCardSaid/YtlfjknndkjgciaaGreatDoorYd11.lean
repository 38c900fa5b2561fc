import Derived.Below
import Derived.Laws.OwnMore
import Derived.Deep.Draws
import Derived.Laws.Rows
import Derived.WalkKit
import Derived.Maps.AppendAt
import Derived.OrdersHeld
import Derived.Test.YtlfjknndkjgciaaGreatDoorProg
import Derived.Test.YtlfjknndkjgciaaGreatDoorYd07
import Derived.BigQuiet
import Derived.Tactics2
import Derived.Laws.StructEq
import Derived.Test.YtlfjknndkjgciaaGreatDoorYd04
import Derived.Test.YtlfjknndkjgciaaGreatDoorYd10
import Derived.Deep.QuietTactic
import Derived.Deep.DeepCutAuto
import Derived.WalkLawsBesides
import Derived.IntWalk
import Derived.Lib.Hide
import Derived.Lib.IndexAny
import Derived.Deep.LoopGhost
import Derived.LoopTactic
namespace Go.Mem
open Go.RowKit

/-- block g is just the cells cs,of the element type t,none of them frozen -/
def Blk (w : World) (g : Nat) (t : TypeId) (cs : Array Value) : Prop := w.heap[g]? = some (.cells cs t (0,0))

/-- what lies at a place of cells -/
theorem Qaa {w : World} {g : Nat} {t : TypeId} {cs : Array Value} (h : Blk w g t cs) (i : Nat) : w.cell? ⟨g,i,none⟩ = cs[i]? := by
 unfold Blk at h;simp [World.cell?,h]
theorem Qac {w : World} {g : Nat} {t : TypeId} {cs : Array Value} (h : Blk w g t cs) (i : Nat) : w.frozen? ⟨g,i,none⟩ = false := by
 unfold Blk at h;simp [World.frozen?,h]
theorem Blk.lt {w : World} {g : Nat} {t : TypeId} {cs : Array Value} (h : Blk w g t cs) : g < w.heap.size := by
 unfold Blk at h;exact (Array.getElem?_eq_some_iff.1 h).1
theorem Blk.put {w : World} {g : Nat} {t : TypeId} {cs : Array Value} (h : Blk w g t cs) (i : Nat) (v : Value) : Blk (w.setCell ⟨g,i,none⟩ v) g t (cs.setIfInBounds i v) := by
 unfold Blk at h ⊢;simp [World.setCell,Array.getElem?_modify,h]
theorem Blk.put' {w : World} {g : Nat} {t : TypeId} {cs cs' : Array Value} (h : Blk w g t cs) (i : Nat) (v : Value) (hc : cs.setIfInBounds i v = cs') : Blk (w.setCell ⟨g,i,none⟩ v) g t cs' := hc ▸ h.put i v
theorem Blk.made (w : World) (t : TypeId) (cs : Array Value) : Blk (w.alloc (.cells cs t)) w.heap.size t cs := heap_alloc_new w _

/-- from w to w' only blocks in S have turned (and new ones have come) -/
structure Fr (w w' : World) (S : Nat → Prop) : Prop where
 os : w'.os = w.os
 tape : w'.tape = w.tape
 output : w'.output = w.output
 size : w.heap.size ≤ w'.heap.size
 block : ∀ k,k < w.heap.size → ¬ S k → w'.heap[k]? = w.heap[k]?

theorem Fr.refl (w : World) (S : Nat → Prop) : Fr w w S := ⟨rfl,rfl,rfl,Nat.le_refl _,fun _ _ _ => rfl⟩
theorem Fr.trans {a b c : World} {S T U : Nat → Prop} (h : Fr a b S) (k : Fr b c T) (hs : ∀ i,i < a.heap.size → S i → U i) (ht : ∀ i,i < a.heap.size → T i → U i) : Fr a c U :=
 ⟨k.os.trans h.os,k.tape.trans h.tape,k.output.trans h.output,Nat.le_trans h.size k.size,fun i hi hu =>
  (k.block i (Nat.lt_of_lt_of_le hi h.size) (fun x => hu (ht i hi x))).trans (h.block i hi (fun x => hu (hs i hi x)))⟩
theorem Fr.mono {a b : World} {S U : Nat → Prop} (h : Fr a b S) (hs : ∀ i,i < a.heap.size → S i → U i) : Fr a b U :=
 ⟨h.os,h.tape,h.output,h.size,fun i hi hu => h.block i hi (fun x => hu (hs i hi x))⟩
theorem Fr.blk {a b : World} {S : Nat → Prop} {g : Nat} {t : TypeId} {cs : Array Value} (h : Fr a b S) (hb : Blk a g t cs) (hg : ¬ S g) : Blk b g t cs :=
 (h.block g hb.lt hg).trans hb
theorem Fr.set {w : World} {a : Addr} {v : Value} {S : Nat → Prop} (h : S a.block) : Fr w (w.setCell a v) S :=
 ⟨rfl,rfl,rfl,by simp [World.setCell],fun k _ hk => Below.heap_setCell _ _ _ _ (fun e => hk (e ▸ h))⟩
theorem Fr.new (w : World) (o : Obj) (S : Nat → Prop) : Fr w (w.alloc o) S :=
 ⟨rfl,rfl,rfl,by simp,fun k hk _ => Below.heap_alloc _ _ _ hk⟩
theorem Fr.drew (w : World) (S : Nat → Prop) : Fr w w.drew S := ⟨rfl,rfl,rfl,Nat.le_refl _,fun _ _ _ => rfl⟩
theorem Fr.drewN (w : World) (n : Nat) (S : Nat → Prop) : Fr w (w.drewN n) S := ⟨rfl,rfl,rfl,Nat.le_refl _,fun _ _ _ => rfl⟩
theorem Fr.below {a b : World} {S : Nat → Prop} {B : Nat} (h : Fr a b S) (hB : B ≤ a.heap.size) (hs : ∀ k,S k → B ≤ k) : Below B a b :=
 ⟨h.os,h.tape,h.output,h.size,fun k hk => h.block k (by omega) (fun x => by have := hs k x; omega)⟩
theorem Fr.ofBelow {a b : World} {B : Nat} (h : Below B a b) : Fr a b (fun k => B ≤ k) :=
 ⟨h.os,h.tape,h.output,h.size,fun k _ hk => h.block k (by omega)⟩
theorem Fr.ofGrown {a b : World} {row : Option Nat} (h : a.grownBy b row) : Fr a b (fun k => some k = row) :=
 ⟨h.os,h.tape,h.output,h.size,fun k hk hn => h.block k hk hn⟩


theorem Fr.own {a b : World} {S : Nat → Prop} {base : Nat} {e : TypeId} {size n : Nat} {v : Value} {xs : List Value} (h : Fr a b S) (ho : a.ownsRow base e size v n xs) (hg : ∀ g,v.ownBlock = some g → ¬ S g) : b.ownsRow base e size v n xs := by
 refine ⟨ho.1,?_⟩;rcases ho.2 with hn | ⟨g,cap,cur,rfl,hb,hgg,rest⟩
 ·exact .inl hn
 ·exact .inr ⟨g,cap,cur,rfl,hb,(h.block g (Array.getElem?_eq_some_iff.1 hgg).1 (hg g rfl)).trans hgg,rest⟩

theorem QaJ {w : World} {base : Nat} {e : TypeId} {size n : Nat} {v : Value} {xs : List Value} (h : w.ownsRow base e size v n xs) : ∃ A c,v = .slice A n c := by
 rcases h.2 with ⟨rfl,rfl⟩ | ⟨g',cap,cur,rfl,_,hh,_⟩
 ·exact ⟨_,_,rfl⟩
 ·exact ⟨_,_,rfl⟩
/-- the slice with the address A and the length n reads as the cells xs,size cells an element -/
def Rd (w : World) (size : Nat) (A : Option Addr) (n : Nat) (xs : List Value) : Prop :=
 xs.length = n * size ∧ (0 < n → ∃ b off,A = some ⟨b,off,none⟩ ∧ ∀ j u,xs[j]? = some u → w.cell? ⟨b,off + j,none⟩ = some u)

theorem Rd.zero (w : World) (size : Nat) (A : Option Addr) : Rd w size A 0 [] := ⟨by simp,fun h => absurd h (by omega)⟩
theorem Rd.fr {w w' : World} {S : Nat → Prop} {size : Nat} {A : Option Addr} {n : Nat} {xs : List Value} (h : Rd w size A n xs) (hf : Fr w w' S)
  (hs : ∀ b off,A = some ⟨b,off,none⟩ → 0 < n → ¬ S b) : Rd w' size A n xs := by
 refine ⟨h.1,fun hn => ?_⟩;obtain ⟨b,off,e,hc⟩ := h.2 hn;refine ⟨b,off,e,fun j u hu => ?_⟩;have hj := hc j u hu;have hlt : b < w.heap.size := World.block_lt_of_cell? w _ hj;rw [World.cell?_of_block (w := w) (hf.block b hlt (hs b off e hn))];exact hj
theorem Rd.at_ {w : World} {A : Option Addr} {n : Nat} {xs : List Value} (h : Rd w 1 A n xs) {k : Nat} (hk : k < n) : ∃ b off u,A = some ⟨b,off,none⟩ ∧ xs[k]? = some u ∧ w.cell? ⟨b,off + k,none⟩ = some u := by
 obtain ⟨b,off,e,hc⟩ := h.2 (by omega);have hl : k < xs.length := by have := h.1; omega
 exact ⟨b,off,xs[k],e,List.getElem?_eq_getElem hl,hc k _ (List.getElem?_eq_getElem hl)⟩
theorem Rd.lt {w : World} {size : Nat} {n b off : Nat} {xs : List Value} (h : Rd w size (some ⟨b,off,none⟩) n xs) (hn : 0 < n) (hsz : 0 < size) : b < w.heap.size := by
 obtain ⟨b',off',e,hc⟩ := h.2 hn;injection e with e;injection e with e1 e2;subst e1 e2;have hl : 0 < xs.length := by rw [h.1]; exact Nat.mul_pos hn hsz
 exact World.block_lt_of_cell? w _ (hc 0 _ (List.getElem?_eq_getElem hl))

theorem Qex {w : World} {base : Nat} {e : TypeId} {size n : Nat} {v : Value} {xs : List Value} (h : w.ownsRow base e size v n xs) :
  ∃ A c,v = .slice A n c ∧ n ≤ c ∧ c ≤ maxLen ∧ Rd w size A n xs ∧ (A = none → n = 0 ∧ c = 0) ∧ (∀ a,A = some a → ∃ g,a = ⟨g,0,none⟩ ∧ v.ownBlock = some g ∧ base ≤ g ∧ g < w.heap.size) := by
 have hx := h.1;rcases h.2 with ⟨rfl,rfl⟩ | ⟨g,cap,cur,rfl,hb,hh,hn,hc,hs,ht⟩
 ·have : xs = [] := List.eq_nil_of_length_eq_zero (by simpa using hx);subst this;exact ⟨_,_,rfl,Nat.le_refl _,Nat.zero_le _,Rd.zero _ _ _,fun _ => ⟨rfl,rfl⟩,fun a e => by cases e⟩
 ·refine ⟨_,_,rfl,hn,hc,⟨hx,fun _ => ⟨g,0,rfl,fun j u hu => ?_⟩⟩,(fun e => by cases e),(fun a e => by cases e; exact ⟨g,rfl,rfl,hb,(Array.getElem?_eq_some_iff.1 hh).1⟩)⟩;have := h.cells (g := g) rfl j u hu;have hadd : (⟨g,0,none⟩ : Addr).add j = ⟨g,0 + j,none⟩ := by unfold Addr.add; split <;> simp_all
  rw [hadd] at this;exact this

/-- a piece of a slice -/
theorem Rd.cut {w : World} {size : Nat} {A : Option Addr} {n : Nat} {xs : List Value} (h : Rd w size A n xs) {lo hi : Nat} (hl : lo ≤ hi) (hh : hi ≤ n) :
  Rd w size (A.map (·.add (lo * size))) (hi - lo) ((xs.drop (lo * size)).take ((hi - lo) * size)) := by
 refine ⟨?_,fun hn => ?_⟩
 ·rw [List.length_take,List.length_drop,h.1,← Nat.sub_mul];exact Nat.min_eq_left (Nat.mul_le_mul_right _ (by omega))
 ·obtain ⟨b,off,rfl,hc⟩ := h.2 (by omega);refine ⟨b,off + lo * size,?_,fun j u hu => ?_⟩
  ·simp [Addr.add]
  ·rw [List.getElem?_take] at hu;split at hu
   ·rw [List.getElem?_drop] at hu;have := hc _ u hu;rw [← Nat.add_assoc] at this;exact this
   ·cases hu

section
variable {P : Program} (w : World)
/-- append onto a row of the call's own,the source nil,empty or not -/
theorem QiP (base : Nat) (t ty e : TypeId) (i : TypeInfo) (z : Value) (size bytes : Nat) (ht : P.underlying t = some (.slice e)) (hi : P.info? e = some i) (hz : i.zero = some z)
  (hsize : i.size = size) (hby : i.bytes = bytes) (hzs : z.cells.size = size) (hsz : 0 < size)
  (v : Value) (n : Nat) (xs : List Value) (hown : w.ownsRow base e size v n xs)
  (A : Option Addr) (m c : Nat) (news : List Value) (hr : Rd w size A m news) (h1 : ∀ u ∈ news,u.oneCell' = true)
  (h63 : n + m ≤ maxLen) (hbytes : (n + m) * bytes ≤ 140737488355328) (hbase : base ≤ w.heap.size) :
  ∃ v' w',(Builtin.append_ #[t,t] ty #[v,.slice A m c]).run P w = .ok v' w' ∧ w'.ownsRow base e size v' (n + m) (xs ++ news) ∧ w.grownBy w' v.ownBlock ∧
   (v'.ownBlock = v.ownBlock ∨ v'.ownBlock = some w.heap.size) := by
 cases A with
 | none =>
  have hm : m = 0 := by
   rcases Nat.eq_zero_or_pos m with h0 | h0
   ·exact h0
   ·obtain ⟨b,off,e,_⟩ := hr.2 h0;cases e
  subst hm;have hn : news = [] := List.eq_nil_of_length_eq_zero (by simpa using hr.1);subst hn;refine ⟨v,w,?_,by simpa using hown,⟨rfl,rfl,rfl,Nat.le_refl _,fun _ _ _ => rfl⟩,.inl rfl⟩;rcases hown.2 with ⟨rfl,rfl⟩ | ⟨g,cap,cur,rfl,_,_,hnc,_⟩
  ·simp [Builtin.append_,run_underlying ht,sizeOf,typeInfo,hi,Builtin.lenOf,Builtin.firstCells]
  ·simp [Builtin.append_,run_underlying ht,sizeOf,typeInfo,hi,Builtin.lenOf,Builtin.firstCells,hnc,storeCells]
 | some a =>
  have hcells : ∀ j u,news[j]? = some u → w.cell? (a.add j) = some u := by
   intro j u hu;have hlt : j < news.length := (List.getElem?_eq_some_iff.1 hu).1;have hm : 0 < m := by
    rcases Nat.eq_zero_or_pos m with h0 | h0
    ·subst h0;have := hr.1;omega
    ·exact h0
   obtain ⟨b,off,e,hc⟩ := hr.2 hm;injection e with e;subst e;have hadd : (⟨b,off,none⟩ : Addr).add j = ⟨b,off + j,none⟩ := by unfold Addr.add; split <;> simp_all
   rw [hadd];exact hc j u hu
  obtain ⟨v',w',hrun,h2,h3,_,h5⟩ := run_append_own_at (P := P) w base t ty e i z size bytes ht hi hz hsize hby hzs hsz v n xs hown a m c news hr.1 hcells h1 h63 hbytes hbase;exact ⟨v',w',hrun,h2,h3,h5⟩

theorem QaH {o : Oper} {a : Act} {K : Act → World → Prop} {Q : Exit → Act → World → Prop} (s x : Operand) (t : TypeId)
  (ho : o.op = .call { callee := .builtin .append,args := #[s,x],argTypes := #[t,t] })
  (base : Nat) (e : TypeId) (i : TypeInfo) (z : Value) (size bytes : Nat) (ht : P.underlying t = some (.slice e)) (hi : P.info? e = some i) (hz : i.zero = some z)
  (hsize : i.size = size) (hby : i.bytes = bytes) (hzs : z.cells.size = size) (hsz : 0 < size)
  (v : Value) (n : Nat) (xs : List Value) (hs : a.eval s = v) (hown : w.ownsRow base e size v n xs)
  (A : Option Addr) (m c : Nat) (news : List Value) (hx : a.eval x = .slice A m c) (hr : Rd w size A m news) (h1 : ∀ u ∈ news,u.oneCell' = true)
  (h63 : n + m ≤ maxLen) (hbytes : (n + m) * bytes ≤ 140737488355328) (hbase : base ≤ w.heap.size)
  (h : ∀ v' w',w'.ownsRow base e size v' (n + m) (xs ++ news) → w.grownBy w' v.ownBlock → (v'.ownBlock = v.ownBlock ∨ v'.ownBlock = some w.heap.size) → K (a.put o.dst v') w') : o.wp P a w K Q := by
 obtain ⟨v',w',hrun,h2,h3,h4⟩ := QiP (P := P) w base t o.type e i z size bytes ht hi hz hsize hby hzs hsz v n xs hown A m c news hr h1 h63 hbytes hbase;unfold Oper.wp execOp;simp only [ho,resolve,invoke,builtin,Sem.run_bind,Sem.run_pure,Result.andThen_ok,List.map_toArray,List.map_cons,List.map_nil,hs,hx,hrun];exact h v' w' h2 h3 h4

theorem Qa6 {ops : Array Oper} {rest : List Oper} {o : Oper} {a : Act} {Q : Exit → Act → World → Prop} (hgd : o.guard = none) (s x : Operand) (t : TypeId)
  (ho : o.op = .call { callee := .builtin .append,args := #[s,x],argTypes := #[t,t] })
  (base : Nat) (e : TypeId) (i : TypeInfo) (z : Value) (size bytes : Nat) (ht : P.underlying t = some (.slice e)) (hi : P.info? e = some i) (hz : i.zero = some z)
  (hsize : i.size = size) (hby : i.bytes = bytes) (hzs : z.cells.size = size) (hsz : 0 < size)
  (v : Value) (n : Nat) (xs : List Value) (hs : a.eval s = v) (hown : w.ownsRow base e size v n xs)
  (A : Option Addr) (m c : Nat) (news : List Value) (hx : a.eval x = .slice A m c) (hr : Rd w size A m news) (h1 : ∀ u ∈ news,u.oneCell' = true)
  (h63 : n + m ≤ maxLen) (hbytes : (n + m) * bytes ≤ 140737488355328) (hbase : base ≤ w.heap.size)
  (h : ∀ v' w',w'.ownsRow base e size v' (n + m) (xs ++ news) → w.grownBy w' v.ownBlock → (v'.ownBlock = v.ownBlock ∨ v'.ownBlock = some w.heap.size) → wpList P ops Q rest (a.put o.dst v') w') : wpList P ops Q (o :: rest) a w :=
 wpList_plain hgd fun _ hK => QaH w s x t ho base e i z size bytes ht hi hz hsize hby hzs hsz v n xs hs hown A m c news hx hr h1 h63 hbytes hbase fun v' w' h2 h3 h4 => hK _ _ (h v' w' h2 h3 h4)
end

/-- the address of x[l:],x at A with the capacity cap -/
def cutA (A : Option Addr) (cap l size : Nat) : Option Addr := if cap = l then A else A.map (·.add (l * size))
theorem Rd.cutA {w : World} {size : Nat} {A : Option Addr} {n cap : Nat} {xs : List Value} (h : Rd w size A n xs) {lo hi : Nat} (hl : lo ≤ hi) (hh : hi ≤ n) (hc : n ≤ cap) :
  Rd w size (Mem.cutA A cap lo size) (hi - lo) ((xs.drop (lo * size)).take ((hi - lo) * size)) := by
 unfold Mem.cutA;by_cases e : cap = lo
 ·rw [if_pos e];have h0 : hi - lo = 0 := by omega
  rw [h0];simpa using Rd.zero w size A
 ·rw [if_neg e];exact h.cut hl hh
theorem two_new (w : World) (x y : Value) (t : TypeId) : ∀ j u,[x,y][j]? = some u → (w.alloc (.cells #[x,y] t)).cell? ((⟨w.heap.size,0,none⟩ : Addr).add j) = some u := by
 intro j u hu;have hb := Blk.made w t #[x,y]
 match j,hu with
 | 0,hu =>
  simp at hu;subst hu;simp [Addr.add]
 | 1,hu =>
  simp at hu;subst hu;simp [Addr.add]
theorem one_two (x y : Value) (hx : x.oneCell' = true) (hy : y.oneCell' = true) : ∀ u ∈ [x,y],u.oneCell' = true := by
 intro u hu;simp at hu;rcases hu with rfl | rfl
 ·exact hx
 ·exact hy

theorem Rd.drewN {w : World} {size : Nat} {A : Option Addr} {n : Nat} {xs : List Value} (h : Rd w size A n xs) (m : Nat) : Rd (w.drewN m) size A n xs := h

/-- bytes as a string -/
def text (bs : List Int) : ByteArray := bs.foldl (fun r n => r.push (UInt8.ofNat n.toNat)) ByteArray.empty
theorem QlY {P : Program} (w : World) (src dst e : TypeId) (hs : P.underlying src = some (.slice e)) (he : P.underlying e = some (.int .u8)) (hd : P.underlying dst = some .string)
  (a : Addr) (n c : Nat) (bs : List Int) (hr : Rd w 1 (some a) n (bs.map (Value.int .u8))) :
  (convert src dst (.slice (some a) n c)).run P w = .ok (.string (text bs)) w := by
 rw [run_convert_bytes_string w src dst e (some a) n c hs he hd];refine run_bytesToString w a n c bs ?_;have hl : n = (bs.map (Value.int .u8)).length := by have := hr.1; omega
 rw [hl];refine run_loadCells_list w a _ ?_;intro j v hj;have hlt := (List.getElem?_eq_some_iff.1 hj).1;obtain ⟨b,off,e,hc⟩ := hr.2 (by omega);injection e with e;subst e;have hadd : (⟨b,off,none⟩ : Addr).add j = ⟨b,off + j,none⟩ := by unfold Addr.add; split <;> simp_all
 rw [hadd];exact hc j v hj

theorem QdZ (w : World) (t : TypeId) (fr : Nat × Nat) (cs : List Value) : Rd (w.alloc (.cells cs.toArray t fr)) 1 (some ⟨w.heap.size,0,none⟩) cs.length cs := by
 refine ⟨by simp,fun _ => ⟨w.heap.size,0,rfl,fun j u hu => ?_⟩⟩;have h : (w.alloc (.cells cs.toArray t fr)).heap[w.heap.size]? = some (.cells cs.toArray t fr) := heap_alloc_new w _;simp only [World.cell?,h];simpa using hu

/-- what turns only what is newer than a leaves a -/
theorem Fr.fresh {a b c : World} {S : Nat → Prop} (h : Fr a b (fun _ => False)) (k : Fr b c S) (hs : ∀ i,S i → a.heap.size ≤ i) : Fr a c (fun _ => False) :=
 h.trans k (fun _ _ x => x) (fun i hi x => by have := hs i x; omega)

theorem Fr.cell0 {a c : World} {b o : Nat} {v : Value} (h : Fr a c (fun _ => False)) (hc : a.cell? ⟨b,o,none⟩ = some v) : c.cell? ⟨b,o,none⟩ = some v :=
 (World.cell?_of_block (w := a) (h.block b (World.block_lt_of_cell? a _ hc) (fun h => h))).trans hc
end Go.Mem
namespace Go
open Go.RowKit Go.Mem
theorem Xa {α : Type} : (∀ (l : List α) (i : Nat) (a : α),l.toArray.setIfInBounds i a = (l.set i a).toArray) ∧ (∀ (x a : α) (xs : List α),(x :: xs).set 0 a = a :: xs) ∧ (∀ (x a : α) (xs : List α) (i : Nat),(x :: xs).set (i + 1) a = x :: xs.set i a) ∧ (∀ (xs : List α) (i : Nat) (h : i < xs.toArray.size),xs.toArray[i] = xs[i]'(by simpa using h)) ∧ (∀ (a : α) (l : List α) (i : Nat) (h : i + 1 < (a :: l).length),(a :: l)[i + 1] = l[i]'(Nat.lt_of_succ_lt_succ h)) ∧ (∀ (a : α) (l : List α) (h : 0 < (a :: l).length),(a :: l)[0] = a) := ⟨fun _ _ _ => by simp,fun _ _ _ => rfl,fun _ _ _ _ => rfl,fun _ _ _ => rfl,fun _ _ _ _ => rfl,fun _ _ _ => rfl⟩
theorem Xi {p : Prop} (h : p) : Hid p := h
theorem Xb {w v : World} {b : Nat} {t : TypeId} {c : Array Value} (f : Fr w v (fun _ => False)) (h : Hid (Blk w b t c)) : Hid (Blk v b t c) := f.blk h.out (fun h => h)
theorem Xf {a b c : World} (h : Hid (Fr a b (fun _ => False))) (k : Fr b c (fun _ => False)) : Hid (Fr a c (fun _ => False)) := h.out.trans k (fun _ _ h => h) (fun _ _ h => h)
theorem Xn {a b c : World} {S : Nat → Prop} (h : Hid (Fr a b (fun _ => False))) (k : Fr b c S) (hs : ∀ i,S i → a.heap.size ≤ i := by exact fun i e => by omega) : Hid (Fr a c (fun _ => False)) := h.out.fresh k hs
theorem Xo {w v : World} {S : Nat → Prop} {b : Nat} {t : TypeId} {c : Array Value} (f : Fr w v S) (h : Hid (Blk w b t c)) (k : ¬ S b := by omega) : Hid (Blk v b t c) := f.blk h.out k
theorem Xt {P : Program} {md : Region.Mode} {ops : Array Oper} {S : World → Prop} {Q : Exit → Act → World → Prop} (i : Nat) {v : Value} {oi : Oper} {fuel : Nat} {listed : Array Bool} {a : Act} {w : World} (hk : ∀ w',S w' → (execOp a.eval oi).run P w' = .ok (.value v) w') (h : wpAnyH P md ops Q S fuel (listed.setIfInBounds i true) (a.put oi.dst v) w) (hi : ops[i]? = some oi := by exact rfl) (hg : Region.wanted oi (yielded ops a.tmps) = true := by rfl) (hs : Region.noSelect ops = true := by kernel_rfl) (hf : Region.free md ops listed i = true := by kernel_rfl) (hr : (Region.ready md ops listed).contains i = true := by kernel_rfl) (hQ : ∀ c a w,Q (.panic c) (a.put oi.dst v) w → Q (.panic c) a w := by exact fun _ _ _ h => h) (hS : S w := by assumption) : wpAnyH P md ops Q S (fuel + 1) listed a w := wpAnyH_take hi hs hf hr hQ (Or.inl ⟨hg,hk⟩) hS h
abbrev Z01 : Array Value := #[.bool false,.int .i64 0,.int .i64 0,.int .i64 0,.int .i64 0,.int .i64 0,.int .i64 0,.int .i64 0]
abbrev Z02 : Array Value := #[.int .i64 0,.string ⟨#[]⟩,.int .i64 0,.int .i64 0,.int .i64 0,.int .i64 0,.int .i64 0,.int .i64 0,.int .i64 0,.int .i64 0,.int .i64 0,.string ⟨#[]⟩,.string ⟨#[]⟩,.string ⟨#[]⟩,.int .i64 0,.int .i64 0,.int .i64 0,.string ⟨#[]⟩,.string ⟨#[]⟩,.bool false,.int .i64 0,.int .i64 0,.int .i64 0,.int .i64 0,.int .i64 0,.int .i64 0,.int .i64 0,.int .i64 0,.int .i64 0]
abbrev Z03 : Array Value := #[.int .i64 0,.int .i64 0,.int .i64 0,.string ⟨#[]⟩,.string ⟨#[]⟩,.bool false,.int .i64 0,.int .i64 0,.int .i64 0,.int .i64 0,.int .i64 0,.int .i64 0,.int .i64 0]
abbrev Z04 : Array Value := #[.string ⟨#[]⟩,.int .i64 0,.int .i64 0,.int .i64 0,.int .i64 0,.int .i64 0,.int .i64 0,.int .i64 0,.int .i64 0,.int .i64 0,.string ⟨#[]⟩]
end Go

namespace Go.Proofs.YtlfjknndkjgciaaGreatDoor
open _root_.Go.Proofs.Tryz
open Go.RowKit Go.Mem Go.Lin

abbrev strV (l : Bs) : Value := .string ⟨l.toArray⟩
abbrev intV (n : Int) : Value := .int .i64 n
abbrev dayV (d : DayL) : Value := .agg #[intV d.k,intV d.d,intV d.w]
abbrev atV (t : AtL) : Value := .agg #[intV t.s,intV t.k]
def Qam (r : RuleL) : Array Value := #[strV r.name,intV r.fr,intV r.to,intV r.month,intV r.on.k,intV r.on.d,intV r.on.w,intV r.at_.s,intV r.at_.k,intV r.save,strV r.letter]
abbrev Qoo (r : RuleL) : Value := .agg (Qam r)
def tilC (u : UntilL) : Array Value := #[.bool u.has,intV u.year,intV u.month,intV u.on.k,intV u.on.d,intV u.on.w,intV u.at_.s,intV u.at_.k]
abbrev tilV (u : UntilL) : Value := .agg (tilC u)
def eraC (e : EraL) : Array Value := #[intV e.off,intV e.kind,intV e.save,strV e.rules,strV e.format,.bool e.til.has,intV e.til.year,intV e.til.month,intV e.til.on.k,intV e.til.on.d,intV e.til.on.w,intV e.til.at_.s,intV e.til.at_.k]
abbrev eraV (e : EraL) : Value := .agg (eraC e)
def Qad (l : LineL) : Array Value := #[intV l.kind,strV l.rule.name,intV l.rule.fr,intV l.rule.to,intV l.rule.month,intV l.rule.on.k,intV l.rule.on.d,intV l.rule.on.w,intV l.rule.at_.s,intV l.rule.at_.k,intV l.rule.save,strV l.rule.letter,
 strV l.name,strV l.target,intV l.era.off,intV l.era.kind,intV l.era.save,strV l.era.rules,strV l.era.format,.bool l.era.til.has,intV l.era.til.year,intV l.era.til.month,intV l.era.til.on.k,intV l.era.til.on.d,intV l.era.til.on.w,
 intV l.era.til.at_.s,intV l.era.til.at_.k,intV l.err,intV l.col]
abbrev QdQ (l : LineL) : Value := .agg (Qad l)

theorem QaM {P : Program} {d : Nat} {xs ys : Array Value} {f : Field} {fs : List Field} {w : World} {x y : Value} {b c : Bool} (hn : (f.name ≠ "_")) (hx : (part f.type xs f.offset).run P w = .ok x w) (hy : (part f.type ys f.offset).run P w = .ok y w)
  (he : (Op.equalIn d f.type x y).run P w = .ok b w) (hr : (Op.eqFields d xs ys fs).run P w = .ok c w) : (Op.eqFields d xs ys (f :: fs)).run P w = .ok (b && c) w := by
 rw [Op.eqFields,if_pos hn];simp only [Sem.run_bind,hx,hy,he,Result.andThen_ok];cases b with
 | true => simpa using hr
 | false => simp
theorem QeU {P : Program} {d : Nat} {xs ys : Array Value} {w : World} : (Op.eqFields d xs ys []).run P w = .ok true w := rfl
theorem eqI (d : Nat) (a b : Int) (w : World) : (Op.equalIn (d + 1) 3 (intV a) (intV b)).run Tryz.prog w = .ok (decide (a = b)) w := run_equalIn_int w d 3 .i64 .i64 a b underlying3
theorem eqK (d : Nat) (a b : Int) (w : World) : (Op.equalIn (d + 1) 56 (intV a) (intV b)).run Tryz.prog w = .ok (decide (a = b)) w := run_equalIn_int w d 56 .i64 .i64 a b underlying56
theorem eqB (d : Nat) (a b : Bool) (w : World) : (Op.equalIn (d + 1) 4 (.bool a) (.bool b)).run Tryz.prog w = .ok (decide (a = b)) w := by
 rw [run_equalIn_bool' w d 4 a b underlying4];cases a <;> cases b <;> rfl
theorem eqS (d : Nat) (a b : Bs) (w : World) : (Op.equalIn (d + 1) 9 (strV a) (strV b)).run Tryz.prog w = .ok (decide (a = b)) w := by
 rw [run_equalIn_string w d 9 _ _ underlying9,ByteArray.toList_eq,ByteArray.toList_eq];congr 1;show (a.toArray.toList == b.toArray.toList) = _;by_cases h : a = b <;> simp [h]
theorem eq_day (d : Nat) (a b : DayL) (w : World) : (Op.equalIn (d + 2) 47 (dayV a) (dayV b)).run Tryz.prog w = .ok (decide (a = b)) w := by
 have hS : Tryz.prog.underlying 47 = some (.struct (Tryz.prog.fieldsOf 47)) := by kernel_rfl
 have hp : Tryz.prog.stoodInHeld 47 = false := by kernel_rfl
 rw [run_equalIn_agg w (d + 1) 47 _ _ hS hp];simp only [Program.fieldsOf,underlying47];refine Eq.trans (QaM (x := intV a.k) (y := intV b.k) (by decide) (by kernel_rfl) (by kernel_rfl) (eqI d a.k b.k w) (QaM (x := intV a.d) (y := intV b.d) (by decide) (by kernel_rfl) (by kernel_rfl) (eqI d a.d b.d w) (QaM (x := intV a.w) (y := intV b.w) (by decide) (by kernel_rfl) (by kernel_rfl) (eqI d a.w b.w w) QeU))) ?_;rcases a with ⟨a0,a1,a2⟩
 rcases b with ⟨b0,b1,b2⟩
 simp [DayL.mk.injEq]
theorem eq_at (d : Nat) (a b : AtL) (w : World) : (Op.equalIn (d + 2) 49 (atV a) (atV b)).run Tryz.prog w = .ok (decide (a = b)) w := by
 have hS : Tryz.prog.underlying 49 = some (.struct (Tryz.prog.fieldsOf 49)) := by kernel_rfl
 have hp : Tryz.prog.stoodInHeld 49 = false := by kernel_rfl
 rw [run_equalIn_agg w (d + 1) 49 _ _ hS hp];simp only [Program.fieldsOf,underlying49];refine Eq.trans (QaM (x := intV a.s) (y := intV b.s) (by decide) (by kernel_rfl) (by kernel_rfl) (eqI d a.s b.s w) (QaM (x := intV a.k) (y := intV b.k) (by decide) (by kernel_rfl) (by kernel_rfl) (eqI d a.k b.k w) QeU)) ?_;rcases a with ⟨a0,a1⟩
 rcases b with ⟨b0,b1⟩
 simp [AtL.mk.injEq]
theorem eq_rule (d : Nat) (a b : RuleL) (w : World) : (Op.equalIn (d + 3) 51 (Qoo a) (Qoo b)).run Tryz.prog w = .ok (decide (a = b)) w := by
 have hS : Tryz.prog.underlying 51 = some (.struct (Tryz.prog.fieldsOf 51)) := by kernel_rfl
 have hp : Tryz.prog.stoodInHeld 51 = false := by kernel_rfl
 rw [run_equalIn_agg w (d + 2) 51 _ _ hS hp];simp only [Program.fieldsOf,underlying51];refine Eq.trans (QaM (x := strV a.name) (y := strV b.name) (by decide) (by kernel_rfl) (by kernel_rfl) (eqS (d + 1) a.name b.name w) (QaM (x := intV a.fr) (y := intV b.fr) (by decide) (by kernel_rfl) (by kernel_rfl) (eqI (d + 1) a.fr b.fr w) (QaM (x := intV a.to) (y := intV b.to) (by decide) (by kernel_rfl) (by kernel_rfl) (eqI (d + 1) a.to b.to w) (QaM (x := intV a.month) (y := intV b.month) (by decide) (by kernel_rfl) (by kernel_rfl) (eqI (d + 1) a.month b.month w) (QaM (x := dayV a.on) (y := dayV b.on) (by decide) (by kernel_rfl) (by kernel_rfl) (eq_day d a.on b.on w) (QaM (x := atV a.at_) (y := atV b.at_) (by decide) (by kernel_rfl) (by kernel_rfl) (eq_at d a.at_ b.at_ w) (QaM (x := intV a.save) (y := intV b.save) (by decide) (by kernel_rfl) (by kernel_rfl) (eqI (d + 1) a.save b.save w) (QaM (x := strV a.letter) (y := strV b.letter) (by decide) (by kernel_rfl) (by kernel_rfl) (eqS (d + 1) a.letter b.letter w) QeU)))))))) ?_;rcases a with ⟨a0,a1,a2,a3,a4,a5,a6,a7⟩
 rcases b with ⟨b0,b1,b2,b3,b4,b5,b6,b7⟩
 simp [RuleL.mk.injEq]
theorem eq_til (d : Nat) (a b : UntilL) (w : World) : (Op.equalIn (d + 3) 53 (tilV a) (tilV b)).run Tryz.prog w = .ok (decide (a = b)) w := by
 have hS : Tryz.prog.underlying 53 = some (.struct (Tryz.prog.fieldsOf 53)) := by kernel_rfl
 have hp : Tryz.prog.stoodInHeld 53 = false := by kernel_rfl
 rw [run_equalIn_agg w (d + 2) 53 _ _ hS hp];simp only [Program.fieldsOf,underlying53];refine Eq.trans (QaM (x := .bool a.has) (y := .bool b.has) (by decide) (by kernel_rfl) (by kernel_rfl) (eqB (d + 1) a.has b.has w) (QaM (x := intV a.year) (y := intV b.year) (by decide) (by kernel_rfl) (by kernel_rfl) (eqI (d + 1) a.year b.year w) (QaM (x := intV a.month) (y := intV b.month) (by decide) (by kernel_rfl) (by kernel_rfl) (eqI (d + 1) a.month b.month w) (QaM (x := dayV a.on) (y := dayV b.on) (by decide) (by kernel_rfl) (by kernel_rfl) (eq_day d a.on b.on w) (QaM (x := atV a.at_) (y := atV b.at_) (by decide) (by kernel_rfl) (by kernel_rfl) (eq_at d a.at_ b.at_ w) QeU))))) ?_;rcases a with ⟨a0,a1,a2,a3,a4⟩
 rcases b with ⟨b0,b1,b2,b3,b4⟩
 simp [UntilL.mk.injEq]
theorem eq_era (d : Nat) (a b : EraL) (w : World) : (Op.equalIn (d + 4) 55 (eraV a) (eraV b)).run Tryz.prog w = .ok (decide (a = b)) w := by
 have hS : Tryz.prog.underlying 55 = some (.struct (Tryz.prog.fieldsOf 55)) := by kernel_rfl
 have hp : Tryz.prog.stoodInHeld 55 = false := by kernel_rfl
 rw [run_equalIn_agg w (d + 3) 55 _ _ hS hp];simp only [Program.fieldsOf,underlying55];refine Eq.trans (QaM (x := intV a.off) (y := intV b.off) (by decide) (by kernel_rfl) (by kernel_rfl) (eqI (d + 2) a.off b.off w) (QaM (x := intV a.kind) (y := intV b.kind) (by decide) (by kernel_rfl) (by kernel_rfl) (eqI (d + 2) a.kind b.kind w) (QaM (x := intV a.save) (y := intV b.save) (by decide) (by kernel_rfl) (by kernel_rfl) (eqI (d + 2) a.save b.save w) (QaM (x := strV a.rules) (y := strV b.rules) (by decide) (by kernel_rfl) (by kernel_rfl) (eqS (d + 2) a.rules b.rules w) (QaM (x := strV a.format) (y := strV b.format) (by decide) (by kernel_rfl) (by kernel_rfl) (eqS (d + 2) a.format b.format w) (QaM (x := tilV a.til) (y := tilV b.til) (by decide) (by kernel_rfl) (by kernel_rfl) (eq_til d a.til b.til w) QeU)))))) ?_;rcases a with ⟨a0,a1,a2,a3,a4,a5⟩
 rcases b with ⟨b0,b1,b2,b3,b4,b5⟩
 simp [EraL.mk.injEq]
theorem neq_era (a b : EraL) (w : World) : (binOp .neq 55 (eraV a) (eraV b)).run Tryz.prog w = .ok (.bool (!decide (a = b))) w := by
 rw [run_neq_struct,show (10000 : Nat) = 9996 + 4 from rfl,eq_era 9996 a b w];rfl
end Go.Proofs.YtlfjknndkjgciaaGreatDoor
namespace Go.Proofs.YtlfjknndkjgciaaGreatDoor.S7
open _root_.Go.Proofs.Tryz
open Go.RowKit Go.Mem Go.Lxr

abbrev strV (l : Bs) : Value := .string ⟨l.toArray⟩
theorem Qpv : (Tryz.prog.info? 5).map (fun i => (i.zero,i.size,i.bytes)) = some (some (.int .u8 0),1,1) := by kernel_rfl
theorem infoS : (Tryz.prog.info? 9).map (fun i => (i.zero,i.size,i.bytes)) = some (some (.string ⟨#[]⟩),1,16) := by kernel_rfl
theorem infoF : (Tryz.prog.info? 111).map (fun i => (i.zero,i.size,i.bytes)) = some (some (.agg #[.string ⟨#[]⟩,.int .i64 0]),2,24) := by kernel_rfl
theorem Qaw (l : Bs) : (⟨l.toArray⟩ : ByteArray).size = l.length := by show l.toArray.size = _; simp
theorem Qag (s : ByteArray) : s.data.toList.length = s.size := by rw [Array.length_toList]; rfl
theorem Qfo (s : ByteArray) : Value.string s = strV s.data.toList := by
 show Value.string s = .string ⟨s.data.toList.toArray⟩;congr
theorem Qcj {P : Program} (w : World) (a b : Bs) (h : a.length + b.length ≤ 1000000) : (Op.stringOp .add ⟨a.toArray⟩ ⟨b.toArray⟩).run P w = .ok (strV (a ++ b)) w := by
 rw [run_string_add_sum w _ _ (by show a.toArray.size + b.toArray.size ≤ _; simp; omega)];show Result.ok (Value.string ((⟨a.toArray⟩ : ByteArray) ++ ⟨b.toArray⟩)) w = .ok (.string ⟨(a ++ b).toArray⟩) w;congr 2
theorem ff {a c d : World} (h : Fr a c (fun _ => False)) (h2 : Fr c d (fun _ => False)) : Fr a d (fun _ => False) := h.trans h2 (fun _ _ h => h) (fun _ _ h => h)
theorem fd {a b : World} (h : Fr a b (fun _ => False)) (n : Nat) : Fr a (b.drewN n) (fun _ => False) := ff h (Fr.drewN _ _ _)
theorem fb {a c d : World} {b : Nat} (h : Fr a c (· = b)) (h2 : Fr c d (· = b)) : Fr a d (· = b) := h.trans h2 (fun _ _ h => h) (fun _ _ h => h)
theorem fbn {a d : World} {b n : Nat} (h : Fr (a.drewN n) d (· = b)) : Fr a d (· = b) := fb (Fr.drewN _ _ _) h
theorem QdI (w : World) (b i : Nat) (v : Value) : Fr w (w.setCell ⟨b,i,none⟩ v) (· = b) := Fr.set (S := (· = b)) rfl

/-- what set.has asks -/
theorem Qpy (S : Bs) (c : UInt8) (w : World) (x : Bool) (hx : S.contains c = x) : Calls Tryz.prog 81 #[strV S,.int .u8 (c.toNat : Int)] w fun e w' => e = .returned (.bool x) ∧ w = w' := by
 have HI := Xi (Tryz.strings_IndexByte ⟨S.toArray⟩ (c.toNat : Int) w);rw [show ((c.toNat : Int)).toNat.toUInt8 = c by simp,show (⟨S.toArray⟩ : ByteArray).data.toList = S from rfl] at HI;have HC := Xi (Lib.contains_iff_indexByte S c);rw [hx] at HC;clear hx;go_enter func81,ntmps81;go_wp2_with fail;refine HI.out.mono ?_;rintro e w2 ⟨rfl,rfl⟩;go_wp2_with fail;go_ret;exact ⟨by rw [HC.out]; rfl,rfl⟩
theorem Qpk (S : Bs) (c : UInt8) (w : World) (x : Bool) (hx : (!S.contains c) = x) : Calls Tryz.prog 83 #[strV S,.int .u8 (c.toNat : Int)] w fun e w' => e = .returned (.bool x) ∧ w = w' := by
 obtain ⟨y,hy⟩ : ∃ y,S.contains c = y := ⟨_,rfl⟩;rw [hy] at hx;subst hx;have HI := Xi (Qpy S c w y hy);clear hy;go_enter func83,ntmps83;go_wp2_with fail;refine HI.out.mono ?_;rintro e w2 ⟨rfl,rfl⟩;go_wp2_with fail;go_ret;exact ⟨rfl,rfl⟩
end Go.Proofs.YtlfjknndkjgciaaGreatDoor.S7
namespace Go.Proofs.YtlfjknndkjgciaaGreatDoor.S6
open _root_.Go.Proofs.Tryz
open Go.RowKit Go.Mem Go.Civil

def Qmd : List Int := [31,28,31,30,31,30,31,31,30,31,30,31]
/-- the months' lengths stand where the program's text lays them -/
def LOk (w : World) : Prop := ∀ i,i < 12 → w.cell? ⟨7,i,none⟩ = some (.int .i64 (Qmd.getD i 0))
theorem LOk.fr {w w' : World} (h : LOk w) (f : Fr w w' (fun _ => False)) : LOk w' := by
 intro i hi;have h0 := h i hi;have hlt : 7 < w.heap.size := by
  rcases Nat.lt_or_ge 7 w.heap.size with h' | h'
  ·exact h'
  ·simp [World.cell?,Array.getElem?_eq_none h'] at h0
 rw [← h0];unfold World.cell?;rw [f.block _ hlt (fun h => h)]
theorem Qk8 {y : Int} {k : Nat} (h : 1 ≤ k ∧ k ≤ 12) : Qmd.getD (k - 1) 0 = Qba y k - (if k = 2 then Qfv y else 0) := by
 have : k = 1 ∨ k = 2 ∨ k = 3 ∨ k = 4 ∨ k = 5 ∨ k = 6 ∨ k = 7 ∨ k = 8 ∨ k = 9 ∨ k = 10 ∨ k = 11 ∨ k = 12 := by omega
 rcases this with rfl | rfl | rfl | rfl | rfl | rfl | rfl | rfl | rfl | rfl | rfl | rfl <;> simp [Qmd,Qba] <;> omega
def QaD (n : Int) : Prop := -9223372036854775808 ≤ n ∧ n ≤ 9223372036854775807
theorem Qg3 {y c : Int} : y.tmod c = 0 ↔ y % c = 0 := by
 rw [← Int.dvd_iff_tmod_eq_zero,Int.dvd_iff_emod_eq_zero]
theorem tests (y c : Int) : (y.tmod c == 0) = (y % c == 0) := by
 rw [Bool.eq_iff_iff]; simp [Qg3]

theorem Qme {y : Int} {b : Bool} {w : World} (h : b = QgD y) : Ending.returned (.bool b) = .returned (.bool (QgD y)) ∧ w = w := ⟨by rw [h],rfl⟩
theorem Leap_any (y : Int) (w : World) : Calls Tryz.prog 209 #[.int .i64 y] w fun e w' => e = .returned (.bool (QgD y)) ∧ w = w' := by
 go_enter func209,ntmps209;go_wp2_with fail
 all_goals
  go_ret;refine Qme ?_
  simp_all [QgD,Qg3,tests]
theorem Qji (y m : Int) (w : World) (hg : LOk w) : Calls Tryz.prog 192 #[.int .i64 y,.int .i64 m] w fun e w' => e = .returned (.int .i64 (Qba y m)) ∧ w = w' := by
 by_cases h : 1 ≤ m ∧ m ≤ 12
 ·obtain ⟨k,rfl⟩ : ∃ k : Nat,m = (k : Int) := ⟨m.toNat,by omega⟩;obtain ⟨j,rfl⟩ : ∃ j : Nat,k = j + 1 := ⟨k - 1,by omega⟩;have hc := hg j (by omega);have ht := Qk8 (y := y) (k := j + 1) (by omega);rw [show j + 1 - 1 = j from rfl] at ht;rw [ht] at hc;have hle := Qfb y ((j + 1 : Nat) : Int);clear hg ht
  push_cast at *
  obtain ⟨x,hx⟩ : ∃ x,Qba y ((j : Int) + 1) = x := ⟨_,rfl⟩;rw [hx] at hc hle ⊢;by_cases h2 : j + 1 = 2
  ·obtain rfl : j = 1 := by omega
   have HL := Xi (Leap_any y);by_cases hl : QgD y = true
   ·have e : Qfv y = 1 := by unfold Qfv; rw [if_pos hl]
    rw [hl] at HL;rw [if_pos rfl,e] at hc;clear hx;go_enter func192,ntmps192;go_wp2_with fail;refine (HL.out _).mono ?_;rintro e w' ⟨rfl,rfl⟩;go_wp2_with fail;go_ret;exact ⟨by congr <;> omega,rfl⟩
   ·simp only [Bool.not_eq_true] at hl;have e : Qfv y = 0 := by unfold Qfv; rw [hl]; rfl
    rw [hl] at HL;rw [if_pos rfl,e] at hc;clear hx;go_enter func192,ntmps192;go_wp2_with fail;refine (HL.out _).mono ?_;rintro e w' ⟨rfl,rfl⟩;go_wp2_with fail;go_ret;exact ⟨by congr <;> omega,rfl⟩
  ·rw [if_neg (by omega)] at hc;have n2 : (((j : Int) + 1) == 2) = false := by simp; omega
   clear hx;go_enter func192,ntmps192;go_wp2_with fail;go_ret;exact ⟨by congr <;> omega,rfl⟩
 ·have e : Qba y m = 0 := by
   unfold Qba;rw [if_neg (by omega),if_neg (by omega),if_neg h]
  rw [e];clear hg e;by_cases h1 : m < 1
  ·go_enter func192,ntmps192;go_wp2_with fail;go_ret;exact ⟨rfl,rfl⟩
  ·have h2 : m > 12 := by omega
   clear h;go_enter func192,ntmps192;go_wp2_with fail;go_ret;exact ⟨rfl,rfl⟩
theorem QkI {a b : Int} {w : World} (h : a = b) : Ending.returned (.int .i64 a) = .returned (.int .i64 b) ∧ w = w := ⟨by rw [h],rfl⟩
theorem QgN {a b : Bool} {w : World} (h : a = b) : Ending.returned (.bool a) = .returned (.bool b) ∧ w = w := ⟨by rw [h],rfl⟩
theorem Qo9 {y m : Int} (h : ¬ (1 ≤ m ∧ m ≤ 12)) : Qba y m = 0 := by
 unfold Qba;rw [if_neg (by omega),if_neg (by omega),if_neg h]
theorem Qp9 (y m d : Int) (w : World) (hg : LOk w) : Calls Tryz.prog 190 #[.int .i64 y,.int .i64 m,.int .i64 d] w fun e w' => e = .returned (.bool (QaS y m d)) ∧ w = w' := by
 have HL := Xi (Qji y m w hg);have HB := Xi (QaY (y := y) (m := m) (d := d));have HM := Xi (Qo9 (y := y) (m := m));generalize QaS y m d = b at HB ⊢;generalize Qba y m = L at HB HL HM;clear hg;go_enter func190,ntmps190;go_wp2_with fail
 all_goals first
  | (refine HL.out.mono ?_;rintro e w' ⟨rfl,rfl⟩;go_wp2_with fail
     all_goals
      go_ret;refine QgN ?_;have hb := HB.out;have hm := HM.out;rw [Bool.eq_iff_iff,hb];simp;omega)
  | (go_ret;refine QgN ?_;have hb := HB.out;have hm := HM.out;rw [Bool.eq_iff_iff,hb];simp
     try omega)
end Go.Proofs.YtlfjknndkjgciaaGreatDoor.S6
