import Derived.Test.YtodcnbejnchmhaaGreatDoorYc10
import Derived.Lib.ConvBytes
import Derived.Laws.IdiomCopy
import Derived.Test.YtodcnbejnchmhaaGreatDoorYc17
set_option maxHeartbeats 1600000
namespace Go.Mem
open Go.RowKit

/-- the slice v owns the n elements xs; its row may bear the mark of a conversion,beyond its cells -/
def Row (w : World) (base : Nat) (e : TypeId) (size : Nat) (v : Value) (n : Nat) (xs : List Value) : Prop :=
 xs.length = n * size ∧ ((v = .slice none 0 0 ∧ n = 0) ∨
  ∃ g cap cur fr,v = .slice (some ⟨g,0,none⟩) n cap ∧ base ≤ g ∧ w.heap[g]? = some (.cells cur e fr) ∧ n ≤ cap ∧ cap ≤ maxLen ∧ cur.size = cap * size ∧ cur.toList.take (n * size) = xs ∧
   ∀ i,i < cur.size → w.frozen? ⟨g,i,none⟩ = false)

theorem Row.base {w : World} {base base' : Nat} {e : TypeId} {size n : Nat} {v : Value} {xs : List Value} (h : Row w base e size v n xs) (hb : base' ≤ base) : Row w base' e size v n xs := by
 refine ⟨h.1,?_⟩;rcases h.2 with h2 | ⟨g,cap,cur,fr,hv,hg,r⟩
 ·exact .inl h2
 ·exact .inr ⟨g,cap,cur,fr,hv,by omega,r⟩
theorem Row.slice {w : World} {base : Nat} {e : TypeId} {size n : Nat} {v : Value} {xs : List Value} (h : Row w base e size v n xs) : ∃ A c,v = .slice A n c := by
 rcases h.2 with ⟨rfl,rfl⟩ | ⟨g,cap,cur,fr,rfl,_⟩
 ·exact ⟨_,_,rfl⟩
 ·exact ⟨_,_,rfl⟩
theorem Row.lt {w : World} {base : Nat} {e : TypeId} {size n : Nat} {v : Value} {xs : List Value} (h : Row w base e size v n xs) : ∀ k,v.ownBlock = some k → base ≤ k ∧ k < w.heap.size := by
 intro k hk;rcases h.2 with ⟨rfl,_⟩ | ⟨g,cap,cur,fr,rfl,hb,hg,_⟩
 ·simp [Value.ownBlock] at hk
 ·simp [Value.ownBlock] at hk;subst hk;exact ⟨hb,(Array.getElem?_eq_some_iff.1 hg).1⟩
theorem Row.fr {a b : World} {S : Nat → Prop} {base : Nat} {e : TypeId} {size n : Nat} {v : Value} {xs : List Value} (h : Row a base e size v n xs) (hf : Fr a b S) (hg : ∀ g,v.ownBlock = some g → ¬ S g) : Row b base e size v n xs := by
 refine ⟨h.1,?_⟩;rcases h.2 with hn | ⟨g,cap,cur,fr,rfl,hb,hh,h1,h2,h3,h4,h5⟩
 ·exact .inl hn
 ·have hblk := hf.block g (Array.getElem?_eq_some_iff.1 hh).1 (hg g rfl);exact .inr ⟨g,cap,cur,fr,rfl,hb,hblk.trans hh,h1,h2,h3,h4,fun i hi => (World.frozen?_of_block (w := a) (a := ⟨g,i,none⟩) hblk).trans (h5 i hi)⟩
theorem Row.rd {w : World} {base : Nat} {e : TypeId} {size n : Nat} {v : Value} {xs : List Value} (h : Row w base e size v n xs) :
  ∃ A c,v = .slice A n c ∧ n ≤ c ∧ c ≤ maxLen ∧ Rd w size A n xs ∧ (A = none → n = 0 ∧ c = 0) ∧ (∀ a,A = some a → ∃ g,a = ⟨g,0,none⟩ ∧ v.ownBlock = some g ∧ base ≤ g ∧ g < w.heap.size) := by
 have hx := h.1;rcases h.2 with ⟨rfl,rfl⟩ | ⟨g,cap,cur,fr,rfl,hb,hh,hn,hc,hs,ht,-⟩
 ·have : xs = [] := List.eq_nil_of_length_eq_zero (by simpa using hx);subst this;exact ⟨_,_,rfl,Nat.le_refl _,Nat.zero_le _,Rd.zero _ _ _,fun _ => ⟨rfl,rfl⟩,fun a e => by cases e⟩
 ·refine ⟨_,_,rfl,hn,hc,⟨hx,fun _ => ⟨g,0,rfl,fun j u hu => ?_⟩⟩,(fun e => by cases e),(fun a e => by cases e; exact ⟨g,rfl,rfl,hb,(Array.getElem?_eq_some_iff.1 hh).1⟩)⟩;rw [← ht,List.getElem?_take] at hu;split at hu
  ·simp [World.cell?,hh];simpa using hu
  ·cases hu

/-- what a stretch of stores leaves in its block -/
theorem QdT (g : Nat) : ∀ (vs : List Value) (o : Nat) (cur : Array Value) (e : TypeId) (fr : Nat × Nat) (w : World),w.heap[g]? = some (.cells cur e fr) →
  (w.setCells g o vs).heap[g]? = some (.cells ((vs.zipIdx o).foldl (fun (c : Array Value) (p : Value × Nat) => c.setIfInBounds p.2 p.1) cur) e fr)
 | [],_,_,_,_,_,h => h
 | v :: r,o,cur,e,fr,w,h => by
  rw [World.setCells];have h1 : (w.setCell ⟨g,o,none⟩ v).heap[g]? = some (.cells (cur.setIfInBounds o v) e fr) := by
   simp [World.setCell,Array.getElem?_modify,h]
  rw [QdT g r (o + 1) _ e fr _ h1];rfl
theorem QeV : ∀ (l : List (Value × Nat)) (cur : Array Value),(l.foldl (fun (c : Array Value) (p : Value × Nat) => c.setIfInBounds p.2 p.1) cur).size = cur.size
 | [],_ => rfl
 | p :: l,cur => by rw [List.foldl_cons,QeV l]; simp
theorem Qhl (g : Nat) : ∀ (vs : List Value) (o : Nat) (w : World),Fr w (w.setCells g o vs) (· = g)
 | [],_,_ => Fr.refl _ _
 | _ :: r,o,_ => (Fr.set (S := (· = g)) rfl).trans (Qhl g r (o + 1) _) (fun _ _ h => h) (fun _ _ h => h)

section
variable {P : Program} (w : World)
end

/-- the bytes of a string as cells -/
def strCells (s : ByteArray) : List Value := s.data.toList.map fun b => Value.int .u8 (b.toNat : Int)
/-- a string as a slice of bytes: the row and the world -/
theorem Qqf (w : World) (e : TypeId) (s : ByteArray) (hs : s.size ≤ maxLen) : Row (Lib.bytesWorld w e s) w.heap.size e 1 (.slice (some ⟨w.heap.size,0,none⟩) s.size (grownCap w s.size 0 e)) s.size (strCells s) ∧
  Fr w (Lib.bytesWorld w e s) (fun _ => False) := by
 have hge := grownCap_ge w s.size 0 e;have hcs : (Lib.bytesCells w e s).size = grownCap w s.size 0 e := by
  simp [Lib.bytesCells];have : s.data.size = s.size := rfl;omega
 have hsz : s.data.toList.length = s.size := by rw [Array.length_toList]; rfl
 refine ⟨⟨by simp [strCells,hsz],.inr ⟨w.heap.size,_,_,_,rfl,Nat.le_refl _,Lib.bytesWorld_at_new w e s,hge,grownCap_le_maxLen w s.size 0 e hs,by rw [hcs]; omega,?_,fun i hi => ?_⟩⟩,?_⟩
 ·simp only [Lib.bytesCells,Nat.mul_one,Array.toList_append,Array.toList_map];rw [List.take_left' (by simp [hsz])];rfl
 ·simp only [World.frozen?,Lib.bytesWorld_at_new];simp;omega
 ·exact ⟨rfl,rfl,rfl,by rw [Lib.bytesWorld_size]; omega,fun k hk _ => Lib.bytesWorld_at_old w e s k hk⟩

theorem Qim (s : ByteArray) : (strCells s).length = s.size := by
 have hsz : s.data.toList.length = s.size := by rw [Array.length_toList]; rfl
 simp [strCells,hsz]
theorem Qhm {P : Program} (w : World) (s : ByteArray) : (Builtin.firstCells 1 s.size (.string s)).run P w = .ok (strCells s).toArray w := by
 simp only [Builtin.firstCells,Sem.run_pure];congr 1;apply Array.toList_inj.1;have hsz : s.data.size = s.size := rfl;rw [← hsz];simp [strCells]
section
variable {P : Program} (w : World)
/-- append of a string's bytes onto a row of bytes -/
theorem QhC (base : Nat) (t u ty e : TypeId) (i : TypeInfo) (ht : P.underlying t = some (.slice e)) (hu : P.underlying u = some .string) (hi : P.info? e = some i) (hz : i.zero = some (.int .u8 0))
  (hsize : i.size = 1) (hby : i.bytes = 1) (v : Value) (n : Nat) (xs : List Value) (hown : Row w base e 1 v n xs) (s : ByteArray) (h63 : n + s.size ≤ 1000000) (hbase : base ≤ w.heap.size) :
  ∃ v' w',(Builtin.append_ #[t,u] ty #[v,.string s]).run P w = .ok v' w' ∧ Row w' base e 1 v' (n + s.size) (xs ++ strCells s) ∧ Fr w w' (fun k => some k = v.ownBlock) ∧
   (v'.ownBlock = v.ownBlock ∨ v'.ownBlock = some w.heap.size) := by
 have hcl := Qim s;have hone : ∀ u ∈ strCells s,u.oneCell' = true := by
  intro u hu;simp only [strCells,List.mem_map] at hu;obtain ⟨b,-,rfl⟩ := hu;rfl
 by_cases hm : s.size = 0
 ·have hn : strCells s = [] := List.eq_nil_of_length_eq_zero (by omega);refine ⟨v,w,?_,by simpa [hn,hm] using hown,Fr.refl _ _,.inl rfl⟩;have hf : (Builtin.firstCells 1 0 (.string s)).run P w = .ok #[] w := by
   have := Qhm (P := P) w s;rw [hm,hn] at this;exact this
  rcases hown.2 with ⟨rfl,rfl⟩ | ⟨g,cap,cur,fr,rfl,hbg,hg,hnc,hcm,hcs,htake,hfz⟩
  ·simp [Builtin.append_,run_underlying ht,run_underlying hu,sizeOf,typeInfo,hi,Builtin.lenOf,hm,hsize,hf]
  ·simp [Builtin.append_,run_underlying ht,run_underlying hu,sizeOf,typeInfo,hi,Builtin.lenOf,hm,hsize,hf,hnc,storeCells]
 ·rcases hown.2 with ⟨rfl,rfl⟩ | ⟨g,cap,cur,fr,rfl,hbg,hg,hnc,hcm,hcs,htake,hfz⟩
  ·have hx : xs = [] := List.eq_nil_of_length_eq_zero (by simpa using hown.1);subst hx;have hrun := run_append_nil_string (P := P) w t u ty e i (.int .u8 0) ht hu hi hz s (by omega) (by omega) (by rw [hby]; omega);have hge := grownCap_ge w s.size 0 e;have hcm' : grownCap w s.size 0 e ≤ maxLen := grownCap_le_maxLen w s.size 0 e (by unfold maxLen; omega);have hd : s.data.size = s.size := rfl;have hheap := heap_alloc_new w.drew (.cells (s.data.map (fun b => Value.int .u8 b.toNat) ++ Builtin.zeroCells (Value.int .u8 0).cells (grownCap w s.size 0 e - s.size)) e);refine ⟨_,_,hrun,⟨by simp [hcl],.inr ⟨w.heap.size,_,_,(0,0),by simp,hbase,hheap,by simpa using hge,hcm',?_,?_,?_⟩⟩,(Fr.drew w _).trans (Fr.new _ _ _) (fun _ _ h => h) (fun _ _ h => h),.inr rfl⟩
   ·simp [size_zeroCells,Value.cells];omega
   ·simp only [Array.toList_append,Array.toList_map,Nat.zero_add,Nat.mul_one,List.nil_append];rw [List.take_left' (by simp [hd])];rfl
   ·intro k _;have : (w.drew.alloc (.cells (s.data.map (fun b => Value.int .u8 b.toNat) ++ Builtin.zeroCells (Value.int .u8 0).cells (grownCap w s.size 0 e - s.size)) e)).heap[w.heap.size]? = _ := hheap;simp only [World.frozen?,this];simp
  ·by_cases hroom : n + s.size ≤ cap
   ·have hfit : n * 1 + (strCells s).length ≤ cur.size := by rw [hcl,hcs]; omega
    have hst := run_storeCells_cells (P := P) g (n * 1) (strCells s) 0 w (fun j hj => by simp [World.cell?,hg]; omega) (fun j hj => hfz _ (by omega)) hone;simp only [Nat.add_zero] at hst;have hadd : (⟨g,0,none⟩ : Addr).add (n * 1) = ⟨g,n * 1,none⟩ := by unfold Addr.add; split <;> simp_all
    have hf := Qhm (P := P) w s;refine ⟨.slice (some ⟨g,0,none⟩) (n + s.size) cap,w.setCells g (n * 1) (strCells s),?_,⟨by rw [List.length_append,hown.1,hcl,Nat.add_mul]; omega,.inr ⟨g,cap,_,fr,rfl,hbg,QdT g (strCells s) _ cur e fr w hg,hroom,hcm,by rw [QeV]; exact hcs,?_,?_⟩⟩,?_,.inl rfl⟩
    ·simp only [Nat.mul_one] at hst hadd;simp [Builtin.append_,run_underlying ht,run_underlying hu,sizeOf,typeInfo,hi,Builtin.lenOf,hroom,hsize,hf,hadd,hst]
    ·have hcells := QdT g (strCells s) (n * 1) cur e fr w hg;have hat : ∀ k,(w.setCells g (n * 1) (strCells s)).cell? ⟨g,k,none⟩ = (((strCells s).zipIdx (n * 1)).foldl (fun (c : Array Value) (p : Value × Nat) => c.setIfInBounds p.2 p.1) cur)[k]? := fun k => by unfold World.cell?; rw [hcells]; rfl
     refine List.ext_getElem? fun k => ?_;rw [List.getElem?_take];by_cases hk : k < (n + s.size) * 1
     ·rw [if_pos hk,Array.getElem?_toList,← hat k];by_cases hk1 : k < n * 1
      ·rw [World.cell?_setCells_out g (strCells s) (n * 1) w ⟨g,k,none⟩ (fun _ _ => .inl hk1),List.getElem?_append_left (by rw [hown.1]; exact hk1),← htake,List.getElem?_take,if_pos hk1];simp [World.cell?,hg]
      ·have hj : k - n * 1 < (strCells s).length := by rw [hcl]; omega
       have := World.cell?_setCells_in g (strCells s) (n * 1) w (fun j hj => by simp [World.cell?,hg]; omega) (k - n * 1) hj;rw [show n * 1 + (k - n * 1) = k by omega] at this;rw [this,List.getElem?_append_right (by rw [hown.1]; omega),hown.1,List.getElem?_eq_getElem hj]
     ·rw [if_neg hk,List.getElem?_eq_none];rw [List.length_append,hown.1,hcl];omega
    ·intro k hk;rw [World.frozen?_setCells];exact hfz k (by rw [QeV] at hk; exact hk)
    ·exact (Qhl g (strCells s) _ w).mono fun k _ h => by simp [Value.ownBlock,h]
   ·have holds : ∀ j u,xs[j]? = some u → w.drew.cell? ((⟨g,0,none⟩ : Addr).add j) = some u := fun j u hu => by
     have hadd : (⟨g,0,none⟩ : Addr).add j = ⟨g,j,none⟩ := by unfold Addr.add; split <;> simp_all
     rw [hadd];rw [← htake,List.getElem?_take] at hu;split at hu
     ·have hg' : w.drew.heap[g]? = some (.cells cur e fr) := hg;simp [World.cell?,hg'];simpa using hu
     ·cases hu
    have hf := Qhm (P := P) w.drew s;have hfo := run_firstCells_some (P := P) w.drew 1 n ⟨g,0,none⟩ n cap xs (by rw [hown.1]) holds;have hne : ¬ (n + s.size ≤ cap) := hroom;have h63' : ¬ (9223372036854775807 < ((n : Int) + (s.size : Int))) := by omega
    have h48' : ¬ (281474976710656 < Builtin.nextslicecap (n + s.size) cap * i.bytes) := by
     have := growslice_fits (need := n + s.size) (old := cap) (bytes := i.bytes) (by omega) (by rw [hby]; omega);omega
    have hge := grownCap_ge w (n + s.size) cap e;have hcm' : grownCap w (n + s.size) cap e ≤ maxLen := grownCap_le_maxLen w (n + s.size) cap e (by unfold maxLen; omega);have hrun : (Builtin.append_ #[t,u] ty #[.slice (some ⟨g,0,none⟩) n cap,.string s]).run P w = .ok (.slice (some ⟨w.heap.size,0,none⟩) (n + s.size) (grownCap w (n + s.size) cap e))
      (w.drew.alloc (.cells (xs.toArray ++ (strCells s).toArray ++ Builtin.zeroCells (Value.int .u8 0).cells (grownCap w (n + s.size) cap e - (n + s.size))) e)) := by
     simp only [hby,Nat.mul_one] at h48';simp [Builtin.append_,run_underlying ht,run_underlying hu,sizeOf,typeInfo,zeroValue,hi,hz,Builtin.lenOf,hne,h63',h48',Question.forced,hf,hfo,hsize,hby,newRow,grownCap];congr 2;apply Array.ext';simp [List.append_assoc]
    have hlen : (xs ++ strCells s).length = n + s.size := by rw [List.length_append,hown.1,hcl]; omega
    have hheap := heap_alloc_new w.drew (.cells (xs.toArray ++ (strCells s).toArray ++ Builtin.zeroCells (Value.int .u8 0).cells (grownCap w (n + s.size) cap e - (n + s.size))) e);refine ⟨_,_,hrun,⟨by rw [hlen]; omega,.inr ⟨w.heap.size,_,_,(0,0),rfl,hbase,hheap,hge,hcm',?_,?_,?_⟩⟩,(Fr.drew w _).trans (Fr.new _ _ _) (fun _ _ h => h) (fun _ _ h => h),.inr rfl⟩
    ·have hx := hown.1;simp [size_zeroCells,Value.cells,hcl];omega
    ·simp only [Array.toList_append,Nat.mul_one];rw [List.take_left' (by simpa using hlen)]
    ·intro k _;have : (w.drew.alloc (.cells (xs.toArray ++ (strCells s).toArray ++ Builtin.zeroCells (Value.int .u8 0).cells (grownCap w (n + s.size) cap e - (n + s.size))) e)).heap[w.heap.size]? = _ := hheap;simp only [World.frozen?,this];simp

theorem Qdo {ops : Array Oper} {rest : List Oper} {o : Oper} {a : Act} {Q : Exit → Act → World → Prop} (hgd : o.guard = none) (s x : Operand) (t u : TypeId)
  (ho : o.op = .call { callee := .builtin .append,args := #[s,x],argTypes := #[t,u] })
  (base : Nat) (e : TypeId) (i : TypeInfo) (ht : P.underlying t = some (.slice e)) (hu : P.underlying u = some .string) (hi : P.info? e = some i) (hz : i.zero = some (.int .u8 0))
  (hsize : i.size = 1) (hby : i.bytes = 1)
  (v : Value) (n : Nat) (xs : List Value) (hs : a.eval s = v) (hown : Row w base e 1 v n xs)
  (str : ByteArray) (hx : a.eval x = .string str) (h63 : n + str.size ≤ 1000000) (hbase : base ≤ w.heap.size)
  (h : ∀ v' w',Row w' base e 1 v' (n + str.size) (xs ++ strCells str) → Fr w w' (fun k => some k = v.ownBlock) → (v'.ownBlock = v.ownBlock ∨ v'.ownBlock = some w.heap.size) → wpList P ops Q rest (a.put o.dst v') w') : wpList P ops Q (o :: rest) a w := by
 refine wpList_plain hgd fun K hK => ?_;obtain ⟨v',w',hrun,h2,h3,h4⟩ := QhC (P := P) w base t u o.type e i ht hu hi hz hsize hby v n xs hown str h63 hbase;unfold Oper.wp execOp;simp only [ho,resolve,invoke,builtin,Sem.run_bind,Sem.run_pure,Result.andThen_ok,List.map_toArray,List.map_cons,List.map_nil,hs,hx,hrun];exact hK _ _ (h v' w' h2 h3 h4)
end
end Go.Mem
namespace Go.Proofs.YtodcnbejnchmhaaGreatDoor.S7
open _root_.Go.Proofs.Tryz
open Go.RowKit Go.Mem Go.Lxr

abbrev u8V (b : UInt8) : Value := .int .u8 (b.toNat : Int)
theorem QgE (xs : List Int) (y : Int) : text (xs ++ [y]) = (text xs).push (UInt8.ofNat y.toNat) := by simp [text]
theorem QfI (l : Bs) : text (l.map fun b => (b.toNat : Int)) = ⟨l.toArray⟩ := by
 have : ∀ l : Bs,text ((l.reverse).map fun b => (b.toNat : Int)) = ⟨l.reverse.toArray⟩ := by
  intro l
  induction l with
  | nil => rfl
  | cons b l ih =>
   rw [List.reverse_cons,List.map_append,List.map_cons,List.map_nil,QgE,ih];have : UInt8.ofNat ((b.toNat : Int)).toNat = b := by simp
   rw [this];apply ByteArray.ext;simp
 have := this l.reverse;rw [List.reverse_reverse] at this;exact this
/-- the slice v is the call's own and holds these bytes -/
def Bts (w : World) (base : Nat) (v : Value) (l : Bs) : Prop := Row w base 5 1 v l.length (l.map u8V)
theorem Bts.fr {a b : World} {S : Nat → Prop} {base : Nat} {v : Value} {l : Bs} (h : Bts a base v l) (hf : Fr a b S) (hg : ∀ g,S g → g < base) : Bts b base v l :=
 Row.fr h hf (fun g e hs => by have := (Row.lt h g e).1; have := hg g hs; omega)
theorem QiV (w : World) (c : Nat) : (convert 157 9 (.slice none 0 c)).run Tryz.prog w = .ok (.string ⟨#[]⟩) w := by
 have := run_convert_bytes_string (P := Tryz.prog) w 157 9 5 none 0 c underlying157 underlying5 underlying9;rw [this];simp [Conv.bytesToString];rfl
theorem Bts.text {w : World} {base : Nat} {v : Value} {l : Bs} (h : Bts w base v l) : (convert 157 9 v).run Tryz.prog w = .ok (strV l) w := by
 obtain ⟨A,c,rfl,-,-,hrd,hn,-⟩ := Row.rd h;cases A with
 | none =>
  have h0 := hn rfl;obtain rfl : l = [] := List.length_eq_zero_iff.1 h0.1;exact QiV w c
 | some a =>
  have := Ql5 (P := Tryz.prog) w 157 9 5 underlying157 underlying5 underlying9 a l.length c (l.map fun b => (b.toNat : Int)) (show Rd w 1 (some a) l.length ((l.map fun b => (b.toNat : Int)).map (Value.int .u8)) by
   rw [List.map_map]; exact hrd)
  rw [QfI] at this;exact this
theorem Bts.slice {w : World} {base : Nat} {v : Value} {l : Bs} (h : Bts w base v l) : ∃ A c,v = .slice A l.length c := Row.slice h
theorem run_conv (w : World) (l : Bs) : (convert 9 157 (strV l)).run Tryz.prog w = .ok (.slice (some ⟨w.heap.size,0,none⟩) l.length (grownCap w l.length 0 5)) (Lib.bytesWorld w 5 ⟨l.toArray⟩) := by
 have := Lib.run_convert_string_bytes (P := Tryz.prog) w 9 157 5 ⟨l.toArray⟩ underlying9 underlying157 underlying5;rw [Qal] at this;exact this
theorem bts_made (w : World) (l : Bs) (h : l.length ≤ 1000000) : Bts (Lib.bytesWorld w 5 ⟨l.toArray⟩) w.heap.size (.slice (some ⟨w.heap.size,0,none⟩) l.length (grownCap w l.length 0 5)) l ∧ Fr w (Lib.bytesWorld w 5 ⟨l.toArray⟩) (fun _ => False) := by
 have := Qqf w 5 ⟨l.toArray⟩ (by rw [Qal]; unfold maxLen; omega);rw [Qal] at this;exact this
theorem Bts.base {w : World} {base base' : Nat} {v : Value} {l : Bs} (h : Bts w base v l) (hb : base' ≤ base) : Bts w base' v l := Row.base h hb
theorem QoC (l : Bs) : strCells ⟨l.toArray⟩ = l.map u8V := rfl
theorem Bts.add {w' : World} {base : Nat} {v' : Value} {l t : Bs} (h : Row w' base 5 1 v' (l.length + (⟨t.toArray⟩ : ByteArray).size) (l.map u8V ++ strCells ⟨t.toArray⟩)) : Bts w' base v' (l ++ t) := by
 rw [Qal,QoC] at h;show Row w' base 5 1 v' (l ++ t).length ((l ++ t).map u8V);rw [List.length_append,List.map_append];exact h

/-- fields by stretches without marks -/
theorem Qia : ∀ (l : Bs) (p : Nat),QaW p l = (QaW (p + (l.takeWhile (Qbb QbO)).length) (l.dropWhile (Qbb QbO))).map fun x => (l.takeWhile (Qbb QbO) ++ x.1,x.2) := by
 intro l
 induction l with
 | nil => intro p; rw [show ([] : Bs).takeWhile (Qbb QbO) = [] from rfl,show ([] : Bs).dropWhile (Qbb QbO) = [] from rfl,QdC,QdC]; rfl
 | cons c l ih =>
  intro p;cases hc : Qbb QbO c with
  | true =>
   obtain ⟨e1,e2⟩ := QeS (l := l) hc;rw [e1,e2];have hc : (!QbO.contains c) = true := hc;rw [QjD] at hc;simp only [Bool.not_eq_true',Bool.or_eq_false_iff,beq_eq_false_iff_ne] at hc;rw [Qfw hc.1 hc.2,ih,List.length_cons,show p + 1 + (l.takeWhile (Qbb QbO)).length = p + ((l.takeWhile (Qbb QbO)).length + 1) by omega];cases QaW (p + ((l.takeWhile (Qbb QbO)).length + 1)) (l.dropWhile (Qbb QbO)) <;> rfl
  | false =>
   obtain ⟨e1,e2⟩ := QfG (f := Qbb QbO) (l := c :: l) hc;rw [e1,e2];show _ = (QaW p (c :: l)).map _;cases QaW p (c :: l) <;> rfl
theorem Qie (l : Bs) : (l.dropWhile (Qbb QbO) = [] ∨ ∃ c r,l.dropWhile (Qbb QbO) = c :: r ∧ (Qcr c = true ∨ c = 34)) := by
 induction l with
 | nil => exact .inl rfl
 | cons c l ih =>
  cases hc : Qbb QbO c with
  | true => rw [(QeS (l := l) hc).2]; exact ih
  | false =>
   rw [(QfG (f := Qbb QbO) (l := c :: l) hc).2];have hc : (!QbO.contains c) = false := hc;rw [QjD] at hc;simp only [Bool.not_eq_false',Bool.or_eq_true,beq_iff_eq] at hc;exact .inr ⟨c,l,rfl,hc⟩
abbrev fieldV (s : Bs) (p : Int) : Value := .agg #[strV s,.int .i64 p]
abbrev Qd0 (s : Bs) (p : Int) : Obj := .cells #[strV s,.int .i64 p] 172
theorem infoFd : (Tryz.prog.info? 172).map (fun i => (i.size)) = some 2 := by kernel_rfl
/-- what field answers -/
def FieldRan (g : Except Nat (Bs × Bs)) (p b : Nat) (s : ByteArray) (w : World) (e : Ending) (w' : World) : Prop :=
 match g with
 | .error k => e = .returned (.tuple #[fieldV [] 0,.bool false]) ∧ (∃ m,RdAt w' b s k m) ∧ Fr w w' (· = b)
 | .ok (t,r) => e = .returned (.tuple #[fieldV t p,.bool true]) ∧ (∃ q,RdAt w' b s q r) ∧ Fr w w' (· = b)
/-- before a round of field's loop -/
def FInv (w : World) (b p : Nat) (s : ByteArray) (l : Bs) (g : Nat) (v4 : Value) (wr : World) : Prop :=
 ∃ (acc m : Bs) (q : Nat),m.length = g ∧ Bts wr (w.heap.size + 1) v4 acc ∧ RdAt wr b s q m ∧ (QaW p l = (QaW q m).map fun x => (acc ++ x.1,x.2)) ∧ (m = [] ∨ ∃ c r,m = c :: r ∧ (Qcr c = true ∨ c = 34)) ∧
  Fr w wr (· = b) ∧ Blk wr w.heap.size 172 #[strV [],.int .i64 (p : Int)] ∧ acc.length + m.length ≤ s.size
theorem load_f {w : World} {g : Nat} {x y : Value} (h : Blk w g 172 #[x,y]) : (loadVar 172 ⟨g,0,none⟩).run Tryz.prog w = .ok (.agg #[x,y]) w := run_loadVar_row w g 172 172 #[x,y] (0,0) _ h underlying172 rfl infoFd
theorem Qfm (tmps : Array Value) (w : World) (q : Nat) (x y k : Value) (h2 : tmps.getD 2 undef = .pointer (some ⟨q,0,none⟩)) (h3 : tmps.getD 3 undef = k)
  (hb : Blk w q 172 #[x,y]) : (results f106 tmps).run Tryz.prog w = .ok (.tuple #[.agg #[x,y],k]) w := by
 have h2' : tmps[2]?.getD undef = .pointer (some ⟨q,0,none⟩) := by simpa using h2
 have h3' : tmps[3]?.getD undef = k := by simpa using h3
 have hL := load_f hb;simp [results,Tryz.results106,h2',h3',asAddr,hL]
theorem Qln {a b c : World} {q g : Nat} (h : Fr a b (· = q)) (k : Fr b c (· = g)) (hg : a.heap.size ≤ g) : Fr a c (· = q) := h.trans k (fun _ _ x => x) (fun i hi x => by subst x; omega)
theorem fr_false {a b c : World} {S : Nat → Prop} (h : Fr a b (fun _ => False)) (k : Fr b c S) : Fr a c S := h.trans k (fun _ _ x => x.elim) (fun _ _ x => x)
theorem seesD_q {m : Bs} (h : m = [] ∨ ∃ c r,m = c :: r ∧ (Qcr c = true ∨ c = 34)) : (Qku (hasF [34]) m = false ∧ ∀ q,QaW q m = .ok ([],m)) ∨ ∃ r,m = 34 :: r := by
 rcases h with rfl | ⟨c,r,rfl,hc⟩
 ·exact .inl ⟨rfl,QdC⟩
 ·by_cases h34 : c = 34
  ·exact .inr ⟨r,by rw [h34]⟩
  ·refine .inl ⟨?_,fun q => QdB (hc.resolve_right h34) q r⟩;show List.contains [34] c = false;rw [Qk0];simpa using h34
theorem QjT {w0 w2 : World} {F b : Nat} {x y : Value} (k d : Value) (h : Fr w0 w2 (· = b)) (hb : Blk w2 F 172 #[x,y]) (hge : w0.heap.size ≤ F) :
  Fr w0 ((w2.setCell ⟨F,0,none⟩ k).setCell ⟨F,1,none⟩ d) (· = b) ∧ Blk ((w2.setCell ⟨F,0,none⟩ k).setCell ⟨F,1,none⟩ d) F 172 #[k,d] := by
 have f1 := Qln h (Fr.set (S := (· = F)) (a := ⟨F,0,none⟩) (v := k) rfl) hge;have f2 := Qln f1 (Fr.set (S := (· = F)) (a := ⟨F,1,none⟩) (v := d) rfl) hge;exact ⟨f2,(hb.put' (cs' := #[k,y]) 0 k (by simp)).put' (cs' := #[k,d]) 1 d (by simp)⟩
theorem add_ok {w w1 w2 : World} {b : Nat} {v v' : Value} {acc t : Bs} (hb : Bts w1 (w.heap.size + 1) v acc) (hown : Row w2 (w.heap.size + 1) 5 1 v' (acc.length + (⟨t.toArray⟩ : ByteArray).size) (acc.map u8V ++ strCells ⟨t.toArray⟩)) (hf : Fr w1 w2 (fun k => some k = v.ownBlock)) (h0 : Fr w w1 (· = b)) :
  Bts w2 (w.heap.size + 1) v' (acc ++ t) ∧ Fr w w2 (· = b) ∧ (∀ s q m,b < w.heap.size → RdAt w1 b s q m → RdAt w2 b s q m) ∧ (∀ x y,Blk w1 w.heap.size 172 #[x,y] → Blk w2 w.heap.size 172 #[x,y]) := by
 have hge : ∀ k,some k = v.ownBlock → w.heap.size + 1 ≤ k := fun k e => (Row.lt hb k e.symm).1;refine ⟨Bts.add hown,h0.trans hf (fun _ _ x => x) (fun i hi x => by have := hge i x; omega),fun s q m hl h => h.fr hf (fun e => by have := hge b e; omega),fun x y h => hf.blk h (fun e => by have := hge _ e; omega)⟩
theorem Qp1 (w : World) (b p : Nat) (s : ByteArray) (l : Bs) (h : RdAt w b s p l) (hz : s.size ≤ 1000000) :
  Calls Tryz.prog 106 #[ptrV b] w (FieldRan (QaW p l) p b s w) := by
 have hlt := h.lt;have hbr := (Fr.new w (Qd0 [] 0) (fun _ => False)).blk h.2.2 (fun h => h);have c1 := Qaa hbr 1;simp at c1;have f1 := Qac (Blk.made w 172 #[strV [],.int .i64 0]) 1;have hb1 := Blk.made w 172 #[strV [],.int .i64 (p : Int)];have hf1 := Fr.new w (Qd0 [] (p : Int)) (fun _ => False);obtain ⟨t,ht⟩ : ∃ t,l.takeWhile (Qbb QbO) = t := ⟨_,rfl⟩;obtain ⟨m,hm⟩ : ∃ m,l.dropWhile (Qbb QbO) = m := ⟨_,rfl⟩;have hlm : l.length = t.length + m.length := by
  have := congrArg List.length (QlT (Qbb QbO) l);rw [ht,hm,List.length_append] at this;exact this
 have hlen := h.len;have HT := Xi (Qer QbO _ b p s l (h.fr hf1 (fun h => h)) hz t m ht hm);have HPF := Xi (Qia l p);have HDM := Xi (Qie l);rw [ht,hm] at HPF;rw [hm] at HDM;have HB := Xi hb1;have HF := Xi hf1;have hts : t.length ≤ 1000000 := by omega
 have HSZ := Xi (show (w.alloc (Qd0 [] (p : Int))).heap.size = w.heap.size + 1 by simp);have hcv := fun w => run_conv w t;clear h hbr hb1 hf1 ht hm;go_enter func106,ntmps106;go_wp2_with fail;refine HT.out.mono ?_;rintro e w2 ⟨rfl,hr2,hf2⟩;have HR2 := Xi hr2;have HF2 := Xi hf2;have hb2 := hf2.blk HB.out (fun e => by omega);have HB2 := Xi hb2;have hs2 := HF2.out.size;rw [HSZ.out] at hs2;obtain ⟨hbm,hfm⟩ := bts_made w2 t hts;have HBM := Xi hbm;have HFM := Xi hfm;clear hr2 hf2 hb2 hbm hfm;go_wp2_with fail
 go_loopg [4,5,6] m.length (fun g v4 _ _ wr => FInv w b p s l g v4 wr)
 case atStart => exact ⟨t,m,p + t.length,rfl,HBM.out.base hs2,HR2.out.fr HFM.out (fun h => h),HPF.out,HDM.out,(fr_false HF.out HF2.out).trans HFM.out (fun _ _ h => h) (fun _ _ h => h.elim),HFM.out.blk HB2.out (fun h => h),by omega⟩
 case round =>
  obtain ⟨acc,m1,q,hg,hbt,hrr,hpf,hdm,hfr,hbl,hal⟩ := hrel;clear HT HPF HDM HB HF HSZ hcv HR2 HF2 HB2 HBM HFM hs2 hlm hts hlen f1 c1;have hlen1 := hrr.len;have c0' := Qaa hbl 0;have c1' := Qaa hbl 1;simp at c0' c1';have f0' := Qac hbl 0;have f1' := Qac hbl 1;have HRR := Xi hrr;have HFR := Xi hfr;have HBL := Xi hbl;have HBT := Xi hbt;have HG := Xi hg;have HPF := Xi hpf;have hws := hfr.size;obtain ⟨A4,c4,rfl⟩ := hbt.slice;obtain ⟨i0,hi0,hz0,hz1,hz2⟩ := info_parts Qlj;rcases seesD_q hdm with ⟨hx,hq⟩ | ⟨r,rfl⟩
  ·have HS := Xi (Qfi [34] wr b q s m1 hrr hz false hx);have htx : ∀ n,(convert 157 9 (.slice A4 acc.length c4)).run Tryz.prog (wr.drewN n) = .ok (strV acc) (wr.drewN n) := fun n => Bts.text (base := w.heap.size + 1) (hbt.fr (Fr.drewN wr n (fun _ => False)) (fun _ h => h.elim));have HQ := Xi (hq q);clear hx hq hdm hbt hrr hpf hg hfr hbl;go_wp2_with fail;refine HS.out.mono ?_;rintro e w3 ⟨rfl,n,rfl⟩;have htx := htx n;go_wp2_with fail;have hb4 := ((HBL.out : Blk (wr.drewN n) _ _ _).put' (cs' := #[strV acc,.int .i64 (p : Int)]) 0 (strV acc) (by simp));obtain ⟨hf9,hb9⟩ := QjT (strV acc) (.int .i64 (p : Int)) (Qln (fb HFR.out (Fr.drewN wr n _)) (Fr.set (S := (· = w.heap.size)) (a := ⟨w.heap.size,0,none⟩) (v := strV acc) rfl) (Nat.le_refl _)) hb4 (Nat.le_refl _);refine bodyPost_ret (Qfm _ _ w.heap.size _ _ (.bool true) rfl rfl hb9) rfl ?_;rw [HPF.out,HQ.out];refine ⟨by rw [List.append_nil],⟨q,HRR.out.fr (S := (· = w.heap.size)) ?_ (by omega)⟩,hf9⟩;exact fb (fb (fb (Fr.drewN wr n (· = w.heap.size)) (Qdj _ _ _ _)) (Qdj _ _ _ _)) (Qdj _ _ _ _)
  ·have HS := Xi (Qfi [34] wr b q s (34 :: r) hrr hz true rfl);rcases hqd : QbK r with _ | ⟨q1,r1⟩
   ·have HQ := Xi (QeF hqd q);have HU := Xi (fun n => QkR (wr.drewN n) b q s r hrr hz hqd);clear hqd hdm hbt hrr hpf hg hfr hbl;go_wp2_with fail;refine HS.out.mono ?_;rintro e w3 ⟨rfl,n,rfl⟩;have HU := Xi (HU.out n);go_wp2_with fail;refine HU.out.mono ?_;rintro e w4 ⟨rfl,hr4,hf4⟩;have hb4 := hf4.blk (HBL.out : Blk (wr.drewN n) _ _ _) (fun e => by omega);have HB4 := Xi hb4;have HR4 := Xi hr4;have HF4 := Xi (fb HFR.out (fbn hf4));have f0' := Qac hb4 0;have f1' := Qac hb4 1;have c0' := Qaa hb4 0;have c1' := Qaa hb4 1;simp at c0' c1';clear hb4 hr4 hf4;go_wp2_with fail;obtain ⟨hf9,hb9⟩ := QjT (strV []) (.int .i64 0) HF4.out HB4.out (Nat.le_refl _);refine bodyPost_ret (Qfm _ _ w.heap.size _ _ (.bool false) rfl rfl hb9) rfl ?_;rw [HPF.out,HQ.out];refine ⟨rfl,⟨34 :: r,HR4.out.fr (S := (· = w.heap.size)) ?_ (by omega)⟩,hf9⟩;exact fb (Qdj _ _ _ _) (Qdj _ _ _ _)
   ·have HQ := Xi (QeE hqd q);have HU := Xi (fun n => QkQ (wr.drewN n) b q s r q1 r1 hrr hz hqd);have hrl : r.length = q1.length + r1.length + 1 := by
     rw [(Qgj hqd).1];simp;omega
    obtain ⟨t1,ht1⟩ : ∃ t,r1.takeWhile (Qbb QbO) = t := ⟨_,rfl⟩;obtain ⟨m2,hm2⟩ : ∃ m,r1.dropWhile (Qbb QbO) = m := ⟨_,rfl⟩;have hlm : r1.length = t1.length + m2.length := by
     have := congrArg List.length (QlT (Qbb QbO) r1);rw [ht1,hm2,List.length_append] at this;exact this
    have HPF2 := Xi (Qia r1 (q + q1.length + 2));have HDM := Xi (Qie r1);rw [ht1,hm2] at HPF2;rw [hm2] at HDM;have HT := Xi (fun W h => Qer QbO W b (q + q1.length + 2) s r1 h hz t1 m2 ht1 hm2);have hg1 : r.length + 1 = gk := hg;have hal1 : acc.length + (r.length + 1) ≤ s.size := hal;clear hqd hdm hbt hrr hpf hg hfr hbl ht1 hm2 hlen1;go_wp2_with fail;refine HS.out.mono ?_;rintro e w3 ⟨rfl,n,rfl⟩;have HU := Xi (HU.out n);go_wp2_with fail;refine HU.out.mono ?_;rintro e w4 ⟨rfl,hr4,hf4⟩;have HB4 := Xi (hf4.blk (HBL.out : Blk (wr.drewN n) _ _ _) (fun e => by omega));have HR4 := Xi hr4;have HF4 := Xi (fb HFR.out (fbn hf4));have HBT4 := Xi ((HBT.out.fr (Fr.drewN wr n (· = b)) (fun g e => by omega)).fr hf4 (fun g e => by omega));have hs4 := HB4.out.lt;clear hr4 hf4;go_wp2_with (at_builtin; refine Qdo _ rfl (.tmp 27) (.tmp 28) 157 9 rfl (w.heap.size + 1) 5 i0 underlying157 underlying9 hi0 hz0 hz1 hz2 _ acc.length _ rfl HBT4.out ⟨q1.toArray⟩ rfl (by rw [Qal]; omega) (by omega) ?_; intro v7 w7 hown7 hf7 _);obtain ⟨hbt7,hfr7,hrr7,hbl7⟩ := add_ok HBT4.out hown7 hf7 HF4.out;obtain ⟨acc2,ha2⟩ : ∃ a2,acc ++ q1 = a2 := ⟨_,rfl⟩;have hb63 : acc2.length + t1.length ≤ 1000000 := by rw [← ha2,List.length_append]; omega
    rw [ha2] at hbt7;have HA2 := Xi ha2;have HR7 := Xi (hrr7 s _ _ hlt HR4.out);have HT7 := Xi (HT.out w7 HR7.out);have HBT7 := Xi hbt7;have HF7 := Xi hfr7;have HB7 := Xi (hbl7 _ _ HB4.out);obtain ⟨A7,c7,rfl⟩ := hbt7.slice;clear hbt7 hfr7 hrr7 hbl7 hown7 hf7 ha2;refine HT7.out.mono ?_;rintro e w8 ⟨rfl,hr8,hf8⟩;have HR8 := Xi hr8;have HF8 := Xi (fb HF7.out hf8);have HB8 := Xi (hf8.blk HB7.out (fun e => by omega));have HBT8 := Xi (HBT7.out.fr hf8 (fun g e => by omega));have hs8 := HB8.out.lt;clear hr8 hf8;go_wp2_with (at_builtin; refine Qdo _ rfl (.tmp 30) (.tmp 33) 157 9 rfl (w.heap.size + 1) 5 i0 underlying157 underlying9 hi0 hz0 hz1 hz2 _ acc2.length _ rfl HBT8.out ⟨t1.toArray⟩ rfl (by rw [Qal]; exact hb63) (by omega) ?_; intro v9 w9 hown9 hf9 _);obtain ⟨hbt9,hfr9,hrr9,hbl9⟩ := add_ok HBT8.out hown9 hf9 HF8.out;obtain ⟨A9,c9,rfl⟩ := hbt9.slice
    go_roundg m2.length
    case measure => omega
    case rel =>
     refine ⟨acc2 ++ t1,m2,_,rfl,hbt9,hrr9 s _ _ hlt HR8.out,?_,HDM.out,hfr9,hbl9 _ _ HB8.out,by rw [← HA2.out]; simp; omega⟩;rw [HPF.out,HQ.out,HPF2.out,← HA2.out];cases QaW (q + q1.length + 2 + t1.length) m2 with
     | error k => rfl
     | ok x => simp [Except.map]
end Go.Proofs.YtodcnbejnchmhaaGreatDoor.S7
