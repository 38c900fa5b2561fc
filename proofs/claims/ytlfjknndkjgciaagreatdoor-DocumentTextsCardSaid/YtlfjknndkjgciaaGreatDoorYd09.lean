import Derived.Test.YtlfjknndkjgciaaGreatDoorYd07
import Derived.Test.YtlfjknndkjgciaaGreatDoorYd08
import Derived.Lib.SplitLaws
namespace Go.Dcm
open Go.Lib Go.Rope

/-- a text without the carriage return at its end -/
def Qdu (l : Lin.Bs) : Lin.Bs := if l.getLast? = some 13 then l.dropLast else l
def Qda (l : Lin.Bs) : List Lin.Bs := (Qbf l).map Qdu
/-- what strings.TrimSuffix makes of it -/
theorem QmL (l : Lin.Bs) : trimSuffix l [13] = Qdu l := by
 unfold trimSuffix hasSuffix Qdu;by_cases h : l.getLast? = some 13
 ·obtain ⟨a,rfl⟩ : ∃ a,l = a ++ [13] := by
   rw [List.getLast?_eq_some_iff] at h;exact h
  simp
 ·rw [if_neg h,if_neg];intro hs;obtain ⟨a,rfl⟩ := List.isSuffixOf_iff_suffix.1 hs;simp at h
theorem Qkp : split [] [10] = [[]] := by
 rw [split,count_miss (by simp [index])];rfl
theorem QmT (l : Lin.Bs) : split (10 :: l) [10] = [] :: split l [10] := by
 have hix : index (10 :: l) [10] = ((0 : Nat) : Int) := by rw [index]; simp [List.isPrefixOf]
 rw [split,count_cons_eq,Nat.add_comm,splitK,hix];simp [split]
theorem Qko (c : UInt8) (l : Lin.Bs) (h : c ≠ 10) : ∃ p ps,split l [10] = p :: ps ∧ split (c :: l) [10] = (c :: p) :: ps := by
 have hp : ([10] : List UInt8).isPrefixOf (c :: l) = false := by simp [List.isPrefixOf,Ne.symm h]
 have hix : index (c :: l) [10] = if index l [10] == -1 then -1 else index l [10] + 1 := by rw [index,hp]; simp
 unfold split;rw [count_cons_ne c 10 l h];by_cases hm : index l [10] = -1
 ·rw [count_miss hm];exact ⟨l,[],rfl,rfl⟩
 ·have hge := index_ge l [10];obtain ⟨j,hj⟩ : ∃ j : Nat,index l [10] = j := ⟨(index l [10]).toNat,by omega⟩;have hix' : index (c :: l) [10] = ((j + 1 : Nat) : Int) := by rw [hix,if_neg (fun e => hm (beq_iff_eq.1 e)),hj]; omega
  rw [count_hit (by simp) hj,Nat.add_comm,splitK,splitK,if_neg (fun e => hm (beq_iff_eq.1 e)),if_neg (by rw [hix']; intro e; have := beq_iff_eq.1 e; omega),hj,hix'];exact ⟨_,_,rfl,by simp⟩
theorem Qg8 : ∀ l : Lin.Bs,split l [10] = Qbf l
 | [] => Qkp
 | c :: l => by
  have ih := Qg8 l;by_cases hc : c = 10
  ·subst hc;rw [QmT,ih];simp [Qbf]
  ·obtain ⟨p,ps,h1,h2⟩ := Qko c l hc;rw [ih] at h1;rw [h2,Qbf,if_neg hc,h1]
theorem Qf0 : ∀ l : Lin.Bs,(Qbf l).length ≤ l.length + 1 ∧ ∀ x ∈ Qbf l,x.length ≤ l.length
 | [] => ⟨Nat.le_refl _,fun x hx => by simp [Qbf] at hx; simp [hx]⟩
 | c :: r => by
  obtain ⟨h1,h2⟩ := Qf0 r;by_cases hc : c = 10
  ·subst hc;simp only [Qbf,if_true,List.length_cons];refine ⟨by omega,fun x hx => ?_⟩;rcases List.mem_cons.1 hx with hx | hx
   ·simp [hx]
   ·have := h2 x hx;omega
  ·unfold Qbf;rw [if_neg hc];cases h : Qbf r with
   | nil => exact absurd h (Qma r)
   | cons y ys =>
    rw [h] at h1 h2;simp only [List.length_cons] at h1 ⊢;refine ⟨by omega,fun x hx => ?_⟩;rcases List.mem_cons.1 hx with hx | hx
    ·have := h2 y List.mem_cons_self;rw [hx];simp only [List.length_cons];omega
    ·have := h2 x (List.mem_cons_of_mem _ hx);omega
theorem strip_le (l : Lin.Bs) : (Qdu l).length ≤ l.length := by
 unfold Qdu;split
 ·rw [List.length_dropLast]; omega
 ·exact Nat.le_refl _
theorem QhA (l : Lin.Bs) : (Qda l).length ≤ l.length + 1 ∧ ∀ x ∈ Qda l,x.length ≤ l.length := by
 obtain ⟨h1,h2⟩ := Qf0 l;unfold Qda;refine ⟨by rw [List.length_map]; exact h1,fun x hx => ?_⟩;obtain ⟨y,hy,rfl⟩ := List.mem_map.1 hx;exact Nat.le_trans (strip_le y) (h2 y hy)
end Go.Dcm
namespace Go.Lin
open Go.Lib

/- a line as the code reads it: its kind,how many fields,and what they tell -/
theorem QpV {l : Bs} (h : QeI l = true) : Go.Kwd.headD l = 0 := by
 cases l with
 | nil => cases h
 | cons c r =>
  have H : ∀ k : Fin 256,((UInt8.ofNat k.val) == 45 || Go.Kwd.Qbs (UInt8.ofNat k.val)) = true → Go.Kwd.lowB (UInt8.ofNat k.val) ≠ 114 ∧ Go.Kwd.lowB (UInt8.ofNat k.val) ≠ 122 ∧ Go.Kwd.lowB (UInt8.ofNat k.val) ≠ 108 := by decide +kernel
  have hc := H ⟨c.toNat,c.toNat_lt⟩;simp only [UInt8.ofNat_toNat] at hc;obtain ⟨h1,h2,h3⟩ := hc h;unfold Go.Kwd.headD Go.Kwd.Qh0 Go.Kwd.Qcr Go.Kwd.Qnu;simp [Go.Kwd.QeH,Go.Kwd.preB,h1,h2,h3]
def Qb8 (l : Bs) : Nat := if Go.Kwd.headD l = 1 then 1 else if Go.Kwd.headD l = 2 then 2 else if Go.Kwd.headD l = 3 then 4 else if QeI l = true then 3 else 0
theorem Qiq (l : Bs) : Qb8 l = 0 ∨ Qb8 l = 1 ∨ Qb8 l = 2 ∨ Qb8 l = 3 ∨ Qb8 l = 4 := by
 unfold Qb8;split
 ·simp
 ·split
  ·simp
  ·split
   ·simp
   ·split <;> simp
def QeP (k : Nat) : Nat := if k = 1 then 10 else if k = 2 then 5 else 3
def Qht (k : Nat) : Nat := if k = 1 then 10 else if k = 2 then 9 else if k = 3 then 7 else 3
def Qgl (k : Nat) (f : List Bs) : Except Er LineL :=
 if k = 1 then (Qfi f).bind fun r => .ok { Qae with kind := 1,rule := r }
 else if k = 2 then (chk (Go.Kwd.QbR (gt f 1)) 1 5).bind fun _ => (eraP f 2).bind fun e => .ok { Qae with kind := 2,name := gt f 1,era := e }
 else if k = 3 then (eraP f 0).bind fun e => .ok { Qae with kind := 3,era := e }
 else (chk (Go.Kwd.QbR (gt f 1)) 1 5).bind fun _ => (chk (Go.Kwd.QbR (gt f 2)) 2 5).bind fun _ => .ok { Qae with kind := 4,target := gt f 1,name := gt f 2 }
def QeD (fs : List Qat) : Except Er Nat :=
 if Qb8 (gt (fs.map (·.1)) 0) = 0 then .error (0,3)
 else if fs.length < QeP (Qb8 (gt (fs.map (·.1)) 0)) ∨ Qht (Qb8 (gt (fs.map (·.1)) 0)) < fs.length then .error (0,4) else .ok (Qb8 (gt (fs.map (·.1)) 0))
def QkJ (fs : List Qat) : Except Er LineL := (QeD fs).bind fun k => Qgl k (fs.map (·.1))
theorem QgR {α : Type} (fs : List Qat) (r : Except Er α) (g : α → LineL) : outL fs (r.bind fun v => .ok (g v)) id = outL fs r g := by cases r <;> rfl
theorem Qph (fs : List Qat) (h : fs ≠ []) : Qdh fs = outL fs (QkJ fs) id := by
 unfold Qdh QkJ QeD;rw [if_neg h];generalize hx : gt (fs.map (·.1)) 0 = x;by_cases hc : QeI x = true
 ·have hh := QpV hc;rw [if_pos hc];have hk : Qb8 x = 3 := by
   unfold Qb8;rw [hh];simp [hc]
  rw [hk];simp only [QeP,Qht,Nat.reduceEqDiff,if_false,if_true];split
  ·rfl
  ·show _ = outL fs ((eraP _ 0).bind _) id;rw [QgR]
 ·rw [if_neg hc];by_cases h1 : Go.Kwd.headD x = 1
  ·rw [if_pos h1];have hk : Qb8 x = 1 := by
    unfold Qb8;rw [if_pos h1]
   rw [hk];simp only [QeP,Qht,Nat.reduceEqDiff,if_false,if_true];by_cases hn : fs.length = 10
   ·rw [if_neg (by omega),if_neg (by omega)];show _ = outL fs ((Qfi _).bind _) id;rw [QgR]
   ·rw [if_pos hn,if_pos (by omega)];rfl
  ·rw [if_neg h1];by_cases h2 : Go.Kwd.headD x = 2
   ·rw [if_pos h2];have hk : Qb8 x = 2 := by
     unfold Qb8;rw [if_neg h1,if_pos h2]
    rw [hk];simp only [QeP,Qht,Nat.reduceEqDiff,if_false,if_true];by_cases hn : fs.length < 5 ∨ 9 < fs.length
    ·rw [if_pos hn,if_pos hn];rfl
    ·rw [if_neg hn,if_neg hn];show _ = outL fs ((chk _ 1 5).bind fun _ => (eraP _ 2).bind _) id;cases chk (Go.Kwd.QbR (gt (fs.map (·.1)) 1)) 1 5 with
     | error e => rfl
     | ok u => exact (QgR fs (eraP _ 2) _).symm
   ·rw [if_neg h2];by_cases h3 : Go.Kwd.headD x = 3
    ·rw [if_pos h3];have hk : Qb8 x = 4 := by
      unfold Qb8;rw [if_neg h1,if_neg h2,if_pos h3]
     rw [hk];simp only [QeP,Qht,Nat.reduceEqDiff,if_false];by_cases hn : fs.length = 3
     ·rw [if_neg (by omega),if_neg (by omega)];unfold Qpb;show _ = outL fs ((chk _ 1 5).bind fun _ => (chk _ 2 5).bind _) id;cases chk (Go.Kwd.QbR (gt (fs.map (·.1)) 1)) 1 5 with
      | error e => rfl
      | ok u => exact (QgR fs (chk _ 2 5) _).symm
     ·rw [if_pos hn,if_pos (by omega)];rfl
    ·rw [if_neg h3];have hk : Qb8 x = 0 := by
      unfold Qb8;rw [if_neg h1,if_neg h2,if_neg h3,if_neg hc]
     rw [hk];rfl
/- an until,part by part -/
def Qav : UntilL := ⟨true,0,1,day1,atZ⟩
def QdN (f : List Bs) (a j : Nat) (u : UntilL) : Except Er UntilL :=
 if j = 0 then (req (Qfj (gt f a)) a 8).bind fun y => .ok { u with year := y }
 else if j = 1 then (req (Qcl (gt f (a + 1))) (a + 1) 6).bind fun m => .ok { u with month := m }
 else if j = 2 then (req (dayP (gt f (a + 2))) (a + 2) 6).bind fun d => (chk (canB d u.year u.month) (a + 2) 6).bind fun _ => .ok { u with on := d }
 else (req (QgC (gt f (a + 3))) (a + 3) 7).bind fun t => .ok { u with at_ := t }
def QeM (f : List Bs) (a : Nat) : Nat → Nat → UntilL → Except Er UntilL
 | 0,_,u => .ok u
 | d + 1,j,u => (QdN f a j u).bind fun v => QeM f a d (j + 1) v
theorem QmF (f : List Bs) (a : Nat) (h1 : a < f.length) (h2 : f.length ≤ a + 4) : QcC f a = QeM f a (f.length - a) 0 Qav := by
 obtain ⟨n,hn,hc⟩ : ∃ n,f.length = a + n ∧ (n = 1 ∨ n = 2 ∨ n = 3 ∨ n = 4) := ⟨f.length - a,by omega,by omega⟩;rw [show f.length - a = n by omega];unfold QcC QdH Qgp QeJ;rw [hn];rcases hc with rfl | rfl | rfl | rfl
 ·simp only [QeM,QdN,if_pos,Nat.add_lt_add_iff_left,Nat.reduceLT,if_false,Nat.lt_irrefl];cases req (Qfj (gt f a)) a 8 <;> rfl
 ·simp only [QeM,QdN,if_pos,Nat.add_lt_add_iff_left,Nat.reduceLT,if_false,Nat.lt_irrefl];cases req (Qfj (gt f a)) a 8 with
  | error e => rfl
  | ok y => cases req (Qcl (gt f (a + 1))) (a + 1) 6 <;> rfl
 ·simp only [QeM,QdN,if_pos,Nat.add_lt_add_iff_left,Nat.reduceLT,if_false,Nat.lt_irrefl];cases req (Qfj (gt f a)) a 8 with
  | error e => rfl
  | ok y => cases req (Qcl (gt f (a + 1))) (a + 1) 6 with
   | error e => rfl
   | ok m => cases req (dayP (gt f (a + 2))) (a + 2) 6 with
    | error e => rfl
    | ok d =>
     show ((chk (canB d y m) (a + 2) 6).bind _).bind _ = ((chk (canB d y m) (a + 2) 6).bind _).bind _;cases chk (canB d y m) (a + 2) 6 <;> rfl
 ·simp only [QeM,QdN,if_pos,Nat.add_lt_add_iff_left,Nat.reduceLT];cases req (Qfj (gt f a)) a 8 with
  | error e => rfl
  | ok y => cases req (Qcl (gt f (a + 1))) (a + 1) 6 with
   | error e => rfl
   | ok m => cases req (dayP (gt f (a + 2))) (a + 2) 6 with
    | error e => rfl
    | ok d =>
     show ((chk (canB d y m) (a + 2) 6).bind _).bind _ = ((chk (canB d y m) (a + 2) 6).bind _).bind _;cases chk (canB d y m) (a + 2) 6 with
     | error e => rfl
     | ok u =>
      show (req _ _ _).bind _ = ((req _ _ _).bind _).bind _;cases req (QgC (gt f (a + 3))) (a + 3) 7 <;> rfl
theorem QgF (fs : List Qat) (p : Nat) (h : p < fs.length) : fs.drop p = (gt (fs.map (·.1)) p,(fs.getD p ([],0)).2) :: fs.drop (p + 1) := by
 rw [List.drop_eq_getElem_cons h];congr 1;unfold gt;rw [List.getD_eq_getElem?_getD,List.getD_eq_getElem?_getD,List.getElem?_map,List.getElem?_eq_getElem h];rfl
theorem Qon : Go.Kwd.QcQ [45] = false := by decide
theorem Qm0 (l : Bs) : Qb4 l = if l = [45] then some (0,0,[]) else if Go.Kwd.QcQ l = true then some (2,0,l) else (Go.Clk.amtD l).map fun n => (1,n,[]) := by
 unfold Qb4;by_cases h : l = [45]
 ·subst h;rw [Qon];rfl
 ·rw [if_neg h,if_neg h]
/- the reference's format: marks are counted -/
def rfmt : Bs → Option Nat
 | [] => some 0
 | c :: r => if c = 37 then (match r.head? with
   | some d => if d = 115 ∨ d = 122 then (rfmt r).map (· + 1) else none
   | none => none)
  else if c = 47 then (rfmt r).map (· + 1) else if letB c = true ∨ c = 45 then rfmt r else none
theorem Qj2 : ∀ (l : Bs) (n : Nat),fmtM n l = (match rfmt l with
  | some k => decide (k ≤ n)
  | none => false)
 | [],n => by simp [fmtM,rfmt]
 | c :: r,n => by
  have ih := fun m => Qj2 r m;rw [fmtM,rfmt];by_cases h1 : c = 37
  ·rw [if_pos h1,if_pos h1];cases r.head? with
   | none => simp
   | some d =>
    simp only;by_cases hd : d = 115 ∨ d = 122
    ·rw [if_pos hd,ih];have : (d == 115 || d == 122) = true := by simpa using hd
     rw [this];cases rfmt r with
     | none => simp
     | some k =>
      simp only [Option.map_some,Bool.true_and];rw [Bool.eq_iff_iff];simp;omega
    ·rw [if_neg hd];have : (d == 115 || d == 122) = false := by simpa using hd
     rw [this];simp
  ·rw [if_neg h1,if_neg h1];by_cases h2 : c = 47
   ·rw [if_pos h2,if_pos h2,ih];cases rfmt r with
    | none => simp
    | some k =>
     simp only [Option.map_some];rw [Bool.eq_iff_iff];simp;omega
   ·rw [if_neg h2,if_neg h2,ih];by_cases h3 : letB c = true ∨ c = 45
    ·rw [if_pos h3];have : (letB c || c == 45) = true := by simpa using h3
     rw [this,Bool.true_and]
    ·rw [if_neg h3];have : (letB c || c == 45) = false := by simpa using h3
     rw [this];simp
end Go.Lin
namespace Go.Dcm
open Go.Lin

/- a document without a diag -/
def Qce (z : ZoneL) : Prop := ∀ k (h : k < z.eras.length),z.eras[k].til.has = decide (k + 1 < z.eras.length)
/- how often each kind is there -/
def wrongK (k : Int) : Bool := k == 10 || k == 17
def QgZ (d : List DiagL) : Nat := d.countP fun x => wrongK x.k
theorem QiF (a b : List DiagL) : QgZ (a ++ b) = QgZ a + QgZ b := by simp [QgZ]
theorem QhP (s : StL) (i : Int) : (brk s i).rules = s.rules ∧ (brk s i).done = s.done ∧ (brk s i).cur = s.cur ∧ (brk s i).links = s.links ∧ QgZ (brk s i).diags = QgZ s.diags := by
 unfold brk;split
 ·refine ⟨rfl,rfl,rfl,rfl,?_⟩;show QgZ (s.diags ++ [⟨i,0,21⟩]) = _;rw [QiF];rfl
 ·exact ⟨rfl,rfl,rfl,rfl,rfl⟩
/- the lines of zones rise -/
end Go.Dcm
