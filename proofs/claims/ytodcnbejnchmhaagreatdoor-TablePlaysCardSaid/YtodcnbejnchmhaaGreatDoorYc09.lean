import Derived.Test.YtodcnbejnchmhaaGreatDoorYc07
import Derived.Test.YtodcnbejnchmhaaGreatDoorYc08
import Derived.Lib.SplitLaws
namespace Go.Dcm
open Go.Lin

/- what lines make -/
structure ZoneL where
 name : Bs
 eras : List EraL
 lines : List Int
structure LinkL where
 target : Bs
 name : Bs
 line : Int
structure DiagL where
 line : Int
 col : Int
 k : Int
structure DocL where
 rules : List (RuleL × Int)
 zones : List ZoneL
 links : List LinkL
 diags : List DiagL
/-- while lines are gathered: zones that are done with,and the last one -/
structure StL where
 rules : List (RuleL × Int)
 done : List ZoneL
 cur : Option ZoneL
 links : List LinkL
 diags : List DiagL
 opn : Bool
def StL.zones (s : StL) : List ZoneL := s.done ++ s.cur.toList
def stZ : StL := ⟨[],[],none,[],[],false⟩
def tell (s : StL) (i c k : Int) : StL := { s with diags := s.diags ++ [⟨i,c,k⟩] }
def brk (s : StL) (i : Int) : StL := if s.opn = true then { tell s i 0 21 with opn := false } else s
def Qc4 (s : StL) (i : Int) (x : LineL) : StL := { brk s i with rules := s.rules ++ [(x.rule,i)] }
def Qcd (s : StL) (i : Int) (x : LineL) : StL := { brk s i with done := s.zones,cur := some ⟨x.name,[x.era],[i]⟩,opn := x.era.til.has }
def linkD (s : StL) (i : Int) (x : LineL) : StL := { brk s i with links := s.links ++ [⟨x.target,x.name,i⟩] }
def Qe0 (s : StL) (i : Int) (x : LineL) : StL := match s.opn,s.cur with
 | true,some z => if 8 ≤ z.eras.length then { tell s i 0 17 with opn := x.era.til.has } else { s with cur := some ⟨z.name,z.eras ++ [x.era],z.lines ++ [i]⟩,opn := x.era.til.has }
 | _,_ => tell s i 0 10
def stepD (s : StL) (p : Int × LineL) : StL :=
 if p.2.kind = 1 then Qc4 s p.1 p.2
 else if p.2.kind = 2 then Qcd s p.1 p.2
 else if p.2.kind = 3 then Qe0 s p.1 p.2
 else if p.2.kind = 4 then linkD s p.1 p.2
 else if p.2.kind = 5 then tell s p.1 p.2.col p.2.err
 else s
def lastOf (z : ZoneL) : Int := z.lines.getLastD 0
def endS (s : StL) : StL := match s.opn,s.cur with
 | true,some z => tell s (lastOf z) 0 21
 | _,_ => s
def StL.doc (s : StL) : DocL := ⟨s.rules,s.zones,s.links,s.diags⟩
def endD (s : StL) : DocL := (endS s).doc
def runD (s : StL) (l : List (Int × LineL)) : StL := l.foldl stepD s
/-- lines with their numbers -/
def num : Int → List LineL → List (Int × LineL)
 | _,[] => []
 | i,x :: l => (i,x) :: num (i + 1) l
def ofS (l : List LineL) : StL := runD stZ (num 0 l)
def ofD (l : List LineL) : DocL := endD (ofS l)

/- what is always so -/
/- how many there are -/
def size (s : StL) : Nat := s.rules.length + s.zones.length + s.links.length + s.diags.length
end Go.Dcm
namespace Go.Dcm
open Go.Lib Go.Rope

/-- a text without the carriage return at its end -/
def Qcn (l : Lin.Bs) : Lin.Bs := if l.getLast? = some 13 then l.dropLast else l
def QdY (l : Lin.Bs) : List Lin.Bs := (Qas l).map Qcn
/-- what strings.TrimSuffix makes of it -/
theorem QmZ (l : Lin.Bs) : trimSuffix l [13] = Qcn l := by
 unfold trimSuffix hasSuffix Qcn;by_cases h : l.getLast? = some 13
 ·obtain ⟨a,rfl⟩ : ∃ a,l = a ++ [13] := by
   rw [List.getLast?_eq_some_iff] at h;exact h
  simp
 ·rw [if_neg h,if_neg];intro hs;obtain ⟨a,rfl⟩ := List.isSuffixOf_iff_suffix.1 hs;simp at h
theorem Qko : split [] [10] = [[]] := by
 rw [split,count_miss (by simp [index])];rfl
theorem Qm8 (l : Lin.Bs) : split (10 :: l) [10] = [] :: split l [10] := by
 have hix : index (10 :: l) [10] = ((0 : Nat) : Int) := by rw [index]; simp [List.isPrefixOf]
 rw [split,count_cons_eq,Nat.add_comm,splitK,hix];simp [split]
theorem Qkn (c : UInt8) (l : Lin.Bs) (h : c ≠ 10) : ∃ p ps,split l [10] = p :: ps ∧ split (c :: l) [10] = (c :: p) :: ps := by
 have hp : ([10] : List UInt8).isPrefixOf (c :: l) = false := by simp [List.isPrefixOf,Ne.symm h]
 have hix : index (c :: l) [10] = if index l [10] == -1 then -1 else index l [10] + 1 := by rw [index,hp]; simp
 unfold split;rw [count_cons_ne c 10 l h];by_cases hm : index l [10] = -1
 ·rw [count_miss hm];exact ⟨l,[],rfl,rfl⟩
 ·have hge := index_ge l [10];obtain ⟨j,hj⟩ : ∃ j : Nat,index l [10] = j := ⟨(index l [10]).toNat,by omega⟩;have hix' : index (c :: l) [10] = ((j + 1 : Nat) : Int) := by rw [hix,if_neg (fun e => hm (beq_iff_eq.1 e)),hj]; omega
  rw [count_hit (by simp) hj,Nat.add_comm,splitK,splitK,if_neg (fun e => hm (beq_iff_eq.1 e)),if_neg (by rw [hix']; intro e; have := beq_iff_eq.1 e; omega),hj,hix'];exact ⟨_,_,rfl,by simp⟩
theorem QgL : ∀ l : Lin.Bs,split l [10] = Qas l
 | [] => Qko
 | c :: l => by
  have ih := QgL l;by_cases hc : c = 10
  ·subst hc;rw [Qm8,ih];simp [Qas]
  ·obtain ⟨p,ps,h1,h2⟩ := Qkn c l hc;rw [ih] at h1;rw [h2,Qas,if_neg hc,h1]
theorem QpF (a b : Lin.Bs) : Qas (a ++ 10 :: b) = Qas a ++ Qas b := by
 induction a with
 | nil => simp [Qas]
 | cons c r ih =>
  by_cases hc : c = 10
  ·subst hc;simp [Qas,ih]
  ·rw [List.cons_append,Qas,if_neg hc,ih];cases h : Qas r with
   | nil => exact absurd h (QdR r)
   | cons x xs =>
    have e : Qas (c :: r) = (c :: x) :: xs := by rw [Qas,if_neg hc,h]
    rw [e];rfl
theorem Qft : ∀ l : Lin.Bs,(Qas l).length ≤ l.length + 1 ∧ ∀ x ∈ Qas l,x.length ≤ l.length
 | [] => ⟨Nat.le_refl _,fun x hx => by simp [Qas] at hx; simp [hx]⟩
 | c :: r => by
  obtain ⟨h1,h2⟩ := Qft r;by_cases hc : c = 10
  ·subst hc;simp only [Qas,if_true,List.length_cons];refine ⟨by omega,fun x hx => ?_⟩;rcases List.mem_cons.1 hx with hx | hx
   ·simp [hx]
   ·have := h2 x hx;omega
  ·unfold Qas;rw [if_neg hc];cases h : Qas r with
   | nil => exact absurd h (QdR r)
   | cons y ys =>
    rw [h] at h1 h2;simp only [List.length_cons] at h1 ⊢;refine ⟨by omega,fun x hx => ?_⟩;rcases List.mem_cons.1 hx with hx | hx
    ·have := h2 y List.mem_cons_self;rw [hx];simp only [List.length_cons];omega
    ·have := h2 x (List.mem_cons_of_mem _ hx);omega
theorem Ql1 (l : Lin.Bs) : (Qcn l).length ≤ l.length := by
 unfold Qcn;split
 ·rw [List.length_dropLast]; omega
 ·exact Nat.le_refl _
theorem QpG (l : Lin.Bs) : (QdY l).length ≤ l.length + 1 ∧ ∀ x ∈ QdY l,x.length ≤ l.length := by
 obtain ⟨h1,h2⟩ := Qft l;unfold QdY;refine ⟨by rw [List.length_map]; exact h1,fun x hx => ?_⟩;obtain ⟨y,hy,rfl⟩ := List.mem_map.1 hx;exact Nat.le_trans (Ql1 y) (h2 y hy)
end Go.Dcm
namespace Go.Lin
open Go.Lib

/- a line as the code reads it: its kind,how many fields,and what they tell -/
theorem Qqb {l : Bs} (h : QeM l = true) : Go.Kwd.headD l = 0 := by
 cases l with
 | nil => cases h
 | cons c r =>
  have H : ∀ k : Fin 256,((UInt8.ofNat k.val) == 45 || Go.Kwd.Qbc (UInt8.ofNat k.val)) = true → Go.Kwd.lowB (UInt8.ofNat k.val) ≠ 114 ∧ Go.Kwd.lowB (UInt8.ofNat k.val) ≠ 122 ∧ Go.Kwd.lowB (UInt8.ofNat k.val) ≠ 108 := by decide +kernel
  have hc := H ⟨c.toNat,c.toNat_lt⟩;simp only [UInt8.ofNat_toNat] at hc;obtain ⟨h1,h2,h3⟩ := hc h;unfold Go.Kwd.headD Go.Kwd.QhF Go.Kwd.Qca Go.Kwd.QnO;simp [Go.Kwd.Qd7,Go.Kwd.preB,h1,h2,h3]
def QbR (l : Bs) : Nat := if Go.Kwd.headD l = 1 then 1 else if Go.Kwd.headD l = 2 then 2 else if Go.Kwd.headD l = 3 then 4 else if QeM l = true then 3 else 0
theorem Qh6 (l : Bs) : QbR l = 0 ∨ QbR l = 1 ∨ QbR l = 2 ∨ QbR l = 3 ∨ QbR l = 4 := by
 unfold QbR;split
 ·simp
 ·split
  ·simp
  ·split
   ·simp
   ·split <;> simp
def Qef (k : Nat) : Nat := if k = 1 then 10 else if k = 2 then 5 else 3
def Qg8 (k : Nat) : Nat := if k = 1 then 10 else if k = 2 then 9 else if k = 3 then 7 else 3
def QfZ (k : Nat) (f : List Bs) : Except Er LineL :=
 if k = 1 then (QeK f).bind fun r => .ok { Qae with kind := 1,rule := r }
 else if k = 2 then (chk (Go.Kwd.Qcd (gt f 1)) 1 5).bind fun _ => (eraP f 2).bind fun e => .ok { Qae with kind := 2,name := gt f 1,era := e }
 else if k = 3 then (eraP f 0).bind fun e => .ok { Qae with kind := 3,era := e }
 else (chk (Go.Kwd.Qcd (gt f 1)) 1 5).bind fun _ => (chk (Go.Kwd.Qcd (gt f 2)) 2 5).bind fun _ => .ok { Qae with kind := 4,target := gt f 1,name := gt f 2 }
def Qd4 (fs : List Qat) : Except Er Nat :=
 if QbR (gt (fs.map (·.1)) 0) = 0 then .error (0,3)
 else if fs.length < Qef (QbR (gt (fs.map (·.1)) 0)) ∨ Qg8 (QbR (gt (fs.map (·.1)) 0)) < fs.length then .error (0,4) else .ok (QbR (gt (fs.map (·.1)) 0))
def QkK (fs : List Qat) : Except Er LineL := (Qd4 fs).bind fun k => QfZ k (fs.map (·.1))
theorem Qgk {α : Type} (fs : List Qat) (r : Except Er α) (g : α → LineL) : outL fs (r.bind fun v => .ok (g v)) id = outL fs r g := by cases r <;> rfl
theorem QpJ (fs : List Qat) (h : fs ≠ []) : Qdi fs = outL fs (QkK fs) id := by
 unfold Qdi QkK Qd4;rw [if_neg h];generalize hx : gt (fs.map (·.1)) 0 = x;by_cases hc : QeM x = true
 ·have hh := Qqb hc;rw [if_pos hc];have hk : QbR x = 3 := by
   unfold QbR;rw [hh];simp [hc]
  rw [hk];simp only [Qef,Qg8,Nat.reduceEqDiff,if_false,if_true];split
  ·rfl
  ·show _ = outL fs ((eraP _ 0).bind _) id;rw [Qgk]
 ·rw [if_neg hc];by_cases h1 : Go.Kwd.headD x = 1
  ·rw [if_pos h1];have hk : QbR x = 1 := by
    unfold QbR;rw [if_pos h1]
   rw [hk];simp only [Qef,Qg8,Nat.reduceEqDiff,if_false,if_true];by_cases hn : fs.length = 10
   ·rw [if_neg (by omega),if_neg (by omega)];show _ = outL fs ((QeK _).bind _) id;rw [Qgk]
   ·rw [if_pos hn,if_pos (by omega)];rfl
  ·rw [if_neg h1];by_cases h2 : Go.Kwd.headD x = 2
   ·rw [if_pos h2];have hk : QbR x = 2 := by
     unfold QbR;rw [if_neg h1,if_pos h2]
    rw [hk];simp only [Qef,Qg8,Nat.reduceEqDiff,if_false,if_true];by_cases hn : fs.length < 5 ∨ 9 < fs.length
    ·rw [if_pos hn,if_pos hn];rfl
    ·rw [if_neg hn,if_neg hn];show _ = outL fs ((chk _ 1 5).bind fun _ => (eraP _ 2).bind _) id;cases chk (Go.Kwd.Qcd (gt (fs.map (·.1)) 1)) 1 5 with
     | error e => rfl
     | ok u => exact (Qgk fs (eraP _ 2) _).symm
   ·rw [if_neg h2];by_cases h3 : Go.Kwd.headD x = 3
    ·rw [if_pos h3];have hk : QbR x = 4 := by
      unfold QbR;rw [if_neg h1,if_neg h2,if_pos h3]
     rw [hk];simp only [Qef,Qg8,Nat.reduceEqDiff,if_false];by_cases hn : fs.length = 3
     ·rw [if_neg (by omega),if_neg (by omega)];unfold QpE;show _ = outL fs ((chk _ 1 5).bind fun _ => (chk _ 2 5).bind _) id;cases chk (Go.Kwd.Qcd (gt (fs.map (·.1)) 1)) 1 5 with
      | error e => rfl
      | ok u => exact (Qgk fs (chk _ 2 5) _).symm
     ·rw [if_pos hn,if_pos (by omega)];rfl
    ·rw [if_neg h3];have hk : QbR x = 0 := by
      unfold QbR;rw [if_neg h1,if_neg h2,if_neg h3,if_neg hc]
     rw [hk];rfl
/- an until,part by part -/
def Qau : UntilL := ⟨true,0,1,day1,atZ⟩
def Qdl (f : List Bs) (a j : Nat) (u : UntilL) : Except Er UntilL :=
 if j = 0 then (req (Qe4 (gt f a)) a 8).bind fun y => .ok { u with year := y }
 else if j = 1 then (req (Qb2 (gt f (a + 1))) (a + 1) 6).bind fun m => .ok { u with month := m }
 else if j = 2 then (req (dayP (gt f (a + 2))) (a + 2) 6).bind fun d => (chk (canB d u.year u.month) (a + 2) 6).bind fun _ => .ok { u with on := d }
 else (req (Qga (gt f (a + 3))) (a + 3) 7).bind fun t => .ok { u with at_ := t }
def Qeb (f : List Bs) (a : Nat) : Nat → Nat → UntilL → Except Er UntilL
 | 0,_,u => .ok u
 | d + 1,j,u => (Qdl f a j u).bind fun v => Qeb f a d (j + 1) v
theorem QmT (f : List Bs) (a : Nat) (h1 : a < f.length) (h2 : f.length ≤ a + 4) : Qcs f a = Qeb f a (f.length - a) 0 Qau := by
 obtain ⟨n,hn,hc⟩ : ∃ n,f.length = a + n ∧ (n = 1 ∨ n = 2 ∨ n = 3 ∨ n = 4) := ⟨f.length - a,by omega,by omega⟩;rw [show f.length - a = n by omega];unfold Qcs QdG QgD QeT;rw [hn];rcases hc with rfl | rfl | rfl | rfl
 ·simp only [Qeb,Qdl,if_pos,Nat.add_lt_add_iff_left,Nat.reduceLT,if_false,Nat.lt_irrefl];cases req (Qe4 (gt f a)) a 8 <;> rfl
 ·simp only [Qeb,Qdl,if_pos,Nat.add_lt_add_iff_left,Nat.reduceLT,if_false,Nat.lt_irrefl];cases req (Qe4 (gt f a)) a 8 with
  | error e => rfl
  | ok y => cases req (Qb2 (gt f (a + 1))) (a + 1) 6 <;> rfl
 ·simp only [Qeb,Qdl,if_pos,Nat.add_lt_add_iff_left,Nat.reduceLT,if_false,Nat.lt_irrefl];cases req (Qe4 (gt f a)) a 8 with
  | error e => rfl
  | ok y => cases req (Qb2 (gt f (a + 1))) (a + 1) 6 with
   | error e => rfl
   | ok m => cases req (dayP (gt f (a + 2))) (a + 2) 6 with
    | error e => rfl
    | ok d =>
     show ((chk (canB d y m) (a + 2) 6).bind _).bind _ = ((chk (canB d y m) (a + 2) 6).bind _).bind _;cases chk (canB d y m) (a + 2) 6 <;> rfl
 ·simp only [Qeb,Qdl,if_pos,Nat.add_lt_add_iff_left,Nat.reduceLT];cases req (Qe4 (gt f a)) a 8 with
  | error e => rfl
  | ok y => cases req (Qb2 (gt f (a + 1))) (a + 1) 6 with
   | error e => rfl
   | ok m => cases req (dayP (gt f (a + 2))) (a + 2) 6 with
    | error e => rfl
    | ok d =>
     show ((chk (canB d y m) (a + 2) 6).bind _).bind _ = ((chk (canB d y m) (a + 2) 6).bind _).bind _;cases chk (canB d y m) (a + 2) 6 with
     | error e => rfl
     | ok u =>
      show (req _ _ _).bind _ = ((req _ _ _).bind _).bind _;cases req (Qga (gt f (a + 3))) (a + 3) 7 <;> rfl
theorem Qgd (fs : List Qat) (p : Nat) (h : p < fs.length) : fs.drop p = (gt (fs.map (·.1)) p,(fs.getD p ([],0)).2) :: fs.drop (p + 1) := by
 rw [List.drop_eq_getElem_cons h];congr 1;unfold gt;rw [List.getD_eq_getElem?_getD,List.getD_eq_getElem?_getD,List.getElem?_map,List.getElem?_eq_getElem h];rfl
theorem QoL : Go.Kwd.Qc4 [45] = false := by decide
theorem Qne (l : Bs) : QbU l = if l = [45] then some (0,0,[]) else if Go.Kwd.Qc4 l = true then some (2,0,l) else (Go.Clk.amtD l).map fun n => (1,n,[]) := by
 unfold QbU;by_cases h : l = [45]
 ·subst h;rw [QoL];rfl
 ·rw [if_neg h,if_neg h]
/- the reference's format: marks are counted -/
def rfmt : Bs → Option Nat
 | [] => some 0
 | c :: r => if c = 37 then (match r.head? with
   | some d => if d = 115 ∨ d = 122 then (rfmt r).map (· + 1) else none
   | none => none)
  else if c = 47 then (rfmt r).map (· + 1) else if letB c = true ∨ c = 45 then rfmt r else none
theorem QjS : ∀ (l : Bs) (n : Nat),fmtM n l = (match rfmt l with
  | some k => decide (k ≤ n)
  | none => false)
 | [],n => by simp [fmtM,rfmt]
 | c :: r,n => by
  have ih := fun m => QjS r m;rw [fmtM,rfmt];by_cases h1 : c = 37
  ·rw [if_pos h1,if_pos h1];cases r.head? with
   | none => simp
   | some d =>
    simp only;by_cases hd : d = 115 ∨ d = 122
    ·rw [if_pos hd,ih];have : (d == 115 || d == 122) = true := by simpa using hd
     rw [this];cases rfmt r with
     | none => simp
     | some k =>
      simp only [Option.map_some,Bool.true_and];rw [Bool.eq_iff_iff];simp;omega
    ·rw [if_neg hd];have : (d == 115 || d == 122) = false := by simpa using hd
     rw [this];simp
  ·rw [if_neg h1,if_neg h1];by_cases h2 : c = 47
   ·rw [if_pos h2,if_pos h2,ih];cases rfmt r with
    | none => simp
    | some k =>
     simp only [Option.map_some];rw [Bool.eq_iff_iff];simp;omega
   ·rw [if_neg h2,if_neg h2,ih];by_cases h3 : letB c = true ∨ c = 45
    ·rw [if_pos h3];have : (letB c || c == 45) = true := by simpa using h3
     rw [this,Bool.true_and]
    ·rw [if_neg h3];have : (letB c || c == 45) = false := by simpa using h3
     rw [this];simp
end Go.Lin
