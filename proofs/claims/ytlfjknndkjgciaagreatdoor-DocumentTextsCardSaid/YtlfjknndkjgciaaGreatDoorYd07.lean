import Derived.Test.YtlfjknndkjgciaaGreatDoorYd01
import Derived.Test.YtlfjknndkjgciaaGreatDoorYd03
import Derived.Test.YtlfjknndkjgciaaGreatDoorYd04
import Derived.Test.YtlfjknndkjgciaaGreatDoorYd06
import Derived.Lib.IndexMore
namespace Go.Lin
open Go.Lib
abbrev Bs := List UInt8

/- what a line says -/
structure DayL where
 k : Int
 d : Int
 w : Int
deriving DecidableEq
structure AtL where
 s : Int
 k : Int
deriving DecidableEq
structure RuleL where
 name : Bs
 fr : Int
 to : Int
 month : Int
 on : DayL
 at_ : AtL
 save : Int
 letter : Bs
deriving DecidableEq
structure UntilL where
 has : Bool
 year : Int
 month : Int
 on : DayL
 at_ : AtL
deriving DecidableEq
structure EraL where
 off : Int
 kind : Int
 save : Int
 rules : Bs
 format : Bs
 til : UntilL
deriving DecidableEq
structure LineL where
 kind : Int
 rule : RuleL
 name : Bs
 target : Bs
 era : EraL
 err : Int
 col : Int
deriving DecidableEq
def dayZ : DayL := ⟨0,0,0⟩
def day1 : DayL := ⟨0,1,0⟩
def atZ : AtL := ⟨0,0⟩
def QdO : RuleL := ⟨[],0,0,0,dayZ,atZ,0,[]⟩
def tilZ : UntilL := ⟨false,0,0,dayZ,atZ⟩
def eraZ : EraL := ⟨0,0,0,[],[],tilZ⟩
def Qae : LineL := ⟨0,QdO,[],[],eraZ,0,0⟩

/- what a field tells -/
def letB (c : UInt8) : Bool := Go.Kwd.Qbo c || Go.Kwd.Qbs c || c == 43
def canB (d : DayL) (y m : Int) : Bool := Go.Civil.QaS y m (if d.k = 1 then Go.Civil.Qba y m else d.d)
def QgC (l : Bs) : Option AtL := (Go.Clk.QbX l).map fun x => ⟨x.1,(x.2 : Int)⟩
def dayP (l : Bs) : Option DayL := if (Go.Dfm.QbX l).2.2.2 = 0 then some ⟨(Go.Dfm.QbX l).1,(Go.Dfm.QbX l).2.1,(Go.Dfm.QbX l).2.2.1⟩ else none
def Qcl (l : Bs) : Option Int := if Go.Kwd.QcI l = 0 then none else some (Go.Kwd.QcI l : Int)
def Qfj (l : Bs) : Option Int := if (Go.Kwd.Qc2 (Go.Esc.Qbi l)).2 = 0 then some (Go.Kwd.Qc2 (Go.Esc.Qbi l)).1 else none
def toD (l : Bs) (fr : Int) : Int × Int := Go.Kwd.Qk9 (Go.Kwd.endD l) (Go.Kwd.Qc2 (Go.Esc.Qbi l)) fr
def toP (l : Bs) (fr : Int) : Option Int := if (toD l fr).2 = 0 then some (toD l fr).1 else none
def QcS (l : Bs) : Option Bs := if l = [45] then some [] else if 1 ≤ l.length ∧ l.length ≤ 6 ∧ l.all letB = true then some l else none
/-- kind,save,name -/
def Qb4 (l : Bs) : Option (Int × Int × Bs) := if Go.Kwd.QcQ l = true then some (2,0,l) else if l = [45] then some (0,0,[]) else (Go.Clk.amtD l).map fun n => (1,n,[])
/-- n: marks that are left -/
def fmtM : Nat → Bs → Bool
 | _,[] => true
 | n,c :: r => if c = 37 then (match r.head? with
   | some d => d == 115 || d == 122
   | none => false) && decide (1 ≤ n) && fmtM (n - 1) r
  else if c = 47 then decide (1 ≤ n) && fmtM (n - 1) r else (letB c || c == 45) && fmtM n r
def Qcm (l : Bs) : Bool := decide (1 ≤ l.length) && decide (l.length ≤ 20) && fmtM 1 l

/- what fields tell: a value,or the place of the wrong one and why -/
abbrev Er := Nat × Int
def req {α : Type} (o : Option α) (i : Nat) (k : Int) : Except Er α := match o with
 | some v => .ok v
 | none => .error (i,k)
def chk (b : Bool) (i : Nat) (k : Int) : Except Er Unit := if b = true then .ok () else .error (i,k)
def gt (f : List Bs) (i : Nat) : Bs := f.getD i []
def Qfi (f : List Bs) : Except Er RuleL :=
 (chk (Go.Kwd.QcQ (gt f 1)) 1 5).bind fun _ =>
 (req (Qfj (gt f 2)) 2 8).bind fun y =>
 (req (toP (gt f 3) y) 3 8).bind fun z =>
 (chk (decide (gt f 4 = [45])) 4 3).bind fun _ =>
 (req (Qcl (gt f 5)) 5 6).bind fun m =>
 (req (dayP (gt f 6)) 6 6).bind fun d =>
 (chk (canB d 2000 m) 6 6).bind fun _ =>
 (req (QgC (gt f 7)) 7 7).bind fun t =>
 (req (Go.Clk.amtD (gt f 8)) 8 7).bind fun s =>
 (req (QcS (gt f 9)) 9 15).bind fun l => .ok ⟨gt f 1,y,z,m,d,t,s,l⟩
def QdH (f : List Bs) (a : Nat) : Except Er Int := if a + 1 < f.length then req (Qcl (gt f (a + 1))) (a + 1) 6 else .ok 1
def Qgp (f : List Bs) (a : Nat) (y m : Int) : Except Er DayL := if a + 2 < f.length then (req (dayP (gt f (a + 2))) (a + 2) 6).bind fun d => (chk (canB d y m) (a + 2) 6).bind fun _ => .ok d else .ok day1
def QeJ (f : List Bs) (a : Nat) : Except Er AtL := if a + 3 < f.length then req (QgC (gt f (a + 3))) (a + 3) 7 else .ok atZ
def QcC (f : List Bs) (a : Nat) : Except Er UntilL :=
 (req (Qfj (gt f a)) a 8).bind fun y =>
 (QdH f a).bind fun m =>
 (Qgp f a y m).bind fun d =>
 (QeJ f a).bind fun t => .ok ⟨true,y,m,d,t⟩
def eraP (f : List Bs) (a : Nat) : Except Er EraL :=
 (req (Go.Clk.amtD (gt f a)) a 7).bind fun o =>
 (req (Qb4 (gt f (a + 1))) (a + 1) 5).bind fun r =>
 (chk (Qcm (gt f (a + 2))) (a + 2) 15).bind fun _ =>
 (if a + 3 < f.length then QcC f (a + 3) else .ok tilZ).bind fun u => .ok ⟨o,r.1,r.2.1,r.2.2,gt f (a + 2),u⟩
def Qpb (f : List Bs) : Except Er Unit := (chk (Go.Kwd.QbR (gt f 1)) 1 5).bind fun _ => chk (Go.Kwd.QbR (gt f 2)) 2 5
abbrev Qat := Bs × Nat
def QaE (k c : Int) : LineL := { Qae with kind := 5,err := k,col := c }
def Qcd (fs : List Qat) (i : Nat) : Int := ((fs.getD i ([],0)).2 : Int)
def outL {α : Type} (fs : List Qat) (r : Except Er α) (g : α → LineL) : LineL := match r with
 | .ok v => g v
 | .error e => QaE e.2 (Qcd fs e.1)
def QeI (l : Bs) : Bool := match l with
 | [] => false
 | c :: _ => c == 45 || Go.Kwd.Qbs c
def Qdh (fs : List Qat) : LineL :=
 if fs = [] then Qae
 else if QeI (gt (fs.map (·.1)) 0) = true then (if fs.length < 3 ∨ 7 < fs.length then QaE 4 (Qcd fs 0) else outL fs (eraP (fs.map (·.1)) 0) fun e => { Qae with kind := 3,era := e })
 else if Go.Kwd.headD (gt (fs.map (·.1)) 0) = 1 then (if fs.length ≠ 10 then QaE 4 (Qcd fs 0) else outL fs (Qfi (fs.map (·.1))) fun r => { Qae with kind := 1,rule := r })
 else if Go.Kwd.headD (gt (fs.map (·.1)) 0) = 2 then (if fs.length < 5 ∨ 9 < fs.length then QaE 4 (Qcd fs 0) else
  outL fs ((chk (Go.Kwd.QbR (gt (fs.map (·.1)) 1)) 1 5).bind fun _ => eraP (fs.map (·.1)) 2) fun e => { Qae with kind := 2,name := gt (fs.map (·.1)) 1,era := e })
 else if Go.Kwd.headD (gt (fs.map (·.1)) 0) = 3 then (if fs.length ≠ 3 then QaE 4 (Qcd fs 0) else outL fs (Qpb (fs.map (·.1))) fun _ => { Qae with kind := 4,target := gt (fs.map (·.1)) 1,name := gt (fs.map (·.1)) 2 })
 else QaE 3 (Qcd fs 0)

/- which lines are right,and their fields -/
def Qjr (t : AtL) : Prop := -604799 ≤ t.s ∧ t.s ≤ 604799 ∧ 0 ≤ t.k ∧ t.k ≤ 2
def Qp5 (n : Int) : Prop := -86400 ≤ n ∧ n ≤ 86400
def Qlr (d : DayL) : Prop := Go.Dfm.Qcv d.k d.d d.w
def Qmc (l : Bs) : Prop := l = [] ∨ (1 ≤ l.length ∧ l.length ≤ 6 ∧ l.all letB = true)
def ruleOk (r : RuleL) : Prop := Go.Kwd.QcQ r.name = true ∧ (1 ≤ r.fr ∧ r.fr ≤ 9999) ∧ (Go.Kwd.QiO r.fr r.to).2 = 0 ∧ (1 ≤ r.month ∧ r.month ≤ 12) ∧ Qlr r.on ∧ canB r.on 2000 r.month = true ∧ Qjr r.at_ ∧ Qp5 r.save ∧ Qmc r.letter
def tilOk (u : UntilL) : Prop := u.has = true ∧ (1 ≤ u.year ∧ u.year ≤ 9999) ∧ (1 ≤ u.month ∧ u.month ≤ 12) ∧ Qlr u.on ∧ canB u.on u.year u.month = true ∧ Qjr u.at_
def Qol (k s : Int) (n : Bs) : Prop := (k = 0 ∧ s = 0 ∧ n = []) ∨ (k = 1 ∧ Qp5 s ∧ n = []) ∨ (k = 2 ∧ s = 0 ∧ Go.Kwd.QcQ n = true)
def eraOk (e : EraL) : Prop := Qp5 e.off ∧ Qol e.kind e.save e.rules ∧ Qcm e.format = true ∧ (e.til = tilZ ∨ tilOk e.til)
def Qmb (l : LineL) : Prop := l = Qae ∨ (l = { Qae with kind := 1,rule := l.rule } ∧ ruleOk l.rule) ∨ (l = { Qae with kind := 2,name := l.name,era := l.era } ∧ Go.Kwd.QbR l.name = true ∧ eraOk l.era) ∨
 (l = { Qae with kind := 3,era := l.era } ∧ eraOk l.era) ∨ (l = { Qae with kind := 4,target := l.target,name := l.name } ∧ Go.Kwd.QbR l.target = true ∧ Go.Kwd.QbR l.name = true)
def ruleW : Bs := [82,117,108,101]
def zoneW : Bs := [90,111,110,101]
def linkW : Bs := [76,105,110,107]
/- a format,as the code asks it: without what it may have one of,all bytes are signs -/
def Qdd (c : UInt8) : Bool := letB c || c == 45
theorem Qg9 : Qdd 37 = false := by decide
theorem Qku : Qdd 47 = false := by decide
theorem fmt0 : ∀ l : Bs,fmtM 0 l = l.all Qdd
 | [] => rfl
 | c :: r => by
  rw [fmtM,List.all_cons,← fmt0 r];by_cases h1 : c = 37
  ·subst h1;simp [Qg9]
  ·by_cases h2 : c = 47
   ·subst h2;simp [Qku]
   ·rw [if_neg h1,if_neg h2];rfl
theorem all_not {l : Bs} {c : UInt8} (h : c ∈ l) (hc : Qdd c = false) : l.all Qdd = false := by
 rw [List.all_eq_false];exact ⟨c,h,by simp [hc]⟩
def Qdc : List Bs := [[47],[37,115],[37,122]]
theorem QlV {m : Bs} (h : m ∈ Qdc) : m = [47] ∨ m = [37,115] ∨ m = [37,122] := by simpa [Qdc] using h
theorem fmt_cut (a b m : Bs) (hm : m ∈ Qdc) : fmtM 1 (a ++ (m ++ b)) = (a ++ b).all Qdd := by
 have hx : ∃ c,c ∈ m ∧ Qdd c = false := by
  rcases QlV hm with rfl | rfl | rfl
  ·exact ⟨47,by simp,Qku⟩
  ·exact ⟨37,by simp,Qg9⟩
  ·exact ⟨37,by simp,Qg9⟩
 obtain ⟨d,hd,hs⟩ := hx
 induction a with
 | nil =>
  have h115 : Qdd 115 = true := by decide
  have h122 : Qdd 122 = true := by decide
  have g115 : letB 115 = true := by decide
  have g122 : letB 122 = true := by decide
  rcases QlV hm with rfl | rfl | rfl
  ·simp [fmtM,fmt0]
  ·simp [fmtM,fmt0,g115]
  ·simp [fmtM,fmt0,g122]
 | cons c r ih =>
  show fmtM 1 (c :: (r ++ (m ++ b))) = (c :: (r ++ b)).all Qdd;have hn : (r ++ (m ++ b)).all Qdd = false := all_not (by simp [hd]) hs;rw [fmtM,List.all_cons,← ih];by_cases h1 : c = 37
  ·rw [if_pos h1,fmt0,hn,h1,Qg9];simp
  ·by_cases h2 : c = 47
   ·rw [if_neg h1,if_pos h2,fmt0,hn,h2,Qku];simp
   ·rw [if_neg h1,if_neg h2];rfl
theorem Qmk : ∀ l : Bs,(∀ m,m ∈ Qdc → ∀ a b,l ≠ a ++ (m ++ b)) → fmtM 1 l = l.all Qdd
 | [],_ => rfl
 | c :: r,h => by
  have ih := Qmk r (fun m hm a b e => h m hm (c :: a) b (by rw [e]; rfl));rw [fmtM,List.all_cons,← ih];by_cases h1 : c = 37
  ·rw [if_pos h1,h1,Qg9];cases r with
   | nil => rfl
   | cons d t =>
    have n1 : d ≠ 115 := fun e => h [37,115] (by simp [Qdc]) [] t (by rw [h1,e]; rfl);have n2 : d ≠ 122 := fun e => h [37,122] (by simp [Qdc]) [] t (by rw [h1,e]; rfl);simp [n1,n2]
  ·by_cases h2 : c = 47
   ·exact absurd (by rw [h2]; rfl) (h [47] (by simp [Qdc]) [] r)
   ·rw [if_neg h1,if_neg h2];rfl
theorem Qls {l m : Bs} (h : (cut l m).2.2 = true) : l = (cut l m).1 ++ (m ++ (cut l m).2.1) := by
 unfold cut at *;rcases index_spec l m with ⟨h1,h2⟩ | ⟨i,h1,h2,h3,h4⟩
 ·rw [if_neg (by omega)] at h;cases h
 ·rw [if_pos (by omega),h1];show l = l.take i ++ (m ++ l.drop (i + m.length));unfold occAt at h3;obtain ⟨t,ht⟩ := List.isPrefixOf_iff_prefix.1 h3;rw [← List.drop_drop,← ht,List.drop_left,ht,List.take_append_drop]
theorem cut_no {l m : Bs} (h : (cut l m).2.2 = false) (a b : Bs) : l ≠ a ++ (m ++ b) := by
 intro e;unfold cut at h;rcases index_spec l m with ⟨h1,h2⟩ | ⟨i,h1,h2,h3,h4⟩
 ·have h3 := h2 a.length (by rw [e]; simp);unfold occAt at h3;rw [e,List.drop_left] at h3;have : m.isPrefixOf (m ++ b) = true := List.isPrefixOf_iff_prefix.2 (List.prefix_append _ _);rw [this] at h3;cases h3
 ·rw [if_pos (by omega)] at h;cases h
def Qb1 : List Bs → Bs → Bs
 | [],l => l
 | m :: ms,l => if (cut l m).2.2 = true then (cut l m).1 ++ (cut l m).2.1 else Qb1 ms l
theorem Qkh (l : Bs) : (Qb1 Qdc l).all Qdd = fmtM 1 l := by
 have key : ∀ ms : List Bs,(∀ m ∈ ms,m ∈ Qdc) → (∀ m ∈ Qdc,m ∉ ms → ∀ a b,l ≠ a ++ (m ++ b)) → (Qb1 ms l).all Qdd = fmtM 1 l := by
  intro ms
  induction ms with
  | nil =>
   intro _ h;exact (Qmk l (fun m hm => h m hm (by simp))).symm
  | cons m ms ih =>
   intro hs h;unfold Qb1;cases hc : (cut l m).2.2 with
   | true =>
    rw [if_pos rfl];have := fmt_cut (cut l m).1 (cut l m).2.1 m (hs m (by simp));rw [← Qls hc] at this;exact this.symm
   | false =>
    rw [if_neg (by decide)];refine ih (fun x hx => hs x (by simp [hx])) (fun x hx hn => ?_);by_cases e : x = m
    ·subst e;exact cut_no hc
    ·exact h x hx (by simp [e,hn])
 exact key Qdc (fun _ h => h) (fun m h hn => absurd h hn)
theorem QpJ (l : Bs) : Qcm l = (decide (1 ≤ l.length) && decide (l.length ≤ 20) && (Qb1 Qdc l).all Qdd) := by
 rw [Qkh];rfl
theorem Qg0 (l : Bs) : ∀ ms : List Bs,(Qb1 ms l).length ≤ l.length
 | [] => Nat.le_refl _
 | m :: ms => by
  unfold Qb1;cases hc : (cut l m).2.2 with
  | true =>
   rw [if_pos rfl];have := congrArg List.length (Qls hc);simp only [List.length_append] at this ⊢;omega
  | false =>
   rw [if_neg (by decide)];exact Qg0 l ms
theorem QdD {l m : Bs} (h : (cut l m).2.2 = true) : (cut l m).1.length + (cut l m).2.1.length ≤ l.length := by
 have := congrArg List.length (Qls h);simp only [List.length_append] at this;omega
/- each field's text is read as it -/
theorem Qan {α β : Type} (v : α) (f : α → Except Er β) : (Except.ok v : Except Er α).bind f = f v := rfl
theorem QaC {α : Type} (v : α) (i : Nat) (k : Int) : req (some v) i k = .ok v := rfl
theorem Qbq (i : Nat) (k : Int) : chk true i k = .ok () := rfl
theorem Qnu : QeI ruleW = false ∧ QeI zoneW = false ∧ QeI linkW = false ∧ Go.Kwd.headD ruleW = 1 ∧ Go.Kwd.headD zoneW = 2 ∧ Go.Kwd.headD linkW = 3 := by decide +kernel
/- what is read is right -/
theorem Qis {l : Bs} {y : Int} (h : Qfj l = some y) : 1 ≤ y ∧ y ≤ 9999 := by
 unfold Qfj at h;generalize Go.Esc.Qbi l = p at h;by_cases hp : p.2 = 0 ∧ 1 ≤ p.1 ∧ p.1 ≤ 9999
 ·rw [show Go.Kwd.Qc2 p = (p.1,0) by rw [Go.Kwd.Qc2,if_pos hp],if_pos rfl] at h;injection h with h;subst h;exact hp.2
 ·rw [show Go.Kwd.Qc2 p = (0,8) by rw [Go.Kwd.Qc2,if_neg hp],if_neg (by decide)] at h;cases h
theorem to_right {l : Bs} {fr z : Int} (hf : 1 ≤ fr ∧ fr ≤ 9999) (h : toP l fr = some z) : (Go.Kwd.QiO fr z).2 = 0 := by
 unfold toP toD at h;split at h
 ·rename_i h1;injection h with h;generalize Go.Kwd.endD l = e at *;unfold Go.Kwd.Qk9 at h1 h;have hs : ∀ z : Int,(z = 10000 ∨ (fr ≤ z ∧ z ≤ 9999)) → (Go.Kwd.QiO fr z).2 = 0 := by
   intro z hz;unfold Go.Kwd.QiO;rw [if_neg (by omega)];rcases hz with rfl | hz
   ·rw [if_pos rfl]
   ·rw [if_neg (by omega),if_neg (by omega)];split <;> rfl
  split at h
  ·exact hs z (by simp at h; omega)
  ·split at h
   ·exact hs z (by simp at h; omega)
   ·rename_i g1 g2;rw [if_neg g1,if_neg g2] at h1;split at h
    ·rename_i g3;unfold Go.Kwd.Qc2 at g3 h;split at h
     ·rename_i g4;rw [if_pos g4] at g3;simp at h g3;exact hs z (by omega)
     ·rename_i g4;rw [if_neg g4] at g3;exact absurd g3.1 (by decide)
    ·rename_i g3;rw [if_neg g3] at h1;exact absurd h1 (by decide)
 ·cases h
theorem Qhw {l : Bs} {m : Int} (h : Qcl l = some m) : 1 ≤ m ∧ m ≤ 12 := by
 unfold Qcl at h;split at h
 ·cases h
 ·rename_i h0;injection h with h;have h1 : Go.Kwd.QcI l ≤ 0 + Go.Kwd.QfY.length := Go.Kwd.Qi9 _ _ 0 0 0 (Nat.le_refl _);have h2 : Go.Kwd.QfY.length = 12 := rfl;omega
theorem Qea {l : Bs} {d : DayL} (h : dayP l = some d) : Qlr d := by
 unfold dayP at h;rcases Go.Dfm.Qdz l with ⟨k,n,w,hp,-,e⟩ | ⟨-,e⟩
 ·rw [e] at h;simp at h;rw [← h];exact hp
 ·rw [e] at h;simp at h
theorem Qh8 {l : Bs} {t : AtL} (h : QgC l = some t) : Qjr t := by
 unfold QgC at h;obtain ⟨⟨n,k⟩,hx,rfl⟩ := Option.map_eq_some_iff.1 h;obtain ⟨h1,h2,h3⟩ := Go.Clk.QkY hx;exact ⟨h1,h2,by show (0 : Int) ≤ (k : Int); omega,by show (k : Int) ≤ 2; omega⟩
theorem QhU {l : Bs} {n : Int} (h : Go.Clk.amtD l = some n) : Qp5 n := by
 cases Go.Clk.of_amt h with
 | dash => exact ⟨by decide,by decide⟩
 | mk _ _ _ h1 h2 => exact ⟨h1,h2⟩
theorem QjU {l x : Bs} (h : QcS l = some x) : Qmc x := by
 unfold QcS at h;split at h
 ·injection h with h;exact .inl h.symm
 ·split at h
  ·rename_i h2;injection h with h;subst h;exact .inr h2
  ·cases h
theorem Qkx {l : Bs} {r : Int × Int × Bs} (h : Qb4 l = some r) : Qol r.1 r.2.1 r.2.2 := by
 unfold Qb4 at h;split at h
 ·rename_i h1;injection h with h;subst h;exact .inr (.inr ⟨rfl,rfl,h1⟩)
 ·split at h
  ·injection h with h;subst h;exact .inl ⟨rfl,rfl,rfl⟩
  ·obtain ⟨n,hn,rfl⟩ := Option.map_eq_some_iff.1 h;exact .inr (.inl ⟨rfl,QhU hn,rfl⟩)
theorem QbT {α β : Type} {x : Except Er α} {f : α → Except Er β} {v : β} (h : x.bind f = .ok v) : ∃ a,x = .ok a ∧ f a = .ok v := by
 cases x with
 | error e => cases h
 | ok a => exact ⟨a,rfl,h⟩
theorem Qd2 {α : Type} {o : Option α} {i : Nat} {k : Int} {v : α} (h : req o i k = .ok v) : o = some v := by
 cases o with
 | none => cases h
 | some x => injection h with h; rw [h]
theorem Qhr {b : Bool} {i : Nat} {k : Int} {u : Unit} (h : chk b i k = .ok u) : b = true := by
 cases b with
 | false => cases h
 | true => rfl
theorem Qm1 {f : List Bs} {r : RuleL} (h : Qfi f = .ok r) : ruleOk r := by
 unfold Qfi at h;obtain ⟨_,a1,h⟩ := QbT h;obtain ⟨y,a2,h⟩ := QbT h;obtain ⟨z,a3,h⟩ := QbT h;obtain ⟨_,a4,h⟩ := QbT h;obtain ⟨m,a5,h⟩ := QbT h;obtain ⟨d,a6,h⟩ := QbT h;obtain ⟨_,a7,h⟩ := QbT h;obtain ⟨t,a8,h⟩ := QbT h;obtain ⟨s,a9,h⟩ := QbT h;obtain ⟨l,a10,h⟩ := QbT h;injection h with h;subst h;have hy := Qis (Qd2 a2);exact ⟨Qhr a1,hy,to_right hy (Qd2 a3),Qhw (Qd2 a5),Qea (Qd2 a6),Qhr a7,Qh8 (Qd2 a8),QhU (Qd2 a9),QjU (Qd2 a10)⟩
theorem can_day1 {y m : Int} (hy : 1 ≤ y ∧ y ≤ 9999) (hm : 1 ≤ m ∧ m ≤ 12) : canB day1 y m = true := by
 have := Go.Civil.longI_ge (y := y) hm;show Go.Civil.QaS y m 1 = true;rw [Go.Civil.QaY];omega
theorem Qn8 {f : List Bs} {a : Nat} {u : UntilL} (h : QcC f a = .ok u) : tilOk u := by
 unfold QcC at h;obtain ⟨y,a1,h⟩ := QbT h;obtain ⟨m,a2,h⟩ := QbT h;obtain ⟨d,a3,h⟩ := QbT h;obtain ⟨t,a4,h⟩ := QbT h;injection h with h;subst h;have hy := Qis (Qd2 a1);have hm : 1 ≤ m ∧ m ≤ 12 := by
  unfold QdH at a2;split at a2
  ·exact Qhw (Qd2 a2)
  ·injection a2 with a2;omega
 have hd : Qlr d ∧ canB d y m = true := by
  unfold Qgp at a3;split at a3
  ·obtain ⟨d',b1,a3⟩ := QbT a3;obtain ⟨_,b2,a3⟩ := QbT a3;injection a3 with a3;subst a3;exact ⟨Qea (Qd2 b1),Qhr b2⟩
  ·injection a3 with a3;subst a3;exact ⟨.inl ⟨rfl,by decide,by decide,rfl⟩,can_day1 hy hm⟩
 have ht : Qjr t := by
  unfold QeJ at a4;split at a4
  ·exact Qh8 (Qd2 a4)
  ·injection a4 with a4;subst a4;exact ⟨by decide,by decide,by decide,by decide⟩
 exact ⟨rfl,hy,hm,hd.1,hd.2,ht⟩
theorem Qj7 {f : List Bs} {a : Nat} {e : EraL} (h : eraP f a = .ok e) : eraOk e := by
 unfold eraP at h;obtain ⟨o,a1,h⟩ := QbT h;obtain ⟨r,a2,h⟩ := QbT h;obtain ⟨_,a3,h⟩ := QbT h;obtain ⟨u,a4,h⟩ := QbT h;injection h with h;subst h;refine ⟨QhU (Qd2 a1),Qkx (Qd2 a2),Qhr a3,?_⟩;split at a4
 ·exact .inr (Qn8 a4)
 ·injection a4 with a4;exact .inl a4.symm
theorem Qno {f : List Bs} {u : Unit} (h : Qpb f = .ok u) : Go.Kwd.QbR (gt f 1) = true ∧ Go.Kwd.QbR (gt f 2) = true := by
 unfold Qpb at h;obtain ⟨_,a1,h⟩ := QbT h;exact ⟨Qhr a1,Qhr h⟩
/-- what a line says is right,or it is wrong -/
theorem Qnp (fs : List Qat) : Qmb (Qdh fs) ∨ ∃ k c,Qdh fs = QaE k c ∧ k ≠ 0 ∧ ∃ i,c = Qcd fs i := by
 have hw : ∀ {α : Type} (r : Except Er α) (g : α → LineL),(∀ e,r = .error e → e.2 ≠ 0) → (∀ v,r = .ok v → Qmb (g v)) → Qmb (outL fs r g) ∨ ∃ k c,outL fs r g = QaE k c ∧ k ≠ 0 ∧ ∃ i,c = Qcd fs i := by
  intro α r g h1 h2;cases r with
  | ok v => exact .inl (h2 v rfl)
  | error e => exact .inr ⟨_,_,rfl,h1 e rfl,_,rfl⟩
 have hbind : ∀ {α β : Type} {x : Except Er α} {f : α → Except Er β} {e : Er},x.bind f = .error e → (∀ e,x = .error e → e.2 ≠ 0) → (∀ a e,f a = .error e → e.2 ≠ 0) → e.2 ≠ 0 := by
  intro α β x f e h h1 h2;cases x with
  | error e' => exact h1 e (by injection h with h; rw [h])
  | ok a => exact h2 a e h
 have hreq : ∀ {α : Type} (o : Option α) (i : Nat) (k : Int),k ≠ 0 → ∀ e,req o i k = .error e → e.2 ≠ 0 := by
  intro α o i k hk e h;cases o with
  | some v => cases h
  | none => injection h with h; subst h; exact hk
 have hchk : ∀ (b : Bool) (i : Nat) (k : Int),k ≠ 0 → ∀ e,chk b i k = .error e → e.2 ≠ 0 := by
  intro b i k hk e h;cases b with
  | true => cases h
  | false => injection h with h; subst h; exact hk
 have hok : ∀ {α : Type} (v : α) (e : Er),(Except.ok v : Except Er α) = .error e → e.2 ≠ 0 := fun v e h => by cases h
 have htil : ∀ (f : List Bs) (a : Nat) (e : Er),QcC f a = .error e → e.2 ≠ 0 := by
  intro f a e h;unfold QcC at h;refine hbind h (hreq _ _ _ (by decide)) (fun y e h => hbind h ?_ (fun m e h => hbind h ?_ (fun d e h => hbind h ?_ (fun t e h => hok _ _ h))))
  ·intro e h;unfold QdH at h;split at h
   ·exact hreq _ _ _ (by decide) _ h
   ·exact hok _ _ h
  ·intro e h;unfold Qgp at h;split at h
   ·exact hbind h (hreq _ _ _ (by decide)) (fun d e h => hbind h (hchk _ _ _ (by decide)) (fun _ e h => hok _ _ h))
   ·exact hok _ _ h
  ·intro e h;unfold QeJ at h;split at h
   ·exact hreq _ _ _ (by decide) _ h
   ·exact hok _ _ h
 have hera : ∀ (f : List Bs) (a : Nat) (e : Er),eraP f a = .error e → e.2 ≠ 0 := by
  intro f a e h;unfold eraP at h;refine hbind h (hreq _ _ _ (by decide)) (fun o e h => hbind h (hreq _ _ _ (by decide)) (fun r e h => hbind h (hchk _ _ _ (by decide)) (fun _ e h => hbind h ?_ (fun u e h => hok _ _ h))));intro e h;split at h
  ·exact htil _ _ _ h
  ·exact hok _ _ h
 unfold Qdh;split
 ·exact .inl (.inl rfl)
 ·split
  ·split
   ·exact .inr ⟨_,_,rfl,by decide,_,rfl⟩
   ·exact hw _ _ (hera _ _) (fun e he => .inr (.inr (.inr (.inl ⟨rfl,Qj7 he⟩))))
  ·split
   ·split
    ·exact .inr ⟨_,_,rfl,by decide,_,rfl⟩
    ·refine hw _ _ ?_ (fun r hr => .inr (.inl ⟨rfl,Qm1 hr⟩));intro e h;unfold Qfi at h;exact hbind h (hchk _ _ _ (by decide)) (fun _ e h => hbind h (hreq _ _ _ (by decide)) (fun _ e h => hbind h (hreq _ _ _ (by decide)) (fun _ e h => hbind h (hchk _ _ _ (by decide)) (fun _ e h => hbind h (hreq _ _ _ (by decide)) (fun _ e h =>
      hbind h (hreq _ _ _ (by decide)) (fun _ e h => hbind h (hchk _ _ _ (by decide)) (fun _ e h => hbind h (hreq _ _ _ (by decide)) (fun _ e h => hbind h (hreq _ _ _ (by decide)) (fun _ e h => hbind h (hreq _ _ _ (by decide)) (fun _ e h => hok _ _ h))))))))))
   ·split
    ·split
     ·exact .inr ⟨_,_,rfl,by decide,_,rfl⟩
     ·refine hw _ _ (fun e h => hbind h (hchk _ _ _ (by decide)) (fun _ e h => hera _ _ _ h)) ?_;intro e h;obtain ⟨_,a1,h⟩ := QbT h;exact .inr (.inr (.inl ⟨rfl,Qhr a1,Qj7 h⟩))
    ·split
     ·split
      ·exact .inr ⟨_,_,rfl,by decide,_,rfl⟩
      ·refine hw _ _ (fun e h => hbind h (hchk _ _ _ (by decide)) (fun _ e h => hchk _ _ _ (by decide) _ h)) ?_;intro u h;exact .inr (.inr (.inr (.inr ⟨rfl,Qno h⟩)))
     ·exact .inr ⟨_,_,rfl,by decide,_,rfl⟩
/-- what a line says hangs on its fields alone,but for the columns -/
theorem Qk7 {fs gs : List Qat} (h : fs.map (·.1) = gs.map (·.1)) : { Qdh fs with col := 0 } = { Qdh gs with col := 0 } := by
 have hlen : fs.length = gs.length := by have := congrArg List.length h; simpa using this
 have hnil : fs = [] ↔ gs = [] := by rw [← List.length_eq_zero_iff,← List.length_eq_zero_iff,hlen]
 have hw : ∀ k c d : Int,({ QaE k c with col := 0 } : LineL) = { QaE k d with col := 0 } := fun _ _ _ => rfl;have ho : ∀ {α : Type} (r : Except Er α) (g : α → LineL),({ outL fs r g with col := 0 } : LineL) = { outL gs r g with col := 0 } := by
  intro α r g;cases r <;> rfl
 unfold Qdh;rw [h,hlen];by_cases hf : fs = []
 ·rw [if_pos hf,if_pos (hnil.1 hf)]
 ·rw [if_neg hf,if_neg (fun e => hf (hnil.2 e))];split
  ·split
   ·exact hw _ _ _
   ·exact ho _ _
  ·split
   ·split
    ·exact hw _ _ _
    ·exact ho _ _
   ·split
    ·split
     ·exact hw _ _ _
     ·exact ho _ _
    ·split
     ·split
      ·exact hw _ _ _
      ·exact ho _ _
     ·exact hw _ _ _
/-- a text of at most n bytes,none of them a quote -/
def Pl (n : Nat) (s : Bs) : Prop := (34 : UInt8) ∉ s ∧ s.length ≤ n
theorem Pl.mono {n m : Nat} {a : Bs} (h : Pl n a) (hn : n ≤ m) : Pl m a := ⟨h.1,Nat.le_trans h.2 hn⟩
/- fields,with a bound of what a line of them is long -/
inductive Pls : Nat → List Bs → Prop
 | nil : Pls 0 []
 | cons (n m : Nat) (s : Bs) (l : List Bs) : Pl n s → Pls m l → Pls (n + 3 + m) (s :: l)
theorem Pls.no {n : Nat} {l : List Bs} (h : Pls n l) : (l.any fun s => s.contains 34) = false := by
 induction h with
 | nil => rfl
 | cons n m s l h1 _ ih =>
  rw [List.any_cons,ih,Bool.or_false];have := h1.1;simpa using this
theorem one_le (x : Bs) : (Go.Lxr.Qdw x).length ≤ x.length + 2 := by
 unfold Go.Lxr.Qdw;split <;> simp
theorem Pls.len {n : Nat} {l : List Bs} (h : Pls n l) : (Go.Lxr.QeG l).length ≤ n := by
 induction h with
 | nil => simp [Go.Lxr.QeG]
 | cons n m s l h1 _ ih =>
  have h2 := one_le s;have h3 := h1.2;cases l with
  | nil =>
   show (Go.Lxr.Qdw s).length ≤ _;omega
  | cons t l =>
   show (Go.Lxr.Qdw s ++ 32 :: Go.Lxr.QeG (t :: l)).length ≤ _;rw [List.length_append,List.length_cons];omega
theorem Pls.show {n : Nat} {l : List Bs} (h : Pls n l) (hn : n ≤ 200) : Go.Lxr.showD l = (Go.Lxr.QeG l,0) := by
 unfold Go.Lxr.showD;have := h.len;rw [h.no,if_neg (by decide),if_neg (by omega)]
end Go.Lin
namespace Go.Dcm
open Go.Lin

/- what lines make -/
structure ZoneL where
 name : Bs
 eras : List EraL
 lines : List Int
structure LinkL where
 target : Bs
 name : Bs
 line : Int
structure DiagL where
 line : Int
 col : Int
 k : Int
structure DocL where
 rules : List (RuleL × Int)
 zones : List ZoneL
 links : List LinkL
 diags : List DiagL
/-- while lines are gathered: zones that are done with,and the last one -/
structure StL where
 rules : List (RuleL × Int)
 done : List ZoneL
 cur : Option ZoneL
 links : List LinkL
 diags : List DiagL
 opn : Bool
def StL.zones (s : StL) : List ZoneL := s.done ++ s.cur.toList
def stZ : StL := ⟨[],[],none,[],[],false⟩
def tell (s : StL) (i c k : Int) : StL := { s with diags := s.diags ++ [⟨i,c,k⟩] }
def brk (s : StL) (i : Int) : StL := if s.opn = true then { tell s i 0 21 with opn := false } else s
def QcQ (s : StL) (i : Int) (x : LineL) : StL := { brk s i with rules := s.rules ++ [(x.rule,i)] }
def QbR (s : StL) (i : Int) (x : LineL) : StL := { brk s i with done := s.zones,cur := some ⟨x.name,[x.era],[i]⟩,opn := x.era.til.has }
def Qpc (s : StL) (i : Int) (x : LineL) : StL := { brk s i with links := s.links ++ [⟨x.target,x.name,i⟩] }
def Qcz (s : StL) (i : Int) (x : LineL) : StL := match s.opn,s.cur with
 | true,some z => if 8 ≤ z.eras.length then { tell s i 0 17 with opn := x.era.til.has } else { s with cur := some ⟨z.name,z.eras ++ [x.era],z.lines ++ [i]⟩,opn := x.era.til.has }
 | _,_ => tell s i 0 10
def Qdv (s : StL) (p : Int × LineL) : StL :=
 if p.2.kind = 1 then QcQ s p.1 p.2
 else if p.2.kind = 2 then QbR s p.1 p.2
 else if p.2.kind = 3 then Qcz s p.1 p.2
 else if p.2.kind = 4 then Qpc s p.1 p.2
 else if p.2.kind = 5 then tell s p.1 p.2.col p.2.err
 else s
def Qip (z : ZoneL) : Int := z.lines.getLastD 0
def endS (s : StL) : StL := match s.opn,s.cur with
 | true,some z => tell s (Qip z) 0 21
 | _,_ => s
def StL.doc (s : StL) : DocL := ⟨s.rules,s.zones,s.links,s.diags⟩
def endD (s : StL) : DocL := (endS s).doc
def runD (s : StL) (l : List (Int × LineL)) : StL := l.foldl Qdv s
/-- lines with their numbers -/
def num : Int → List LineL → List (Int × LineL)
 | _,[] => []
 | i,x :: l => (i,x) :: num (i + 1) l
def ofS (l : List LineL) : StL := runD stZ (num 0 l)
def ofD (l : List LineL) : DocL := endD (ofS l)

theorem Qo2 : ∀ (l : List LineL) (i : Int),(num i l).length = l.length
 | [],_ => rfl
 | _ :: l,i => by simp [num,Qo2 l]
theorem Qim : ∀ (a b : List LineL) (i : Int),num i (a ++ b) = num i a ++ num (i + a.length) b
 | [],b,i => by simp [num]
 | x :: a,b,i => by simp [num,Qim a b,Int.add_assoc,Int.add_comm 1]
theorem run_snoc (s : StL) (a : List (Int × LineL)) (p : Int × LineL) : runD s (a ++ [p]) = Qdv (runD s a) p := List.foldl_append
/-- one line more -/
theorem take_num (l : List LineL) (i : Nat) (h : i < l.length) : num 0 (l.take (i + 1)) = num 0 (l.take i) ++ [((i : Int),l[i])] := by
 rw [List.take_succ_eq_append_getElem h,Qim];simp [num,Nat.min_eq_left (Nat.le_of_lt h)]
theorem Qjx (l : List LineL) (i : Nat) (h : i < l.length) : ofS (l.take (i + 1)) = Qdv (ofS (l.take i)) ((i : Int),l[i]) := by
 unfold ofS;rw [take_num l i h,run_snoc]

/- what is always so -/
def ZOk (z : ZoneL) : Prop := z.eras.length = z.lines.length ∧ 1 ≤ z.eras.length ∧ z.eras.length ≤ 8
def Zn (s : StL) : Prop := (s.opn = true → ∃ z,s.cur = some z) ∧ ∀ z ∈ s.zones,ZOk z
theorem Qc6 {s : StL} {z : ZoneL} : z ∈ s.zones ↔ z ∈ s.done ∨ s.cur = some z := by
 unfold StL.zones;cases s.cur <;> simp [eq_comm]
theorem QlJ {s : StL} (i : Int) (h : Zn s) : Zn (brk s i) := by
 unfold brk;split
 ·exact ⟨fun e => by simp at e,h.2⟩
 ·exact h
theorem Qf5 (s : StL) (i : Int) : (brk s i).zones = s.zones := by unfold brk; split <;> rfl
theorem zn_step {s : StL} (p : Int × LineL) (h : Zn s) : Zn (Qdv s p) := by
 unfold Qdv;split
 ·exact ⟨(QlJ p.1 h).1,(QlJ p.1 h).2⟩
 split
 ·refine ⟨fun _ => ⟨_,rfl⟩,fun z hz => ?_⟩;rcases Qc6.1 hz with hz | hz
  ·exact h.2 z hz
  ·have hz : _ = z := Option.some.inj hz;subst hz;exact ⟨rfl,by simp,by simp⟩
 split
 ·unfold Qcz;split
  ·rename_i z ho hc;have hk := h.2 z (Qc6.2 (.inr hc));split
   ·exact ⟨fun _ => ⟨z,hc⟩,h.2⟩
   ·refine ⟨fun _ => ⟨_,rfl⟩,fun y hy => ?_⟩;rcases Qc6.1 hy with hy | hy
    ·exact h.2 y (Qc6.2 (.inl hy))
    ·have hy : _ = y := Option.some.inj hy;subst hy;obtain ⟨h1,h2,h3⟩ := hk;refine ⟨?_,?_,?_⟩ <;> simp <;> omega
  ·exact h
 split
 ·exact ⟨(QlJ p.1 h).1,(QlJ p.1 h).2⟩
 split
 ·exact h
 ·exact h
theorem zn_run : ∀ (l : List (Int × LineL)) (s : StL),Zn s → Zn (runD s l)
 | [],_,h => h
 | p :: l,_,h => zn_run l _ (zn_step p h)
theorem zn_of (l : List LineL) : Zn (ofS l) := zn_run _ _ ⟨fun h => by simp [stZ] at h,fun z hz => by simp [stZ,StL.zones] at hz⟩
theorem zn_doc {l : List LineL} : ∀ z ∈ (ofD l).zones,ZOk z := by
 intro z hz;have h := zn_of l;unfold ofD endD endS at hz;split at hz
 ·exact h.2 z hz
 ·exact h.2 z hz
/- how many there are -/
def size (s : StL) : Nat := s.rules.length + s.zones.length + s.links.length + s.diags.length
theorem Qoi (s : StL) (p : Int × LineL) : size (Qdv s p) ≤ size s + 2 := by
 have hb : ∀ i,(brk s i).rules = s.rules ∧ (brk s i).links = s.links ∧ (brk s i).diags.length ≤ s.diags.length + 1 := by
  intro i;unfold brk tell;split <;> simp
 unfold Qdv;split
 ·obtain ⟨-,h2,h3⟩ := hb p.1;simp only [size,QcQ,StL.zones,List.length_append] at *;have := congrArg List.length (Qf5 s p.1);simp only [StL.zones,List.length_append] at this;rw [h2];simp only [List.length_cons,List.length_nil];omega
 split
 ·obtain ⟨h1,h2,h3⟩ := hb p.1;simp only [size,QbR,StL.zones,List.length_append,h1,h2,Option.toList,List.length_cons,List.length_nil];omega
 split
 ·unfold Qcz;split
  ·rename_i z ho hc;split
   ·simp only [size,tell,StL.zones,List.length_append,List.length_cons,List.length_nil];omega
   ·simp only [size,StL.zones,List.length_append,hc,Option.toList,List.length_cons,List.length_nil];omega
  ·simp only [size,tell,StL.zones,List.length_append,List.length_cons,List.length_nil];omega
 split
 ·obtain ⟨h1,-,h3⟩ := hb p.1;have := congrArg List.length (Qf5 s p.1);simp only [size,Qpc,StL.zones,List.length_append] at *;rw [h1];simp only [List.length_cons,List.length_nil];omega
 split
 ·simp only [size,tell,StL.zones,List.length_append,List.length_cons,List.length_nil];omega
 ·omega
theorem QlW : ∀ (l : List (Int × LineL)) (s : StL),size (runD s l) ≤ size s + 2 * l.length
 | [],_ => by simp [runD]
 | p :: l,s => by
  have h1 := QlW l (Qdv s p);have h2 := Qoi s p;simp only [runD,List.foldl_cons,List.length_cons] at h1 ⊢;omega
theorem QiM (l : List LineL) : size (ofS l) ≤ 2 * l.length := by
 have := QlW (num 0 l) stZ;rw [Qo2] at this;simpa [ofS,size,stZ,StL.zones] using this
theorem len_end (s : StL) : (endS s).diags.length ≤ s.diags.length + 1 := by
 unfold endS;split <;> simp [tell]
theorem sizes_of (l : List LineL) : (ofD l).rules.length ≤ 2 * l.length ∧ (ofD l).zones.length ≤ 2 * l.length ∧ (ofD l).links.length ≤ 2 * l.length ∧ (ofD l).diags.length ≤ 2 * l.length + 1 := by
 have h := QiM l;have h2 := len_end (ofS l);have hr : (endS (ofS l)).rules = (ofS l).rules := by unfold endS; split <;> rfl
 have hz : (endS (ofS l)).zones = (ofS l).zones := by unfold endS; split <;> rfl
 have hl : (endS (ofS l)).links = (ofS l).links := by unfold endS; split <;> rfl
 unfold ofD endD StL.doc;simp only [hr,hz,hl];unfold size at h;omega
end Go.Dcm
