import Derived.Test.YtodcnbejnchmhaaGreatDoorYc01
import Derived.Test.YtodcnbejnchmhaaGreatDoorYc03
import Derived.Test.YtodcnbejnchmhaaGreatDoorYc04
import Derived.Test.YtodcnbejnchmhaaGreatDoorYc06
import Derived.Lib.IndexMore
namespace Go.Lin
open Go.Lib
abbrev Bs := List UInt8

/- what a line says -/
structure DayL where
 k : Int
 d : Int
 w : Int
deriving DecidableEq
structure AtL where
 s : Int
 k : Int
deriving DecidableEq
structure RuleL where
 name : Bs
 fr : Int
 to : Int
 month : Int
 on : DayL
 at_ : AtL
 save : Int
 letter : Bs
deriving DecidableEq
structure UntilL where
 has : Bool
 year : Int
 month : Int
 on : DayL
 at_ : AtL
deriving DecidableEq
structure EraL where
 off : Int
 kind : Int
 save : Int
 rules : Bs
 format : Bs
 til : UntilL
deriving DecidableEq
structure LineL where
 kind : Int
 rule : RuleL
 name : Bs
 target : Bs
 era : EraL
 err : Int
 col : Int
deriving DecidableEq
def dayZ : DayL := ⟨0,0,0⟩
def day1 : DayL := ⟨0,1,0⟩
def atZ : AtL := ⟨0,0⟩
def QdJ : RuleL := ⟨[],0,0,0,dayZ,atZ,0,[]⟩
def tilZ : UntilL := ⟨false,0,0,dayZ,atZ⟩
def eraZ : EraL := ⟨0,0,0,[],[],tilZ⟩
def Qae : LineL := ⟨0,QdJ,[],[],eraZ,0,0⟩

/- what a field tells -/
def letB (c : UInt8) : Bool := Go.Kwd.Qba c || Go.Kwd.Qbc c || c == 43
def canB (d : DayL) (y m : Int) : Bool := Go.Civil.QaL y m (if d.k = 1 then Go.Civil.QaX y m else d.d)
def Qga (l : Bs) : Option AtL := (Go.Clk.QbG l).map fun x => ⟨x.1,(x.2 : Int)⟩
def dayP (l : Bs) : Option DayL := if (Go.Dfm.QbG l).2.2.2 = 0 then some ⟨(Go.Dfm.QbG l).1,(Go.Dfm.QbG l).2.1,(Go.Dfm.QbG l).2.2.1⟩ else none
def Qb2 (l : Bs) : Option Int := if Go.Kwd.Qcw l = 0 then none else some (Go.Kwd.Qcw l : Int)
def Qe4 (l : Bs) : Option Int := if (Go.Kwd.QcJ (Go.Esc.Qa3 l)).2 = 0 then some (Go.Kwd.QcJ (Go.Esc.Qa3 l)).1 else none
def toD (l : Bs) (fr : Int) : Int × Int := Go.Kwd.Qld (Go.Kwd.endD l) (Go.Kwd.QcJ (Go.Esc.Qa3 l)) fr
def toP (l : Bs) (fr : Int) : Option Int := if (toD l fr).2 = 0 then some (toD l fr).1 else none
def QcE (l : Bs) : Option Bs := if l = [45] then some [] else if 1 ≤ l.length ∧ l.length ≤ 6 ∧ l.all letB = true then some l else none
/-- kind,save,name -/
def QbU (l : Bs) : Option (Int × Int × Bs) := if Go.Kwd.Qc4 l = true then some (2,0,l) else if l = [45] then some (0,0,[]) else (Go.Clk.amtD l).map fun n => (1,n,[])
/-- n: marks that are left -/
def fmtM : Nat → Bs → Bool
 | _,[] => true
 | n,c :: r => if c = 37 then (match r.head? with
   | some d => d == 115 || d == 122
   | none => false) && decide (1 ≤ n) && fmtM (n - 1) r
  else if c = 47 then decide (1 ≤ n) && fmtM (n - 1) r else (letB c || c == 45) && fmtM n r
def Qck (l : Bs) : Bool := decide (1 ≤ l.length) && decide (l.length ≤ 20) && fmtM 1 l

/- what fields tell: a value,or the place of the wrong one and why -/
abbrev Er := Nat × Int
def req {α : Type} (o : Option α) (i : Nat) (k : Int) : Except Er α := match o with
 | some v => .ok v
 | none => .error (i,k)
def chk (b : Bool) (i : Nat) (k : Int) : Except Er Unit := if b = true then .ok () else .error (i,k)
def gt (f : List Bs) (i : Nat) : Bs := f.getD i []
def QeK (f : List Bs) : Except Er RuleL :=
 (chk (Go.Kwd.Qc4 (gt f 1)) 1 5).bind fun _ =>
 (req (Qe4 (gt f 2)) 2 8).bind fun y =>
 (req (toP (gt f 3) y) 3 8).bind fun z =>
 (chk (decide (gt f 4 = [45])) 4 3).bind fun _ =>
 (req (Qb2 (gt f 5)) 5 6).bind fun m =>
 (req (dayP (gt f 6)) 6 6).bind fun d =>
 (chk (canB d 2000 m) 6 6).bind fun _ =>
 (req (Qga (gt f 7)) 7 7).bind fun t =>
 (req (Go.Clk.amtD (gt f 8)) 8 7).bind fun s =>
 (req (QcE (gt f 9)) 9 15).bind fun l => .ok ⟨gt f 1,y,z,m,d,t,s,l⟩
def QdG (f : List Bs) (a : Nat) : Except Er Int := if a + 1 < f.length then req (Qb2 (gt f (a + 1))) (a + 1) 6 else .ok 1
def QgD (f : List Bs) (a : Nat) (y m : Int) : Except Er DayL := if a + 2 < f.length then (req (dayP (gt f (a + 2))) (a + 2) 6).bind fun d => (chk (canB d y m) (a + 2) 6).bind fun _ => .ok d else .ok day1
def QeT (f : List Bs) (a : Nat) : Except Er AtL := if a + 3 < f.length then req (Qga (gt f (a + 3))) (a + 3) 7 else .ok atZ
def Qcs (f : List Bs) (a : Nat) : Except Er UntilL :=
 (req (Qe4 (gt f a)) a 8).bind fun y =>
 (QdG f a).bind fun m =>
 (QgD f a y m).bind fun d =>
 (QeT f a).bind fun t => .ok ⟨true,y,m,d,t⟩
def eraP (f : List Bs) (a : Nat) : Except Er EraL :=
 (req (Go.Clk.amtD (gt f a)) a 7).bind fun o =>
 (req (QbU (gt f (a + 1))) (a + 1) 5).bind fun r =>
 (chk (Qck (gt f (a + 2))) (a + 2) 15).bind fun _ =>
 (if a + 3 < f.length then Qcs f (a + 3) else .ok tilZ).bind fun u => .ok ⟨o,r.1,r.2.1,r.2.2,gt f (a + 2),u⟩
def QpE (f : List Bs) : Except Er Unit := (chk (Go.Kwd.Qcd (gt f 1)) 1 5).bind fun _ => chk (Go.Kwd.Qcd (gt f 2)) 2 5
abbrev Qat := Bs × Nat
def QaC (k c : Int) : LineL := { Qae with kind := 5,err := k,col := c }
def QbW (fs : List Qat) (i : Nat) : Int := ((fs.getD i ([],0)).2 : Int)
def outL {α : Type} (fs : List Qat) (r : Except Er α) (g : α → LineL) : LineL := match r with
 | .ok v => g v
 | .error e => QaC e.2 (QbW fs e.1)
def QeM (l : Bs) : Bool := match l with
 | [] => false
 | c :: _ => c == 45 || Go.Kwd.Qbc c
def Qdi (fs : List Qat) : LineL :=
 if fs = [] then Qae
 else if QeM (gt (fs.map (·.1)) 0) = true then (if fs.length < 3 ∨ 7 < fs.length then QaC 4 (QbW fs 0) else outL fs (eraP (fs.map (·.1)) 0) fun e => { Qae with kind := 3,era := e })
 else if Go.Kwd.headD (gt (fs.map (·.1)) 0) = 1 then (if fs.length ≠ 10 then QaC 4 (QbW fs 0) else outL fs (QeK (fs.map (·.1))) fun r => { Qae with kind := 1,rule := r })
 else if Go.Kwd.headD (gt (fs.map (·.1)) 0) = 2 then (if fs.length < 5 ∨ 9 < fs.length then QaC 4 (QbW fs 0) else
  outL fs ((chk (Go.Kwd.Qcd (gt (fs.map (·.1)) 1)) 1 5).bind fun _ => eraP (fs.map (·.1)) 2) fun e => { Qae with kind := 2,name := gt (fs.map (·.1)) 1,era := e })
 else if Go.Kwd.headD (gt (fs.map (·.1)) 0) = 3 then (if fs.length ≠ 3 then QaC 4 (QbW fs 0) else outL fs (QpE (fs.map (·.1))) fun _ => { Qae with kind := 4,target := gt (fs.map (·.1)) 1,name := gt (fs.map (·.1)) 2 })
 else QaC 3 (QbW fs 0)

/- which lines are right,and their fields -/
def Qja (t : AtL) : Prop := -604799 ≤ t.s ∧ t.s ≤ 604799 ∧ 0 ≤ t.k ∧ t.k ≤ 2
def Qqp (n : Int) : Prop := -86400 ≤ n ∧ n ≤ 86400
def Qlu (d : DayL) : Prop := Go.Dfm.Qce d.k d.d d.w
def Qmm (l : Bs) : Prop := l = [] ∨ (1 ≤ l.length ∧ l.length ≤ 6 ∧ l.all letB = true)
def ruleOk (r : RuleL) : Prop := Go.Kwd.Qc4 r.name = true ∧ (1 ≤ r.fr ∧ r.fr ≤ 9999) ∧ (Go.Kwd.Qiq r.fr r.to).2 = 0 ∧ (1 ≤ r.month ∧ r.month ≤ 12) ∧ Qlu r.on ∧ canB r.on 2000 r.month = true ∧ Qja r.at_ ∧ Qqp r.save ∧ Qmm r.letter
def tilOk (u : UntilL) : Prop := u.has = true ∧ (1 ≤ u.year ∧ u.year ≤ 9999) ∧ (1 ≤ u.month ∧ u.month ≤ 12) ∧ Qlu u.on ∧ canB u.on u.year u.month = true ∧ Qja u.at_
def QoK (k s : Int) (n : Bs) : Prop := (k = 0 ∧ s = 0 ∧ n = []) ∨ (k = 1 ∧ Qqp s ∧ n = []) ∨ (k = 2 ∧ s = 0 ∧ Go.Kwd.Qc4 n = true)
def eraOk (e : EraL) : Prop := Qqp e.off ∧ QoK e.kind e.save e.rules ∧ Qck e.format = true ∧ (e.til = tilZ ∨ tilOk e.til)
def Qml (l : LineL) : Prop := l = Qae ∨ (l = { Qae with kind := 1,rule := l.rule } ∧ ruleOk l.rule) ∨ (l = { Qae with kind := 2,name := l.name,era := l.era } ∧ Go.Kwd.Qcd l.name = true ∧ eraOk l.era) ∨
 (l = { Qae with kind := 3,era := l.era } ∧ eraOk l.era) ∨ (l = { Qae with kind := 4,target := l.target,name := l.name } ∧ Go.Kwd.Qcd l.target = true ∧ Go.Kwd.Qcd l.name = true)
def ruleW : Bs := [82,117,108,101]
def zoneW : Bs := [90,111,110,101]
def linkW : Bs := [76,105,110,107]
/- a format,as the code asks it: without what it may have one of,all bytes are signs -/
def QcS (c : UInt8) : Bool := letB c || c == 45
theorem QgO : QcS 37 = false := by decide
theorem Qkt : QcS 47 = false := by decide
theorem fmt0 : ∀ l : Bs,fmtM 0 l = l.all QcS
 | [] => rfl
 | c :: r => by
  rw [fmtM,List.all_cons,← fmt0 r];by_cases h1 : c = 37
  ·subst h1;simp [QgO]
  ·by_cases h2 : c = 47
   ·subst h2;simp [Qkt]
   ·rw [if_neg h1,if_neg h2];rfl
theorem all_not {l : Bs} {c : UInt8} (h : c ∈ l) (hc : QcS c = false) : l.all QcS = false := by
 rw [List.all_eq_false];exact ⟨c,h,by simp [hc]⟩
def QcR : List Bs := [[47],[37,115],[37,122]]
theorem Ql3 {m : Bs} (h : m ∈ QcR) : m = [47] ∨ m = [37,115] ∨ m = [37,122] := by simpa [QcR] using h
theorem fmt_cut (a b m : Bs) (hm : m ∈ QcR) : fmtM 1 (a ++ (m ++ b)) = (a ++ b).all QcS := by
 have hx : ∃ c,c ∈ m ∧ QcS c = false := by
  rcases Ql3 hm with rfl | rfl | rfl
  ·exact ⟨47,by simp,Qkt⟩
  ·exact ⟨37,by simp,QgO⟩
  ·exact ⟨37,by simp,QgO⟩
 obtain ⟨d,hd,hs⟩ := hx
 induction a with
 | nil =>
  have h115 : QcS 115 = true := by decide
  have h122 : QcS 122 = true := by decide
  have g115 : letB 115 = true := by decide
  have g122 : letB 122 = true := by decide
  rcases Ql3 hm with rfl | rfl | rfl
  ·simp [fmtM,fmt0]
  ·simp [fmtM,fmt0,g115]
  ·simp [fmtM,fmt0,g122]
 | cons c r ih =>
  show fmtM 1 (c :: (r ++ (m ++ b))) = (c :: (r ++ b)).all QcS;have hn : (r ++ (m ++ b)).all QcS = false := all_not (by simp [hd]) hs;rw [fmtM,List.all_cons,← ih];by_cases h1 : c = 37
  ·rw [if_pos h1,fmt0,hn,h1,QgO];simp
  ·by_cases h2 : c = 47
   ·rw [if_neg h1,if_pos h2,fmt0,hn,h2,Qkt];simp
   ·rw [if_neg h1,if_neg h2];rfl
theorem Qmv : ∀ l : Bs,(∀ m,m ∈ QcR → ∀ a b,l ≠ a ++ (m ++ b)) → fmtM 1 l = l.all QcS
 | [],_ => rfl
 | c :: r,h => by
  have ih := Qmv r (fun m hm a b e => h m hm (c :: a) b (by rw [e]; rfl));rw [fmtM,List.all_cons,← ih];by_cases h1 : c = 37
  ·rw [if_pos h1,h1,QgO];cases r with
   | nil => rfl
   | cons d t =>
    have n1 : d ≠ 115 := fun e => h [37,115] (by simp [QcR]) [] t (by rw [h1,e]; rfl);have n2 : d ≠ 122 := fun e => h [37,122] (by simp [QcR]) [] t (by rw [h1,e]; rfl);simp [n1,n2]
  ·by_cases h2 : c = 47
   ·exact absurd (by rw [h2]; rfl) (h [47] (by simp [QcR]) [] r)
   ·rw [if_neg h1,if_neg h2];rfl
theorem Qlv {l m : Bs} (h : (cut l m).2.2 = true) : l = (cut l m).1 ++ (m ++ (cut l m).2.1) := by
 unfold cut at *;rcases index_spec l m with ⟨h1,h2⟩ | ⟨i,h1,h2,h3,h4⟩
 ·rw [if_neg (by omega)] at h;cases h
 ·rw [if_pos (by omega),h1];show l = l.take i ++ (m ++ l.drop (i + m.length));unfold occAt at h3;obtain ⟨t,ht⟩ := List.isPrefixOf_iff_prefix.1 h3;rw [← List.drop_drop,← ht,List.drop_left,ht,List.take_append_drop]
theorem cut_no {l m : Bs} (h : (cut l m).2.2 = false) (a b : Bs) : l ≠ a ++ (m ++ b) := by
 intro e;unfold cut at h;rcases index_spec l m with ⟨h1,h2⟩ | ⟨i,h1,h2,h3,h4⟩
 ·have h3 := h2 a.length (by rw [e]; simp);unfold occAt at h3;rw [e,List.drop_left] at h3;have : m.isPrefixOf (m ++ b) = true := List.isPrefixOf_iff_prefix.2 (List.prefix_append _ _);rw [this] at h3;cases h3
 ·rw [if_pos (by omega)] at h;cases h
def QbL : List Bs → Bs → Bs
 | [],l => l
 | m :: ms,l => if (cut l m).2.2 = true then (cut l m).1 ++ (cut l m).2.1 else QbL ms l
theorem Qke (l : Bs) : (QbL QcR l).all QcS = fmtM 1 l := by
 have key : ∀ ms : List Bs,(∀ m ∈ ms,m ∈ QcR) → (∀ m ∈ QcR,m ∉ ms → ∀ a b,l ≠ a ++ (m ++ b)) → (QbL ms l).all QcS = fmtM 1 l := by
  intro ms
  induction ms with
  | nil =>
   intro _ h;exact (Qmv l (fun m hm => h m hm (by simp))).symm
  | cons m ms ih =>
   intro hs h;unfold QbL;cases hc : (cut l m).2.2 with
   | true =>
    rw [if_pos rfl];have := fmt_cut (cut l m).1 (cut l m).2.1 m (hs m (by simp));rw [← Qlv hc] at this;exact this.symm
   | false =>
    rw [if_neg (by decide)];refine ih (fun x hx => hs x (by simp [hx])) (fun x hx hn => ?_);by_cases e : x = m
    ·subst e;exact cut_no hc
    ·exact h x hx (by simp [e,hn])
 exact key QcR (fun _ h => h) (fun m h hn => absurd h hn)
theorem QpX (l : Bs) : Qck l = (decide (1 ≤ l.length) && decide (l.length ≤ 20) && (QbL QcR l).all QcS) := by
 rw [Qke];rfl
theorem Qgy (l : Bs) : ∀ ms : List Bs,(QbL ms l).length ≤ l.length
 | [] => Nat.le_refl _
 | m :: ms => by
  unfold QbL;cases hc : (cut l m).2.2 with
  | true =>
   rw [if_pos rfl];have := congrArg List.length (Qlv hc);simp only [List.length_append] at this ⊢;omega
  | false =>
   rw [if_neg (by decide)];exact Qgy l ms
theorem Qbw {l m : Bs} (h : (cut l m).2.2 = true) : (cut l m).1.length + (cut l m).2.1.length ≤ l.length := by
 have := congrArg List.length (Qlv h);simp only [List.length_append] at this;omega
/- each field's text is read as it -/
theorem Qan {α β : Type} (v : α) (f : α → Except Er β) : (Except.ok v : Except Er α).bind f = f v := rfl
theorem QaD {α : Type} (v : α) (i : Nat) (k : Int) : req (some v) i k = .ok v := rfl
theorem Qbr (i : Nat) (k : Int) : chk true i k = .ok () := rfl
theorem QnO : QeM ruleW = false ∧ QeM zoneW = false ∧ QeM linkW = false ∧ Go.Kwd.headD ruleW = 1 ∧ Go.Kwd.headD zoneW = 2 ∧ Go.Kwd.headD linkW = 3 := by decide +kernel
/- what is read is right -/
theorem Qh8 {l : Bs} {y : Int} (h : Qe4 l = some y) : 1 ≤ y ∧ y ≤ 9999 := by
 unfold Qe4 at h;generalize Go.Esc.Qa3 l = p at h;by_cases hp : p.2 = 0 ∧ 1 ≤ p.1 ∧ p.1 ≤ 9999
 ·rw [show Go.Kwd.QcJ p = (p.1,0) by rw [Go.Kwd.QcJ,if_pos hp],if_pos rfl] at h;injection h with h;subst h;exact hp.2
 ·rw [show Go.Kwd.QcJ p = (0,8) by rw [Go.Kwd.QcJ,if_neg hp],if_neg (by decide)] at h;cases h
theorem to_right {l : Bs} {fr z : Int} (hf : 1 ≤ fr ∧ fr ≤ 9999) (h : toP l fr = some z) : (Go.Kwd.Qiq fr z).2 = 0 := by
 unfold toP toD at h;split at h
 ·rename_i h1;injection h with h;generalize Go.Kwd.endD l = e at *;unfold Go.Kwd.Qld at h1 h;have hs : ∀ z : Int,(z = 10000 ∨ (fr ≤ z ∧ z ≤ 9999)) → (Go.Kwd.Qiq fr z).2 = 0 := by
   intro z hz;unfold Go.Kwd.Qiq;rw [if_neg (by omega)];rcases hz with rfl | hz
   ·rw [if_pos rfl]
   ·rw [if_neg (by omega),if_neg (by omega)];split <;> rfl
  split at h
  ·exact hs z (by simp at h; omega)
  ·split at h
   ·exact hs z (by simp at h; omega)
   ·rename_i g1 g2;rw [if_neg g1,if_neg g2] at h1;split at h
    ·rename_i g3;unfold Go.Kwd.QcJ at g3 h;split at h
     ·rename_i g4;rw [if_pos g4] at g3;simp at h g3;exact hs z (by omega)
     ·rename_i g4;rw [if_neg g4] at g3;exact absurd g3.1 (by decide)
    ·rename_i g3;rw [if_neg g3] at h1;exact absurd h1 (by decide)
 ·cases h
theorem Qhb {l : Bs} {m : Int} (h : Qb2 l = some m) : 1 ≤ m ∧ m ≤ 12 := by
 unfold Qb2 at h;split at h
 ·cases h
 ·rename_i h0;injection h with h;have h1 : Go.Kwd.Qcw l ≤ 0 + Go.Kwd.Qfr.length := Go.Kwd.QiM _ _ 0 0 0 (Nat.le_refl _);have h2 : Go.Kwd.Qfr.length = 12 := rfl;omega
theorem QdD {l : Bs} {d : DayL} (h : dayP l = some d) : Qlu d := by
 unfold dayP at h;rcases Go.Dfm.Qc8 l with ⟨k,n,w,hp,-,e⟩ | ⟨-,e⟩
 ·rw [e] at h;simp at h;rw [← h];exact hp
 ·rw [e] at h;simp at h
theorem QhO {l : Bs} {t : AtL} (h : Qga l = some t) : Qja t := by
 unfold Qga at h;obtain ⟨⟨n,k⟩,hx,rfl⟩ := Option.map_eq_some_iff.1 h;obtain ⟨h1,h2,h3⟩ := Go.Clk.QkW hx;exact ⟨h1,h2,by show (0 : Int) ≤ (k : Int); omega,by show (k : Int) ≤ 2; omega⟩
theorem Qhy {l : Bs} {n : Int} (h : Go.Clk.amtD l = some n) : Qqp n := by
 cases Go.Clk.of_amt h with
 | dash => exact ⟨by decide,by decide⟩
 | mk _ _ _ h1 h2 => exact ⟨h1,h2⟩
theorem QjI {l x : Bs} (h : QcE l = some x) : Qmm x := by
 unfold QcE at h;split at h
 ·injection h with h;exact .inl h.symm
 ·split at h
  ·rename_i h2;injection h with h;subst h;exact .inr h2
  ·cases h
theorem Qkx {l : Bs} {r : Int × Int × Bs} (h : QbU l = some r) : QoK r.1 r.2.1 r.2.2 := by
 unfold QbU at h;split at h
 ·rename_i h1;injection h with h;subst h;exact .inr (.inr ⟨rfl,rfl,h1⟩)
 ·split at h
  ·injection h with h;subst h;exact .inl ⟨rfl,rfl,rfl⟩
  ·obtain ⟨n,hn,rfl⟩ := Option.map_eq_some_iff.1 h;exact .inr (.inl ⟨rfl,Qhy hn,rfl⟩)
theorem QbA {α β : Type} {x : Except Er α} {f : α → Except Er β} {v : β} (h : x.bind f = .ok v) : ∃ a,x = .ok a ∧ f a = .ok v := by
 cases x with
 | error e => cases h
 | ok a => exact ⟨a,rfl,h⟩
theorem Qdy {α : Type} {o : Option α} {i : Nat} {k : Int} {v : α} (h : req o i k = .ok v) : o = some v := by
 cases o with
 | none => cases h
 | some x => injection h with h; rw [h]
theorem Qg5 {b : Bool} {i : Nat} {k : Int} {u : Unit} (h : chk b i k = .ok u) : b = true := by
 cases b with
 | false => cases h
 | true => rfl
theorem Qnf {f : List Bs} {r : RuleL} (h : QeK f = .ok r) : ruleOk r := by
 unfold QeK at h;obtain ⟨_,a1,h⟩ := QbA h;obtain ⟨y,a2,h⟩ := QbA h;obtain ⟨z,a3,h⟩ := QbA h;obtain ⟨_,a4,h⟩ := QbA h;obtain ⟨m,a5,h⟩ := QbA h;obtain ⟨d,a6,h⟩ := QbA h;obtain ⟨_,a7,h⟩ := QbA h;obtain ⟨t,a8,h⟩ := QbA h;obtain ⟨s,a9,h⟩ := QbA h;obtain ⟨l,a10,h⟩ := QbA h;injection h with h;subst h;have hy := Qh8 (Qdy a2);exact ⟨Qg5 a1,hy,to_right hy (Qdy a3),Qhb (Qdy a5),QdD (Qdy a6),Qg5 a7,QhO (Qdy a8),Qhy (Qdy a9),QjI (Qdy a10)⟩
theorem can_day1 {y m : Int} (hy : 1 ≤ y ∧ y ≤ 9999) (hm : 1 ≤ m ∧ m ≤ 12) : canB day1 y m = true := by
 have := Go.Civil.longI_ge (y := y) hm;show Go.Civil.QaL y m 1 = true;rw [Go.Civil.QaO];omega
theorem Qor {f : List Bs} {a : Nat} {u : UntilL} (h : Qcs f a = .ok u) : tilOk u := by
 unfold Qcs at h;obtain ⟨y,a1,h⟩ := QbA h;obtain ⟨m,a2,h⟩ := QbA h;obtain ⟨d,a3,h⟩ := QbA h;obtain ⟨t,a4,h⟩ := QbA h;injection h with h;subst h;have hy := Qh8 (Qdy a1);have hm : 1 ≤ m ∧ m ≤ 12 := by
  unfold QdG at a2;split at a2
  ·exact Qhb (Qdy a2)
  ·injection a2 with a2;omega
 have hd : Qlu d ∧ canB d y m = true := by
  unfold QgD at a3;split at a3
  ·obtain ⟨d',b1,a3⟩ := QbA a3;obtain ⟨_,b2,a3⟩ := QbA a3;injection a3 with a3;subst a3;exact ⟨QdD (Qdy b1),Qg5 b2⟩
  ·injection a3 with a3;subst a3;exact ⟨.inl ⟨rfl,by decide,by decide,rfl⟩,can_day1 hy hm⟩
 have ht : Qja t := by
  unfold QeT at a4;split at a4
  ·exact QhO (Qdy a4)
  ·injection a4 with a4;subst a4;exact ⟨by decide,by decide,by decide,by decide⟩
 exact ⟨rfl,hy,hm,hd.1,hd.2,ht⟩
theorem QjX {f : List Bs} {a : Nat} {e : EraL} (h : eraP f a = .ok e) : eraOk e := by
 unfold eraP at h;obtain ⟨o,a1,h⟩ := QbA h;obtain ⟨r,a2,h⟩ := QbA h;obtain ⟨_,a3,h⟩ := QbA h;obtain ⟨u,a4,h⟩ := QbA h;injection h with h;subst h;refine ⟨Qhy (Qdy a1),Qkx (Qdy a2),Qg5 a3,?_⟩;split at a4
 ·exact .inr (Qor a4)
 ·injection a4 with a4;exact .inl a4.symm
theorem QnD {f : List Bs} {u : Unit} (h : QpE f = .ok u) : Go.Kwd.Qcd (gt f 1) = true ∧ Go.Kwd.Qcd (gt f 2) = true := by
 unfold QpE at h;obtain ⟨_,a1,h⟩ := QbA h;exact ⟨Qg5 a1,Qg5 h⟩
/-- what a line says is right,or it is wrong -/
theorem QnF (fs : List Qat) : Qml (Qdi fs) ∨ ∃ k c,Qdi fs = QaC k c ∧ k ≠ 0 ∧ ∃ i,c = QbW fs i := by
 have hw : ∀ {α : Type} (r : Except Er α) (g : α → LineL),(∀ e,r = .error e → e.2 ≠ 0) → (∀ v,r = .ok v → Qml (g v)) → Qml (outL fs r g) ∨ ∃ k c,outL fs r g = QaC k c ∧ k ≠ 0 ∧ ∃ i,c = QbW fs i := by
  intro α r g h1 h2;cases r with
  | ok v => exact .inl (h2 v rfl)
  | error e => exact .inr ⟨_,_,rfl,h1 e rfl,_,rfl⟩
 have hbind : ∀ {α β : Type} {x : Except Er α} {f : α → Except Er β} {e : Er},x.bind f = .error e → (∀ e,x = .error e → e.2 ≠ 0) → (∀ a e,f a = .error e → e.2 ≠ 0) → e.2 ≠ 0 := by
  intro α β x f e h h1 h2;cases x with
  | error e' => exact h1 e (by injection h with h; rw [h])
  | ok a => exact h2 a e h
 have hreq : ∀ {α : Type} (o : Option α) (i : Nat) (k : Int),k ≠ 0 → ∀ e,req o i k = .error e → e.2 ≠ 0 := by
  intro α o i k hk e h;cases o with
  | some v => cases h
  | none => injection h with h; subst h; exact hk
 have hchk : ∀ (b : Bool) (i : Nat) (k : Int),k ≠ 0 → ∀ e,chk b i k = .error e → e.2 ≠ 0 := by
  intro b i k hk e h;cases b with
  | true => cases h
  | false => injection h with h; subst h; exact hk
 have hok : ∀ {α : Type} (v : α) (e : Er),(Except.ok v : Except Er α) = .error e → e.2 ≠ 0 := fun v e h => by cases h
 have htil : ∀ (f : List Bs) (a : Nat) (e : Er),Qcs f a = .error e → e.2 ≠ 0 := by
  intro f a e h;unfold Qcs at h;refine hbind h (hreq _ _ _ (by decide)) (fun y e h => hbind h ?_ (fun m e h => hbind h ?_ (fun d e h => hbind h ?_ (fun t e h => hok _ _ h))))
  ·intro e h;unfold QdG at h;split at h
   ·exact hreq _ _ _ (by decide) _ h
   ·exact hok _ _ h
  ·intro e h;unfold QgD at h;split at h
   ·exact hbind h (hreq _ _ _ (by decide)) (fun d e h => hbind h (hchk _ _ _ (by decide)) (fun _ e h => hok _ _ h))
   ·exact hok _ _ h
  ·intro e h;unfold QeT at h;split at h
   ·exact hreq _ _ _ (by decide) _ h
   ·exact hok _ _ h
 have hera : ∀ (f : List Bs) (a : Nat) (e : Er),eraP f a = .error e → e.2 ≠ 0 := by
  intro f a e h;unfold eraP at h;refine hbind h (hreq _ _ _ (by decide)) (fun o e h => hbind h (hreq _ _ _ (by decide)) (fun r e h => hbind h (hchk _ _ _ (by decide)) (fun _ e h => hbind h ?_ (fun u e h => hok _ _ h))));intro e h;split at h
  ·exact htil _ _ _ h
  ·exact hok _ _ h
 unfold Qdi;split
 ·exact .inl (.inl rfl)
 ·split
  ·split
   ·exact .inr ⟨_,_,rfl,by decide,_,rfl⟩
   ·exact hw _ _ (hera _ _) (fun e he => .inr (.inr (.inr (.inl ⟨rfl,QjX he⟩))))
  ·split
   ·split
    ·exact .inr ⟨_,_,rfl,by decide,_,rfl⟩
    ·refine hw _ _ ?_ (fun r hr => .inr (.inl ⟨rfl,Qnf hr⟩));intro e h;unfold QeK at h;exact hbind h (hchk _ _ _ (by decide)) (fun _ e h => hbind h (hreq _ _ _ (by decide)) (fun _ e h => hbind h (hreq _ _ _ (by decide)) (fun _ e h => hbind h (hchk _ _ _ (by decide)) (fun _ e h => hbind h (hreq _ _ _ (by decide)) (fun _ e h =>
      hbind h (hreq _ _ _ (by decide)) (fun _ e h => hbind h (hchk _ _ _ (by decide)) (fun _ e h => hbind h (hreq _ _ _ (by decide)) (fun _ e h => hbind h (hreq _ _ _ (by decide)) (fun _ e h => hbind h (hreq _ _ _ (by decide)) (fun _ e h => hok _ _ h))))))))))
   ·split
    ·split
     ·exact .inr ⟨_,_,rfl,by decide,_,rfl⟩
     ·refine hw _ _ (fun e h => hbind h (hchk _ _ _ (by decide)) (fun _ e h => hera _ _ _ h)) ?_;intro e h;obtain ⟨_,a1,h⟩ := QbA h;exact .inr (.inr (.inl ⟨rfl,Qg5 a1,QjX h⟩))
    ·split
     ·split
      ·exact .inr ⟨_,_,rfl,by decide,_,rfl⟩
      ·refine hw _ _ (fun e h => hbind h (hchk _ _ _ (by decide)) (fun _ e h => hchk _ _ _ (by decide) _ h)) ?_;intro u h;exact .inr (.inr (.inr (.inr ⟨rfl,QnD h⟩)))
     ·exact .inr ⟨_,_,rfl,by decide,_,rfl⟩
/-- what a line says hangs on its fields alone,but for the columns -/
theorem Qk8 {fs gs : List Qat} (h : fs.map (·.1) = gs.map (·.1)) : { Qdi fs with col := 0 } = { Qdi gs with col := 0 } := by
 have hlen : fs.length = gs.length := by have := congrArg List.length h; simpa using this
 have hnil : fs = [] ↔ gs = [] := by rw [← List.length_eq_zero_iff,← List.length_eq_zero_iff,hlen]
 have hw : ∀ k c d : Int,({ QaC k c with col := 0 } : LineL) = { QaC k d with col := 0 } := fun _ _ _ => rfl;have ho : ∀ {α : Type} (r : Except Er α) (g : α → LineL),({ outL fs r g with col := 0 } : LineL) = { outL gs r g with col := 0 } := by
  intro α r g;cases r <;> rfl
 unfold Qdi;rw [h,hlen];by_cases hf : fs = []
 ·rw [if_pos hf,if_pos (hnil.1 hf)]
 ·rw [if_neg hf,if_neg (fun e => hf (hnil.2 e))];split
  ·split
   ·exact hw _ _ _
   ·exact ho _ _
  ·split
   ·split
    ·exact hw _ _ _
    ·exact ho _ _
   ·split
    ·split
     ·exact hw _ _ _
     ·exact ho _ _
    ·split
     ·split
      ·exact hw _ _ _
      ·exact ho _ _
     ·exact hw _ _ _
/-- a text of at most n bytes,none of them a quote -/
def Pl (n : Nat) (s : Bs) : Prop := (34 : UInt8) ∉ s ∧ s.length ≤ n
theorem Pl.mono {n m : Nat} {a : Bs} (h : Pl n a) (hn : n ≤ m) : Pl m a := ⟨h.1,Nat.le_trans h.2 hn⟩
/- fields,with a bound of what a line of them is long -/
inductive Pls : Nat → List Bs → Prop
 | nil : Pls 0 []
 | cons (n m : Nat) (s : Bs) (l : List Bs) : Pl n s → Pls m l → Pls (n + 3 + m) (s :: l)
theorem Pls.no {n : Nat} {l : List Bs} (h : Pls n l) : (l.any fun s => s.contains 34) = false := by
 induction h with
 | nil => rfl
 | cons n m s l h1 _ ih =>
  rw [List.any_cons,ih,Bool.or_false];have := h1.1;simpa using this
theorem one_le (x : Bs) : (Go.Lxr.QfJ x).length ≤ x.length + 2 := by
 unfold Go.Lxr.QfJ;split <;> simp
theorem Pls.len {n : Nat} {l : List Bs} (h : Pls n l) : (Go.Lxr.Qlf l).length ≤ n := by
 induction h with
 | nil => simp [Go.Lxr.Qlf]
 | cons n m s l h1 _ ih =>
  have h2 := one_le s;have h3 := h1.2;cases l with
  | nil =>
   show (Go.Lxr.QfJ s).length ≤ _;omega
  | cons t l =>
   show (Go.Lxr.QfJ s ++ 32 :: Go.Lxr.Qlf (t :: l)).length ≤ _;rw [List.length_append,List.length_cons];omega
theorem Pls.show {n : Nat} {l : List Bs} (h : Pls n l) (hn : n ≤ 200) : Go.Lxr.showD l = (Go.Lxr.Qlf l,0) := by
 unfold Go.Lxr.showD;have := h.len;rw [h.no,if_neg (by decide),if_neg (by omega)]
end Go.Lin
