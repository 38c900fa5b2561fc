import Derived.Test.YtodcnbejnchmhaaGreatDoorYc05
import Derived.Test.YtodcnbejnchmhaaGreatDoorYc02
namespace Go.Kwd
open Go.Lib Go.Esc

def Qmu : List Bs := [[82,117,108,101],[90,111,110,101],[76,105,110,107]]
def Qha : List Bs := [[74,97,110,117,97,114,121],[70,101,98,114,117,97,114,121],[77,97,114,99,104],[65,112,114,105,108],[77,97,121],[74,117,110,101],[74,117,108,121],
 [65,117,103,117,115,116],[83,101,112,116,101,109,98,101,114],[79,99,116,111,98,101,114],[78,111,118,101,109,98,101,114],[68,101,99,101,109,98,101,114]]
/-- the place of a word of any list -/
def Qlp (s : Bs) (ws : List Bs) : Nat := Qd7 (Qca s) 0 0 0 (ws.map Qca)
theorem QnT (s : Bs) : Qlp s Qmu = headD s := by
 unfold Qlp headD QhF;rw [show Qmu.map Qca = QnO by decide +kernel]
theorem Qlo (s : Bs) : Qlp s Qha = Qcw s := by
 unfold Qlp Qcw QhF;rw [show Qha.map Qca = Qfr by decide +kernel]
theorem Qp0 (s : Bs) : Qlp s ends = endD s := by
 unfold Qlp endD QhF;rw [show ends.map Qca = ends by decide +kernel]
theorem Qds (s : Bs) : (Qca s).length = s.length := by simp [Qca]
/-- does the word w begin with s? -/
def begD (w s : Bs) : Bool := !s.isEmpty && preB (Qca s) (Qca w)
theorem QpZ (s : Bs) (i a n : Nat) (w : Bs) (ws : List Bs) : Qd7 (Qca s) i a n ((w :: ws).map Qca) =
  if begD w s = true then (if s.length = w.length then i + 1 else Qd7 (Qca s) (i + 1) (i + 1) (n + 1) (ws.map Qca)) else Qd7 (Qca s) (i + 1) a n (ws.map Qca) := by
 rw [List.map_cons,Qd7,Qds,Qds,begD];have h : (Qca s).isEmpty = s.isEmpty := by cases s <;> rfl
 rw [h];cases s.isEmpty <;> cases preB (Qca s) (Qca w) <;> simp
theorem Qpp : ∀ {s w : Bs},preB s w = true ↔ s.length ≤ w.length ∧ ∀ k,k < s.length → s[k]? = w[k]?
 | [],w => by simp [preB]
 | a :: l,[] => by simp [preB]
 | a :: l,b :: m => by
  unfold preB;rw [Bool.and_eq_true,Qpp,beq_iff_eq];constructor
  ·rintro ⟨rfl,h1,h2⟩;refine ⟨by simpa using h1,fun k hk => ?_⟩;cases k with
   | zero => rfl
   | succ k => simpa using h2 k (by simpa using hk)
  ·rintro ⟨h1,h2⟩;refine ⟨by simpa using h2 0 (by simp),by simpa using h1,fun k hk => ?_⟩;simpa using h2 (k + 1) (by simpa using hk)
theorem beg_get (w s : Bs) : begD w s = true ↔ s ≠ [] ∧ s.length ≤ w.length ∧ ∀ (k : Nat) (c d : UInt8),s[k]? = some c → w[k]? = some d → lowB c = lowB d := by
 rw [begD,Bool.and_eq_true,Qpp,Qds,Qds];simp only [Qca,List.getElem?_map,Bool.not_eq_true',List.isEmpty_eq_false_iff];constructor
 ·rintro ⟨h0,h1,h2⟩;refine ⟨h0,h1,fun k c d hc hd => ?_⟩;have hk := (List.getElem?_eq_some_iff.1 hc).1;have := h2 k hk;rw [hc,hd] at this;simpa using this
 ·rintro ⟨h0,h1,h2⟩;refine ⟨h0,h1,fun k hk => ?_⟩;rw [List.getElem?_eq_getElem hk,List.getElem?_eq_getElem (by omega),Option.map_some,Option.map_some];congr 1;exact h2 k _ _ (List.getElem?_eq_getElem hk) (List.getElem?_eq_getElem (by omega))
theorem QiM (t : Bs) : ∀ (ws : List Bs) (i a n : Nat),a ≤ i → Qd7 t i a n ws ≤ i + ws.length
 | [],i,a,n,h => by
  rw [Qd7];split
  ·simpa using h
  ·simp
 | w :: ws,i,a,n,h => by
  rw [Qd7];split
  ·have := QiM t ws (i + 1) a n (by omega);simp; omega
  ·split
   ·simp
   ·have := QiM t ws (i + 1) (i + 1) (n + 1) (by omega);simp; omega

/-- what From answers of what was read -/
def QcJ (p : Int × Int) : Int × Int := if p.2 = 0 ∧ 1 ≤ p.1 ∧ p.1 ≤ 9999 then (p.1,0) else (0,8)
def Qld (e : Nat) (y : Int × Int) (fr : Int) : Int × Int := if e = 1 then (fr,0) else if e = 2 then (10000,0) else if y.2 = 0 ∧ fr ≤ y.1 then y else (0,8)
def onlyT : Bs := [111,110,108,121]
def maxT : Bs := [109,97,120]
def Qiq (fr to : Int) : Bs × Int :=
 if ¬ (1 ≤ fr ∧ fr ≤ 9999) then ([],8) else if to = 10000 then (maxT,0) else if ¬ (1 ≤ to ∧ to ≤ 9999) ∨ to < fr then ([],8) else if to = fr then (onlyT,0) else (itoa to,0)
theorem Qi3 (p : Int × Int) : (QcJ p).2 = 0 ∨ QcJ p = (0,8) := by
 unfold QcJ;split
 ·exact .inl rfl
 ·exact .inr rfl
theorem QjM (e : Nat) (p : Int × Int) (fr : Int) : (Qld e (QcJ p) fr).2 = 0 ∨ Qld e (QcJ p) fr = (0,8) := by
 unfold Qld;split
 ·exact .inl rfl
 ·split
  ·exact .inl rfl
  ·split
   ·rename_i h;exact .inl h.1
   ·exact .inr rfl
end Go.Kwd
