import Derived.Test.YtlfjknndkjgciaaGreatDoorYd05
import Derived.Test.YtlfjknndkjgciaaGreatDoorYd02
namespace Go.Kwd
open Go.Lib Go.Esc

def Qmj : List Bs := [[82,117,108,101],[90,111,110,101],[76,105,110,107]]
def Qhv : List Bs := [[74,97,110,117,97,114,121],[70,101,98,114,117,97,114,121],[77,97,114,99,104],[65,112,114,105,108],[77,97,121],[74,117,110,101],[74,117,108,121],
 [65,117,103,117,115,116],[83,101,112,116,101,109,98,101,114],[79,99,116,111,98,101,114],[78,111,118,101,109,98,101,114],[68,101,99,101,109,98,101,114]]
/-- the place of a word of any list -/
def Qll (s : Bs) (ws : List Bs) : Nat := QeH (Qcr s) 0 0 0 (ws.map Qcr)
theorem QnB (s : Bs) : Qll s Qmj = headD s := by
 unfold Qll headD Qh0;rw [show Qmj.map Qcr = Qnu by decide +kernel]
theorem Qlk (s : Bs) : Qll s Qhv = QcI s := by
 unfold Qll QcI Qh0;rw [show Qhv.map Qcr = QfY by decide +kernel]
theorem QpM (s : Bs) : Qll s ends = endD s := by
 unfold Qll endD Qh0;rw [show ends.map Qcr = ends by decide +kernel]
theorem QdW (s : Bs) : (Qcr s).length = s.length := by simp [Qcr]
/-- does the word w begin with s? -/
def begD (w s : Bs) : Bool := !s.isEmpty && preB (Qcr s) (Qcr w)
theorem QpL (s : Bs) (i a n : Nat) (w : Bs) (ws : List Bs) : QeH (Qcr s) i a n ((w :: ws).map Qcr) =
  if begD w s = true then (if s.length = w.length then i + 1 else QeH (Qcr s) (i + 1) (i + 1) (n + 1) (ws.map Qcr)) else QeH (Qcr s) (i + 1) a n (ws.map Qcr) := by
 rw [List.map_cons,QeH,QdW,QdW,begD];have h : (Qcr s).isEmpty = s.isEmpty := by cases s <;> rfl
 rw [h];cases s.isEmpty <;> cases preB (Qcr s) (Qcr w) <;> simp
theorem QoX : ∀ {s w : Bs},preB s w = true ↔ s.length ≤ w.length ∧ ∀ k,k < s.length → s[k]? = w[k]?
 | [],w => by simp [preB]
 | a :: l,[] => by simp [preB]
 | a :: l,b :: m => by
  unfold preB;rw [Bool.and_eq_true,QoX,beq_iff_eq];constructor
  ·rintro ⟨rfl,h1,h2⟩;refine ⟨by simpa using h1,fun k hk => ?_⟩;cases k with
   | zero => rfl
   | succ k => simpa using h2 k (by simpa using hk)
  ·rintro ⟨h1,h2⟩;refine ⟨by simpa using h2 0 (by simp),by simpa using h1,fun k hk => ?_⟩;simpa using h2 (k + 1) (by simpa using hk)
theorem beg_get (w s : Bs) : begD w s = true ↔ s ≠ [] ∧ s.length ≤ w.length ∧ ∀ (k : Nat) (c d : UInt8),s[k]? = some c → w[k]? = some d → lowB c = lowB d := by
 rw [begD,Bool.and_eq_true,QoX,QdW,QdW];simp only [Qcr,List.getElem?_map,Bool.not_eq_true',List.isEmpty_eq_false_iff];constructor
 ·rintro ⟨h0,h1,h2⟩;refine ⟨h0,h1,fun k c d hc hd => ?_⟩;have hk := (List.getElem?_eq_some_iff.1 hc).1;have := h2 k hk;rw [hc,hd] at this;simpa using this
 ·rintro ⟨h0,h1,h2⟩;refine ⟨h0,h1,fun k hk => ?_⟩;rw [List.getElem?_eq_getElem hk,List.getElem?_eq_getElem (by omega),Option.map_some,Option.map_some];congr 1;exact h2 k _ _ (List.getElem?_eq_getElem hk) (List.getElem?_eq_getElem (by omega))
theorem Qi9 (t : Bs) : ∀ (ws : List Bs) (i a n : Nat),a ≤ i → QeH t i a n ws ≤ i + ws.length
 | [],i,a,n,h => by
  rw [QeH];split
  ·simpa using h
  ·simp
 | w :: ws,i,a,n,h => by
  rw [QeH];split
  ·have := Qi9 t ws (i + 1) a n (by omega);simp; omega
  ·split
   ·simp
   ·have := Qi9 t ws (i + 1) (i + 1) (n + 1) (by omega);simp; omega

/-- what From answers of what was read -/
def Qc2 (p : Int × Int) : Int × Int := if p.2 = 0 ∧ 1 ≤ p.1 ∧ p.1 ≤ 9999 then (p.1,0) else (0,8)
def Qk9 (e : Nat) (y : Int × Int) (fr : Int) : Int × Int := if e = 1 then (fr,0) else if e = 2 then (10000,0) else if y.2 = 0 ∧ fr ≤ y.1 then y else (0,8)
def onlyT : Bs := [111,110,108,121]
def maxT : Bs := [109,97,120]
def QiO (fr to : Int) : Bs × Int :=
 if ¬ (1 ≤ fr ∧ fr ≤ 9999) then ([],8) else if to = 10000 then (maxT,0) else if ¬ (1 ≤ to ∧ to ≤ 9999) ∨ to < fr then ([],8) else if to = fr then (onlyT,0) else (itoa to,0)
theorem Qjm (p : Int × Int) : (Qc2 p).2 = 0 ∨ Qc2 p = (0,8) := by
 unfold Qc2;split
 ·exact .inl rfl
 ·exact .inr rfl
theorem QjY (e : Nat) (p : Int × Int) (fr : Int) : (Qk9 e (Qc2 p) fr).2 = 0 ∨ Qk9 e (Qc2 p) fr = (0,8) := by
 unfold Qk9;split
 ·exact .inl rfl
 ·split
  ·exact .inl rfl
  ·split
   ·rename_i h;exact .inl h.1
   ·exact .inr rfl
end Go.Kwd
