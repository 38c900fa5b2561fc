import Derived.Test.YtodcnbejnchmhaaGreatDoorYc33
import Derived.Test.YtodcnbejnchmhaaGreatDoorYc39
import Derived.Test.YtodcnbejnchmhaaGreatDoorYc30
set_option maxRecDepth 100000
set_option maxHeartbeats 3200000
namespace Go.Mem
open Go.RowKit
section
variable {P : Program} {ops : Array Oper} {rest : List Oper} {a : Act} {w : World} {Q : Exit → Act → World → Prop}
/- the next operation's kind,seen at once ('with_reducible refine Qam T ?_' ahead of a law): a law that does not fit is not tried -/
theorem Qam {d : Option Tmp} {x : Operand} {ty : TypeId} {pos : String} {af : Array Edge} {g : Option (Nat × Bool)} (t : TypeId) (h : wpList P ops Q (⟨d,.load t x,ty,pos,af,g⟩ :: rest) a w) : wpList P ops Q (⟨d,.load t x,ty,pos,af,g⟩ :: rest) a w := h
theorem Qab {d : Option Tmp} {x y : Operand} {ty : TypeId} {pos : String} {af : Array Edge} {g : Option (Nat × Bool)} (t : TypeId) (h : wpList P ops Q (⟨d,.store t x y,ty,pos,af,g⟩ :: rest) a w) : wpList P ops Q (⟨d,.store t x y,ty,pos,af,g⟩ :: rest) a w := h
theorem at_slice {d : Option Tmp} {y : Operand} {ty : TypeId} {pos : String} {af : Array Edge} {g : Option (Nat × Bool)} (t : TypeId) (h : wpList P ops Q (⟨d,.buildSlice t 1 #[(0,y)],ty,pos,af,g⟩ :: rest) a w) : wpList P ops Q (⟨d,.buildSlice t 1 #[(0,y)],ty,pos,af,g⟩ :: rest) a w := h
theorem Qqo {d : Option Tmp} {t : TypeId} {ty : TypeId} {pos : String} {af : Array Edge} {g : Option (Nat × Bool)} (s x : Operand) (h : wpList P ops Q (⟨d,.call { callee := .builtin .append,args := #[s,x],argTypes := #[t,t] },ty,pos,af,g⟩ :: rest) a w) : wpList P ops Q (⟨d,.call { callee := .builtin .append,args := #[s,x],argTypes := #[t,t] },ty,pos,af,g⟩ :: rest) a w := h
end
end Go.Mem
namespace Go.Proofs.YtodcnbejnchmhaaGreatDoor
open Go.RowKit Go.Mem Go.Lin Go.Dcm
section
variable {P : Program} {ops : Array Oper} {Q : Exit → Act → World → Prop} {md : Region.Mode} {S : World → Prop}
end
section
variable {P : Program} {ops : Array Oper} {Q : Exit → Act → World → Prop} {md : Region.Mode} {S : World → Prop}
end
end Go.Proofs.YtodcnbejnchmhaaGreatDoor
namespace Go.Proofs.YtodcnbejnchmhaaGreatDoor
open _root_.Go.Proofs.Tryz
open Go.RowKit Go.Mem Go.Lin Go.Dcm
open Go.Rope hiding Bs

theorem infoS3 : (Tryz.prog.info? 9).map (fun i => (i.zero,i.size,i.bytes)) = some (some (.string ⟨#[]⟩),1,16) := by kernel_rfl
theorem Qil (l : Bs) (a b : Nat) : (⟨l.toArray⟩ : ByteArray).extract a b = ⟨(cut l a b).toArray⟩ := S5.QbT l a b
theorem Qmq {w : World} {base : Nat} {e : TypeId} {size n : Nat} {v : Value} {xs : List Value} (h : w.ownsRow base e size v n xs) (o : Obj) : (w.alloc o).ownsRow base e size v n xs := (Fr.new w o (fun _ => False)).own h (fun _ _ h => h)
/-- the slice v is the call's own and holds these texts -/
def Strs3 (w : World) (base : Nat) (v : Value) (vs : List Bs) : Prop := w.ownsRow base 9 1 v vs.length (vs.map strV)
theorem Qm6 {l : Bs} {f i : Nat} {done : List Bs} (h1 : f ≤ i) (h2 : l[i]? = some 10) (hd : Qas l = done ++ Qas (l.drop f)) (h0 : Qah (cut l f i) = 0) :
  Qas l = (done ++ [cut l f i]) ++ Qas (l.drop (i + 1)) ∧ Qah (cut l (i + 1) (i + 1)) = 0 := by
 obtain ⟨h3,h4⟩ := List.getElem?_eq_some_iff.1 h2;have e : l.drop f = cut l f i ++ 10 :: l.drop (i + 1) := by
  have e1 := List.take_append_drop (i - f) (l.drop f);rw [List.drop_drop,show f + (i - f) = i by omega,← Go.Rope.Qde,List.drop_eq_getElem_cons h3,h4] at e1;exact e1.symm
 refine ⟨?_,by simp [Go.Rope.Qde,Qah]⟩;rw [hd,e,QjG h0];simp
theorem Qm5 {l : Bs} {f i : Nat} {c : UInt8} (h1 : f ≤ i) (h2 : l[i]? = some c) (hc : c ≠ 10) (h0 : Qah (cut l f i) = 0) : Qah (cut l f (i + 1)) = 0 := by
 obtain ⟨h3,h4⟩ := List.getElem?_eq_some_iff.1 h2;have e : cut l f (i + 1) = cut l f i ++ [c] := by
  rw [cut,List.take_succ_eq_append_getElem h3,h4,List.drop_append_of_le_length (by rw [List.length_take]; omega)];rfl
 rw [e,QbP,h0];simp [Qah,hc]
def QiY (w : World) (l : Bs) (e : Ending) (w' : World) : Prop := ∃ b c,e = .returned (.slice (some ⟨b,0,none⟩) (Qas l).length c) ∧ w.heap.size ≤ b ∧ Own w' w.heap.size 9 1 strL (.slice (some ⟨b,0,none⟩) (Qas l).length c) (Qas l) ∧ Fr w w' (fun _ => False)
theorem QpH {w w' : World} {l : Bs} {v : Value} (h : w'.ownsRow w.heap.size 9 1 v (Qas l).length ((Qas l).map strV)) (hf : Fr w w' (fun _ => False)) : QiY w l (.returned v) w' := by
 obtain ⟨A,c,rfl,-,-,-,hA,hA2⟩ := Qed h;cases A with
 | none =>
  have h0 := (hA rfl).1;exact absurd (List.eq_nil_of_length_eq_zero h0) (QdR l)
 | some A =>
  obtain ⟨b,rfl,-,hb,-⟩ := hA2 A rfl;exact ⟨b,c,rfl,hb,(by show World.ownsRow _ _ _ _ _ _ _; rw [Qfv]; exact h),hf⟩
def LInv3 (w : World) (l : Bs) (v3 v4 v5 : Value) (wr : World) : Prop := ∃ (i f : Nat) (done : List Bs),f ≤ i ∧ i ≤ l.length ∧ v5 = .int .i64 (i : Int) ∧ v4 = .int .i64 (f : Int) ∧ Strs3 wr w.heap.size v3 done ∧
 Qas l = done ++ Qas (l.drop f) ∧ Qah (cut l f i) = 0 ∧ done.length ≤ i ∧ Fr w wr (fun _ => False)
theorem QkP (l : Bs) (w : World) (hl : l.length ≤ 20000) : Calls Tryz.prog 25 #[strV l] w (QiY w l) := by
 have hz := Qal l;go_enter func25,ntmps25;go_wp2_with fail
 go_loopw [3,4,5] (fun v3 v4 v5 wr => LInv3 w l v3 v4 v5 wr) (fun _ _ v5 _ => l.length - (intOf v5).toNat)
 case atStart => exact ⟨0,0,[],Nat.le_refl _,Nat.zero_le _,rfl,rfl,⟨rfl,.inr ⟨w.heap.size,0,#[],rfl,Nat.le_refl _,heap_alloc_new w _,Nat.le_refl _,by unfold maxLen; omega,rfl,rfl⟩⟩,by simp,by simp [cut,Qah],by simp,Fr.new _ _ _⟩
 case round =>
  obtain ⟨i,f,done,hfi,hil,rfl,rfl,hown,hd,h0,hdl,hf⟩ := hrel;obtain ⟨i0,hi0,hz0,hz1,hz2⟩ := info_parts infoS3;have HO := Xi hown;have HF := Xi hf;have HD := Xi hd;have H0 := Xi h0;have hws := hf.size;obtain ⟨A3,c3,rfl⟩ := Qcf hown;clear hown hd h0 hf;have b0 : (0 : Int) ≤ (f : Int) := by omega
  have b1 : (f : Int) ≤ (i : Int) := by omega
  have b2 : (i : Int) ≤ (l.length : Int) := by omega
  by_cases hlt : i < l.length
  ·have hlt' : i < (⟨l.toArray⟩ : ByteArray).size := by rw [hz]; exact hlt
   have hget : (⟨l.toArray⟩ : ByteArray)[i]'hlt' = l[i]'hlt := rfl;have hget? : l[i]? = some (l[i]'hlt) := List.getElem?_eq_getElem hlt;obtain ⟨c,hc⟩ : ∃ c,l[i]'hlt = c := ⟨_,rfl⟩;rw [hc] at hget hget?;by_cases hc10 : c = 10
   ·subst hc10;have e10 : (((((⟨l.toArray⟩ : ByteArray)[i]'hlt').toNat : Nat) : Int) == 10) = true := by rw [hget]; rfl
    have HS := Xi (Qm6 hfi hget? HD.out H0.out);have HS5 := Xi (Qmq HO.out (.cells #[.string ((⟨l.toArray⟩ : ByteArray).extract f i)] 9));have HCE := Xi (show Value.string ((⟨l.toArray⟩ : ByteArray).extract f i) = strV (cut l f i) by rw [Qil]);clear hget hget? hc;go_wp2_with (at_builtin; refine QaF _ rfl (.tmp 17) (.tmp 22) 75 rfl w.heap.size 9 i0 _ 1 16 underlying75 hi0 hz0 hz1 hz2 rfl (by decide) _ _ _ rfl HS5.out _ 1 1 [.string ((⟨l.toArray⟩ : ByteArray).extract f i)] rfl (Qc7 wr 9 (0,0) [.string ((⟨l.toArray⟩ : ByteArray).extract f i)]) (by intro u hu; simp at hu; subst hu; rfl) (by simp only [maxLen]; omega) (by omega) (by simp; omega) ?_; intro v6 w6 hown6 hg6 _);have hf6 := ((Fr.new wr (.cells #[.string ((⟨l.toArray⟩ : ByteArray).extract f i)] 9) (fun _ => False))).trans (Fr.ofGrown hg6) (U := fun k => w.heap.size ≤ k) (fun _ _ h => h.elim) (fun k _ e => (HS5.out.lt k e.symm).1);have HF6 := Xi (HF.out.fresh hf6 (fun k hk => hk));have HO6 := Xi hown6;clear hf6 hown6 hg6;go_wp2_with fail
    go_roundw
    case measure => simp [intOf]; omega
    case rel =>
     refine ⟨i + 1,i + 1,done ++ [cut l f i],Nat.le_refl _,by omega,by go_num,by go_num,?_,HS.out.1,HS.out.2,by simp; omega,HF6.out⟩;have := HO6.out;rw [HCE.out] at this;show World.ownsRow _ _ _ _ _ _ _;simpa using this
   ·have e10 : (((((⟨l.toArray⟩ : ByteArray)[i]'hlt').toNat : Nat) : Int) == 10) = false := by
     rw [hget,beq_eq_false_iff_ne];intro e;exact hc10 (UInt8.toNat_inj.1 (by have : (10 : UInt8).toNat = 10 := rfl; omega))
    have HS := Xi (Qm5 hfi hget? hc10 H0.out);clear hget hget? hc;go_wp2_with fail
    go_roundw
    case measure => simp [intOf]; omega
    case rel => exact ⟨i + 1,f,done,by omega,by omega,by go_num,rfl,HO.out,HD.out,HS.out,by omega,HF.out⟩
  ·have hil' : i = l.length := by omega
   have HS := Xi (show Qas l = done ++ [l.drop f] by
    rw [HD.out,Qhd (x := l.drop f)];have := H0.out;rw [hil',Go.Rope.Qde] at this
    rwa [List.take_of_length_le (by rw [List.length_drop]; omega)] at this)
   have HS5 := Xi (Qmq HO.out (.cells #[.string ((⟨l.toArray⟩ : ByteArray).extract f l.length)] 9));have HCE := Xi (show Value.string ((⟨l.toArray⟩ : ByteArray).extract f l.length) = strV (l.drop f) by rw [Qil,Go.Rope.Qde,List.take_of_length_le (by rw [List.length_drop]; omega)]);go_wp2_with (at_builtin; refine QaF _ rfl (.tmp 26) (.tmp 30) 75 rfl w.heap.size 9 i0 _ 1 16 underlying75 hi0 hz0 hz1 hz2 rfl (by decide) _ _ _ rfl HS5.out _ 1 1 [.string ((⟨l.toArray⟩ : ByteArray).extract f l.length)] rfl (Qc7 wr 9 (0,0) [.string ((⟨l.toArray⟩ : ByteArray).extract f l.length)]) (by intro u hu; simp at hu; subst hu; rfl) (by simp only [maxLen]; omega) (by omega) (by simp; omega) ?_; intro v6 w6 hown6 hg6 _);have hf6 := ((Fr.new wr (.cells #[.string ((⟨l.toArray⟩ : ByteArray).extract f l.length)] 9) (fun _ => False))).trans (Fr.ofGrown hg6) (U := fun k => w.heap.size ≤ k) (fun _ _ h => h.elim) (fun k _ e => (HS5.out.lt k e.symm).1);have HF6 := Xi (HF.out.fresh hf6 (fun k hk => hk));have HO6 := Xi hown6;clear hf6 hown6 hg6;go_wp2_with fail;go_ret;refine QpH ?_ HF6.out;have := HO6.out;rw [HCE.out] at this;show World.ownsRow _ _ _ _ _ _ _;rw [HS.out];simpa using this
end Go.Proofs.YtodcnbejnchmhaaGreatDoor
namespace Go.Proofs.YtodcnbejnchmhaaGreatDoor
open _root_.Go.Proofs.Tryz
open Go.RowKit Go.Mem Go.Lin Go.Dcm

def LI4 (w : World) (L : List Bs) (H c : Nat) (k : Nat) (v : Value) (wr : World) : Prop := ∃ i : Nat,i + k = L.length ∧ v = intV (i : Int) ∧ Own wr w.heap.size 9 1 strL (.slice (some ⟨H,0,none⟩) L.length c) (upD L i) ∧ Fr w wr (fun _ => False)
theorem QoA (a : Bs) : Qcn (a ++ [13]) = a := by unfold Qcn; simp
theorem strip_no (a : Bs) (c : UInt8) (h : c ≠ 13) : Qcn (a ++ [c]) = a ++ [c] := by unfold Qcn; simp [h]
theorem up_same (L : List Bs) (i : Nat) (h : i < L.length) (hs : Qcn L[i] = L[i]) : upD L (i + 1) = upD L i := by
 have h1 := Qok L i h;have h2 := up_at L i h;have hl : i < (upD L i).length := by rw [Qfc]; exact h
 rw [List.getElem?_eq_getElem hl] at h2;injection h2 with h2;rw [← h1,hs,← h2];exact List.set_getElem_self hl
theorem Qju (l : Bs) (w : World) (hl : l.length ≤ 20000) : Calls Tryz.prog 28 #[strV l] w (TPost (QdY l) w) := by
 have HS := Xi (QkP l w (by omega));obtain ⟨L,hL⟩ : ∃ L,Go.Rope.Qas l = L := ⟨_,rfl⟩;have hle := Qft l;unfold QiY at HS;rw [hL] at HS hle;have HD := Xi (show QdY l = upD L L.length by rw [up_all,← hL]; rfl);have HLE := Xi (show ∀ x ∈ L,x.length ≤ 20000 from fun x hx => by have := hle.2 x hx; omega);have hn : L.length ≤ 20001 := by omega
 rw [HD.out];clear hL hle hl;go_enter func28,ntmps28;go_wp2_with fail;refine HS.out.mono ?_;rintro e w2 ⟨H,c,rfl,hHb,ho,hf⟩;have HI := Xi (show LI4 w L H c L.length (intV 0) w2 from ⟨0,by simp,rfl,by simpa [upD] using ho,hf⟩);clear ho hf;go_wp2_with fail
 go_loopg [4,5] L.length (fun k v4 _ wr => LI4 w L H c k v4 wr)
 case atStart => exact HI.out
 case round =>
  obtain ⟨i,hik,rfl,ho,hf⟩ := hrel;by_cases hlt : i < L.length
  ·obtain ⟨c1,f1⟩ := Ql2 ho (Qfc L i).symm (up_at L i hlt);have HU := Xi (Qok L i hlt);have HSA := Xi (up_same L i hlt);have HO := Xi ho;have HF := Xi hf;have hi1 : (i : Int) < (L.length : Int) := by omega
   have hi0 : (0 : Int) ≤ (i : Int) := by omega
   have hxl := HLE.out L[i] (List.getElem_mem hlt);obtain ⟨x,hx⟩ : ∃ x,L[i] = x := ⟨_,rfl⟩;rw [hx] at c1 HU HSA hxl;clear ho hf hx;rcases List.eq_nil_or_concat x with rfl | ⟨a,b,rfl⟩
   ·have HE := Xi (HSA.out rfl);have c1 : wr.cell? ⟨H,i,none⟩ = some (.string ⟨#[]⟩) := c1;clear HSA HU hxl;go_wp2_with fail
    go_roundg (gk - 1)
    case measure => omega
    case rel => exact ⟨i + 1,by omega,by go_num,by rw [HE.out]; exact HO.out,HF.out⟩
   ·rw [List.concat_eq_append] at c1 HU HSA hxl;obtain ⟨s,hs⟩ : ∃ s : ByteArray,(⟨(a ++ [b]).toArray⟩ : ByteArray) = s := ⟨_,rfl⟩;have hsz : s.size = a.length + 1 := by rw [← hs,Qal]; simp
    have hp : a.length < s.size := by omega
    have hget : s[a.length] = b := by subst hs; show (a ++ [b])[a.length]'_ = b; simp
    have hcut : s.extract 0 a.length = ⟨a.toArray⟩ := by
     rw [← hs,Qil];simp [Go.Rope.cut]
    have c2 : wr.cell? ⟨H,i,none⟩ = some (.string s) := by rw [← hs]; exact c1
    clear c1;have m1 : (s.size : Int) - 1 = (a.length : Int) := by omega
    have m0 : (0 : Int) < (s.size : Int) := by omega
    have m2 : (a.length : Int) < (s.size : Int) := by omega
    have m3 : (0 : Int) ≤ (a.length : Int) := by omega
    have m4 : (a.length : Int) ≤ (s.size : Int) := by omega
    have m5 : (s.size : Int) ≤ 20000 := by rw [hsz]; simp at hxl; omega
    clear hs hsz hxl;by_cases hb : b = 13
    ·subst hb;have e13 : ((s[a.length].toNat : Int) == 13) = true := by rw [hget]; rfl
     have hy := QoA a;rw [hy] at HU;have HV := Xi (show Value.string (s.extract 0 a.length) = strV a by rw [hcut]);clear hget hcut HSA hy;go_wp2_with fail
     go_roundg (gk - 1)
     case measure => omega
     case rel =>
      refine ⟨i + 1,by omega,by go_num,?_,HF.out.fresh (Fr.set (S := fun k => k = H) rfl) (fun j e => by omega)⟩;have := QoB HO.out (Qfc L i).symm i a;rw [HU.out] at this;rw [HV.out];exact this
    ·have e13 : ((s[a.length].toNat : Int) == 13) = false := by
      rw [hget,show ((b.toNat : Int) == 13) = (b == 13) from (S8.QbC b 13).symm];simpa using hb
     have HE := Xi (HSA.out (strip_no a b hb));clear hget hcut HSA HU;go_wp2_with fail
     go_roundg (gk - 1)
     case measure => omega
     case rel => exact ⟨i + 1,by omega,by go_num,by rw [HE.out]; exact HO.out,HF.out⟩
  ·obtain rfl : i = L.length := by omega
   have HO := Xi ho;have HF := Xi hf;have hi1 : (L.length : Int) ≤ (L.length : Int) := Int.le_refl _;clear ho hf;go_wp2_with fail;go_ret;refine ⟨H,c,?_,hHb,?_,HF.out⟩
   ·rw [Qfc]; rfl
   ·rw [Qfc]; exact HO.out
end Go.Proofs.YtodcnbejnchmhaaGreatDoor
