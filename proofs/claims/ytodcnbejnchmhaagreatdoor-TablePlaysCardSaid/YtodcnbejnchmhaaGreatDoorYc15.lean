import Derived.Test.YtodcnbejnchmhaaGreatDoorYc14
set_option maxHeartbeats 1000000
namespace Go.Proofs.YtodcnbejnchmhaaGreatDoor.S3
open _root_.Go.Proofs.Tryz
open Go.RowKit Go.Mem Go.Rope

theorem QkL (l : Bs) (x y : Int) (s : Bs) (w : World) (hl : l.length ≤ 20000) (hz : s.length ≤ 20100) (t : Bs) (k : Int) (hs : Qb9 l x y s = (t,k)) :
  Calls Tryz.prog 31 #[strV l,.int .i64 x,.int .i64 y,strV s] w fun e w' => e = .returned (.tuple #[strV t,.int .i64 k]) ∧ Fr w w' (fun _ => False) := by
 unfold Qb9 at hs;have hzl := Qal l;have hzs := Qal s;by_cases hr : InR l x y
 ·rw [if_pos hr] at hs;obtain ⟨r1,r2,r3⟩ := hr;obtain ⟨f,rfl⟩ : ∃ f : Nat,x = (f : Int) := ⟨x.toNat,by omega⟩;obtain ⟨u,rfl⟩ : ∃ u : Nat,y = (u : Int) := ⟨y.toNat,by omega⟩;simp only [Int.toNat_natCast] at hs;have t1 : ¬ ((f : Int) < 0) := by omega
  have t2 : ¬ ((f : Int) > (u : Int)) := by omega
  have t3 : ¬ ((u : Int) > (l.length : Int)) := by omega
  have t4 : ¬ (u < f) := by omega
  have t5 : ¬ (l.length < u) := by omega
  by_cases hbig : l.length - (u - f) + s.length ≤ 20000
  ·rw [if_pos hbig] at hs;obtain ⟨rfl,rfl⟩ := Prod.mk.inj hs;have e1 : ((⟨l.toArray⟩ : ByteArray).extract 0 f).size = f := by rw [QbT,Qal,Qbw (by omega) (by omega)]; omega
   have e2 : ((⟨l.toArray⟩ : ByteArray).extract u l.length).size = l.length - u := by rw [QbT,Qal,Qbw (by omega) (by omega)]
   have a1 := fun w => run_string_add_sum (P := Tryz.prog) w ((⟨l.toArray⟩ : ByteArray).extract 0 f) ⟨s.toArray⟩ (by rw [e1,hzs]; omega);have a2 := fun w => run_string_add_sum (P := Tryz.prog) w ((⟨l.toArray⟩ : ByteArray).extract 0 f ++ ⟨s.toArray⟩) ((⟨l.toArray⟩ : ByteArray).extract u l.length) (by rw [ByteArray.size_append,e1,e2,hzs]; omega);have HE := Xi (show strV (repl l f u s) = .string ((⟨l.toArray⟩ : ByteArray).extract 0 f ++ ⟨s.toArray⟩ ++ (⟨l.toArray⟩ : ByteArray).extract u l.length) by rw [QbT,QbT,QgK,QgK]; simp [repl,cut]);have t6 : ¬ ((s.length : Int) > 20000) := by omega
   have t6' : ¬ (20000 < (s.length : Int)) := by omega
   have t7 : ¬ (20000 - (s.length : Int) < (l.length : Int) - ((u : Int) - (f : Int))) := by omega
   have i0 : (0 : Int) ≤ (f : Int) := by omega
   have i1 : (f : Int) ≤ (l.length : Int) := by omega
   have i2 : (0 : Int) ≤ (u : Int) := by omega
   have i3 : (u : Int) ≤ (l.length : Int) := by omega
   clear hs e1 e2;go_enter func31,ntmps31;go_wp2_with fail
   go_quiet (fail)
   go_wp2_with fail
   go_ret2
   exact ⟨by rw [HE.out]; rfl,Fr.drewN _ _ _⟩
  ·rw [if_neg hbig] at hs;obtain ⟨rfl,rfl⟩ := Prod.mk.inj hs;clear hs;by_cases h6 : 20000 < (s.length : Int)
   ·go_enter func31,ntmps31;go_wp2_with fail
    go_ret2
    exact ⟨rfl,Fr.refl _ _⟩
   ·have t7 : (20000 - (s.length : Int) < (l.length : Int) - ((u : Int) - (f : Int))) := by omega
    go_enter func31,ntmps31;go_wp2_with fail
    go_ret2
    exact ⟨rfl,Fr.refl _ _⟩
 ·rw [if_neg hr] at hs;obtain ⟨rfl,rfl⟩ := Prod.mk.inj hs;unfold InR at hr;clear hs;by_cases h1 : x < 0
  ·go_enter func31,ntmps31;go_wp2_with fail
   go_ret2
   exact ⟨rfl,Fr.refl _ _⟩
  ·by_cases h2 : y < x
   ·go_enter func31,ntmps31;go_wp2_with fail
    go_ret2
    exact ⟨rfl,Fr.refl _ _⟩
   ·have h3 : (l.length : Int) < y := by omega
    clear hr;go_enter func31,ntmps31;go_wp2_with fail
    go_ret2
    exact ⟨rfl,Fr.refl _ _⟩

theorem World.ownsRow.keepNew {w : World} {base : Nat} {e : TypeId} {size n : Nat} {v : Value} {xs : List Value} (h : w.ownsRow base e size v n xs) (o : Obj) : (w.alloc o).ownsRow base e size v n xs := (Fr.new w o (fun _ => False)).own h (fun _ _ h => h)
/-- the slice v is the call's own and holds these texts -/
def Strs (w : World) (base : Nat) (v : Value) (vs : List Bs) : Prop := w.ownsRow base 9 1 v vs.length (vs.map strV)
theorem Qoz {l : Bs} {f i : Nat} {done : List Bs} (h1 : f ≤ i) (h2 : l[i]? = some 10) (hd : Qas l = done ++ Qas (l.drop f)) (h0 : Qah (cut l f i) = 0) :
  Qas l = (done ++ [cut l f i]) ++ Qas (l.drop (i + 1)) ∧ Qah (cut l (i + 1) (i + 1)) = 0 := by
 obtain ⟨h3,h4⟩ := List.getElem?_eq_some_iff.1 h2;have e : l.drop f = cut l f i ++ 10 :: l.drop (i + 1) := by
  have e1 := List.take_append_drop (i - f) (l.drop f);rw [List.drop_drop,show f + (i - f) = i by omega,← Qde,List.drop_eq_getElem_cons h3,h4] at e1;exact e1.symm
 refine ⟨?_,by simp [Qde,Qah]⟩;rw [hd,e,QjG h0];simp
theorem Qoy {l : Bs} {f i : Nat} {c : UInt8} (h1 : f ≤ i) (h2 : l[i]? = some c) (hc : c ≠ 10) (h0 : Qah (cut l f i) = 0) : Qah (cut l f (i + 1)) = 0 := by
 obtain ⟨h3,h4⟩ := List.getElem?_eq_some_iff.1 h2;have e : cut l f (i + 1) = cut l f i ++ [c] := by
  rw [cut,List.take_succ_eq_append_getElem h3,h4,List.drop_append_of_le_length (by rw [List.length_take]; omega)];rfl
 rw [e,QbP,h0];simp [Qah,hc]
def LinesOf (w : World) (l : Bs) (e : Ending) (w' : World) : Prop := ∃ v,e = .returned v ∧ Strs w' w.heap.size v (Qas l) ∧ Fr w w' (fun _ => False)
def LInv (w : World) (l : Bs) (v3 v4 v5 : Value) (wr : World) : Prop := ∃ (i f : Nat) (done : List Bs),f ≤ i ∧ i ≤ l.length ∧ v5 = .int .i64 (i : Int) ∧ v4 = .int .i64 (f : Int) ∧ Strs wr w.heap.size v3 done ∧
 Qas l = done ++ Qas (l.drop f) ∧ Qah (cut l f i) = 0 ∧ done.length ≤ i ∧ Fr w wr (fun _ => False)
theorem QhX (l : Bs) (w : World) (hl : l.length ≤ 20000) : Calls Tryz.prog 25 #[strV l] w (LinesOf w l) := by
 have hz := Qal l;go_enter func25,ntmps25;go_wp2_with fail
 go_loopw [3,4,5] (fun v3 v4 v5 wr => LInv w l v3 v4 v5 wr) (fun _ _ v5 _ => l.length - (intOf v5).toNat)
 case atStart => exact ⟨0,0,[],Nat.le_refl _,Nat.zero_le _,rfl,rfl,⟨rfl,.inr ⟨w.heap.size,0,#[],rfl,Nat.le_refl _,heap_alloc_new w _,Nat.le_refl _,by unfold maxLen; omega,rfl,rfl⟩⟩,by simp,by simp [cut,Qah],by simp,Fr.new _ _ _⟩
 case round =>
  obtain ⟨i,f,done,hfi,hil,rfl,rfl,hown,hd,h0,hdl,hf⟩ := hrel;obtain ⟨i0,hi0,hz0,hz1,hz2⟩ := info_parts QnL;have HO := Xi hown;have HF := Xi hf;have HD := Xi hd;have H0 := Xi h0;have hws := hf.size;obtain ⟨A3,c3,rfl⟩ := Qcf hown;clear hown hd h0 hf;have b0 : (0 : Int) ≤ (f : Int) := by omega
  have b1 : (f : Int) ≤ (i : Int) := by omega
  have b2 : (i : Int) ≤ (l.length : Int) := by omega
  by_cases hlt : i < l.length
  ·have hlt' : i < (⟨l.toArray⟩ : ByteArray).size := by rw [hz]; exact hlt
   have hget : (⟨l.toArray⟩ : ByteArray)[i]'hlt' = l[i]'hlt := rfl;have hget? : l[i]? = some (l[i]'hlt) := List.getElem?_eq_getElem hlt;obtain ⟨c,hc⟩ : ∃ c,l[i]'hlt = c := ⟨_,rfl⟩;rw [hc] at hget hget?;by_cases hc10 : c = 10
   ·subst hc10;have e10 : (((((⟨l.toArray⟩ : ByteArray)[i]'hlt').toNat : Nat) : Int) == 10) = true := by rw [hget]; rfl
    have HS := Xi (Qoz hfi hget? HD.out H0.out);have HS5 := Xi (World.ownsRow.keepNew HO.out (.cells #[.string ((⟨l.toArray⟩ : ByteArray).extract f i)] 9));have HCE := Xi (show Value.string ((⟨l.toArray⟩ : ByteArray).extract f i) = strV (cut l f i) by rw [QbT]);clear hget hget? hc;go_wp2_with (at_builtin; refine QaF _ rfl (.tmp 17) (.tmp 22) 75 rfl w.heap.size 9 i0 _ 1 16 underlying75 hi0 hz0 hz1 hz2 rfl (by decide) _ _ _ rfl HS5.out _ 1 1 [.string ((⟨l.toArray⟩ : ByteArray).extract f i)] rfl (Qc7 wr 9 (0,0) [.string ((⟨l.toArray⟩ : ByteArray).extract f i)]) (by intro u hu; simp at hu; subst hu; rfl) (by simp only [maxLen]; omega) (by omega) (by simp; omega) ?_; intro v6 w6 hown6 hg6 _);have hf6 := ((Fr.new wr (.cells #[.string ((⟨l.toArray⟩ : ByteArray).extract f i)] 9) (fun _ => False))).trans (Fr.ofGrown hg6) (U := fun k => w.heap.size ≤ k) (fun _ _ h => h.elim) (fun k _ e => (HS5.out.lt k e.symm).1);have HF6 := Xi (HF.out.fresh hf6 (fun k hk => hk));have HO6 := Xi hown6;clear hf6 hown6 hg6;go_wp2_with fail
    go_roundw
    case measure => simp [intOf]; omega
    case rel =>
     refine ⟨i + 1,i + 1,done ++ [cut l f i],Nat.le_refl _,by omega,by go_num,by go_num,?_,HS.out.1,HS.out.2,by simp; omega,HF6.out⟩;have := HO6.out;rw [HCE.out] at this;show World.ownsRow _ _ _ _ _ _ _;simpa using this
   ·have e10 : (((((⟨l.toArray⟩ : ByteArray)[i]'hlt').toNat : Nat) : Int) == 10) = false := by
     rw [hget,beq_eq_false_iff_ne];intro e;exact hc10 (UInt8.toNat_inj.1 (by have : (10 : UInt8).toNat = 10 := rfl; omega))
    have HS := Xi (Qoy hfi hget? hc10 H0.out);clear hget hget? hc;go_wp2_with fail
    go_roundw
    case measure => simp [intOf]; omega
    case rel => exact ⟨i + 1,f,done,by omega,by omega,by go_num,rfl,HO.out,HD.out,HS.out,by omega,HF.out⟩
  ·have hil' : i = l.length := by omega
   have HS := Xi (show Qas l = done ++ [l.drop f] by
    rw [HD.out,Qhd (x := l.drop f)];have := H0.out;rw [hil',Qde] at this
    rwa [List.take_of_length_le (by rw [List.length_drop]; omega)] at this)
   have HS5 := Xi (World.ownsRow.keepNew HO.out (.cells #[.string ((⟨l.toArray⟩ : ByteArray).extract f l.length)] 9));have HCE := Xi (show Value.string ((⟨l.toArray⟩ : ByteArray).extract f l.length) = strV (l.drop f) by rw [QbT,Qde,List.take_of_length_le (by rw [List.length_drop]; omega)]);go_wp2_with (at_builtin; refine QaF _ rfl (.tmp 26) (.tmp 30) 75 rfl w.heap.size 9 i0 _ 1 16 underlying75 hi0 hz0 hz1 hz2 rfl (by decide) _ _ _ rfl HS5.out _ 1 1 [.string ((⟨l.toArray⟩ : ByteArray).extract f l.length)] rfl (Qc7 wr 9 (0,0) [.string ((⟨l.toArray⟩ : ByteArray).extract f l.length)]) (by intro u hu; simp at hu; subst hu; rfl) (by simp only [maxLen]; omega) (by omega) (by simp; omega) ?_; intro v6 w6 hown6 hg6 _);have hf6 := ((Fr.new wr (.cells #[.string ((⟨l.toArray⟩ : ByteArray).extract f l.length)] 9) (fun _ => False))).trans (Fr.ofGrown hg6) (U := fun k => w.heap.size ≤ k) (fun _ _ h => h.elim) (fun k _ e => (HS5.out.lt k e.symm).1);have HF6 := Xi (HF.out.fresh hf6 (fun k hk => hk));have HO6 := Xi hown6;clear hf6 hown6 hg6;go_wp2_with fail;go_ret;refine ⟨_,rfl,?_,HF6.out⟩;have := HO6.out;rw [HCE.out] at this;show World.ownsRow _ _ _ _ _ _ _;rw [HS.out];simpa using this
theorem QgI {w : World} {B : Nat} {v : Value} {vs : List Bs} (h : Strs w B v vs) : ∃ A c,v = .slice A vs.length c ∧ vs.length ≤ c ∧ c ≤ maxLen ∧ Rd w 1 A vs.length (vs.map strV) := by
 obtain ⟨A,c,h1,h2,h3,h4,-⟩ := Qed h;exact ⟨A,c,h1,h2,h3,h4⟩
theorem Qcu {w : World} {A : Option Addr} {n : Nat} {ls : List Bs} (h : Rd w 1 A n (ls.map strV)) {k : Nat} (hk : k < n) :
  ∃ b off x,A = some ⟨b,off,none⟩ ∧ ls[k]? = some x ∧ w.cell? ⟨b,off + k,none⟩ = some (strV x) := by
 obtain ⟨b,off,u,e,hu,hc⟩ := h.at_ hk;rw [List.getElem?_map] at hu;obtain ⟨x,hx,rfl⟩ := Option.map_eq_some_iff.1 hu;exact ⟨b,off,x,e,hx,hc⟩

theorem QgY (l : Bs) (i c : Int) (w : World) (hl : l.length ≤ 20000) (o k : Int) (hs : Qa9 l i c = (o,k)) :
  Calls Tryz.prog 30 #[strV l,.int .i64 i,.int .i64 c] w fun e w' => e = .returned (.tuple #[.int .i64 o,.int .i64 k]) ∧ Fr w w' (fun _ => False) := by
 unfold Qa9 at hs;have HL := Xi (QhX l w hl);have hfl := QbM l;have hll := Qb3 l;by_cases h0 : 0 ≤ i
 ·obtain ⟨n,rfl⟩ : ∃ n : Nat,i = (n : Int) := ⟨i.toNat,by omega⟩;simp only [Int.toNat_natCast] at hs;have t0 : ¬ ((n : Int) < 0) := by omega
  by_cases h1 : n ≤ Qah l
  ·have hbe := QfB h1;have hel := QeG l n;have hla := Qk9 h1;have hcl := Qbw hbe hel;have HNX := Xi (fun (k : Nat) (h : k < Qah l) => QpI h);have HBL := Xi (fun k => Qb5 l k);by_cases hc : 0 ≤ c
   ·have t1 : ¬ (c < 0) := by omega
    by_cases hz : c ≤ (Qbj l n : Int) - (Qak l n : Int)
    ·rw [if_pos ⟨h0,by omega,hc,hz⟩] at hs;obtain ⟨rfl,rfl⟩ := Prod.mk.inj hs;clear hs;go_enter func30,ntmps30;go_wp2_with fail;refine HL.out.mono ?_;rintro e w2 ⟨v,rfl,hstr,hf⟩;obtain ⟨A,cp,rfl,-,-,hrd⟩ := QgI hstr;obtain ⟨b,off,x,rfl,hx,hcell⟩ := Qcu hrd (k := n) (by omega);rw [hla] at hx;obtain rfl := Option.some.inj hx;have HLA := Xi hla;have HCL := Xi hcl;rw [hll] at hrd ⊢;have hsx := Qal (cut l (Qak l n) (Qbj l n));rw [hcl] at hsx;have HF := Xi hf;have HRD := Xi hrd;have t2 : ¬ ((n : Int) ≥ ((Qah l + 1 : Nat) : Int)) := by omega
     have t3 : ¬ (Qah l + 1 ≤ n) := by omega
     have i0 : (0 : Int) ≤ (n : Int) := by omega
     have i1 : (n : Int) < ((Qah l + 1 : Nat) : Int) := by omega
     generalize cut l (Qak l n) (Qbj l n) = x at hcell hsx HLA HCL;obtain ⟨xl,hxl⟩ : ∃ xl : Nat,xl = Qbj l n - Qak l n := ⟨_,rfl⟩;rw [← hxl] at hsx HCL;have HSX := Xi hsx;have hxlen : x.length = xl := HCL.out;have t5 : ¬ ((xl : Int) < c) := by omega
     have hbl := HBL.out n;clear hstr hrd hf hx hla hcl;go_wp2_with fail
     go_loop [9,10] (fun v9 v10 => ∃ k : Nat,k ≤ n ∧ v10 = .int .i64 (k : Int) ∧ v9 = .int .i64 (Qak l k : Int)) (fun _ v10 => n - (intOf v10).toNat)
     case atStart => exact ⟨0,Nat.zero_le _,rfl,by rw [Qa6]; rfl⟩
     case round =>
      obtain ⟨k,hk,rfl,rfl⟩ := hrel;by_cases hlt : k < n
      ·obtain ⟨b',off',y,hA,hy,hcell'⟩ := Qcu HRD.out (k := k) (by omega);injection hA with hA;injection hA with hA1 hA2;subst hA1 hA2;have hn := HNX.out k (by omega);rw [hy] at hn;have hn : Qak l (k + 1) = Qak l k + y.length + 1 := hn;have hsy := Qal y;have HB := Xi (show ((Qak l k : Int) + (y.length : Int)) + 1 = (Qak l (k + 1) : Int) by omega);have hb1 := HBL.out k;have hb2 := HBL.out (k + 1);have c1 : (Qak l k : Int) ≤ 20000 := by omega
       have c2 : (y.length : Int) ≤ 20000 := by omega
       have c3 : (k : Int) < (Qah l : Int) + 1 := by omega
       generalize Qak l k = bk at *;clear hy hn hb1 hb2;go_wp2_with fail
       go_round
       case rel => exact ⟨k + 1,by omega,by go_num,by rw [← HB.out]⟩
       case measure => simp [intOf]; omega
      ·obtain rfl : k = n := by omega
       have c1 : (Qak l k : Int) ≤ 20000 := by omega
       have c2 : (c : Int) ≤ 20000 := by omega
       go_wp2_with fail
       go_ret2
       exact ⟨rfl,HF.out⟩
    ·rw [if_neg (by omega)] at hs;obtain ⟨rfl,rfl⟩ := Prod.mk.inj hs;clear hs;go_enter func30,ntmps30;go_wp2_with fail;refine HL.out.mono ?_;rintro e w2 ⟨v,rfl,hstr,hf⟩;obtain ⟨A,cp,rfl,-,-,hrd⟩ := QgI hstr;obtain ⟨b,off,x,rfl,hx,hcell⟩ := Qcu hrd (k := n) (by omega);rw [hla] at hx;obtain rfl := Option.some.inj hx;have HCL := Xi hcl;rw [hll] at hrd ⊢;have hsx := Qal (cut l (Qak l n) (Qbj l n));rw [hcl] at hsx;have HF := Xi hf;have t3 : ¬ (Qah l + 1 ≤ n) := by omega
     have i0 : (0 : Int) ≤ (n : Int) := by omega
     have i1 : (n : Int) < ((Qah l + 1 : Nat) : Int) := by omega
     generalize cut l (Qak l n) (Qbj l n) = x at hcell hsx HCL;obtain ⟨xl,hxl⟩ : ∃ xl : Nat,xl = Qbj l n - Qak l n := ⟨_,rfl⟩;rw [← hxl] at hsx HCL;have hxlen : x.length = xl := HCL.out;have t5 : ((xl : Int) < c) := by omega
     clear hstr hrd hf hx hla hcl;go_wp2_with fail
     go_ret2
     exact ⟨rfl,HF.out⟩
   ·rw [if_neg (by omega)] at hs;obtain ⟨rfl,rfl⟩ := Prod.mk.inj hs;have t1 : (c < 0) := by omega
    clear hs;go_enter func30,ntmps30;go_wp2_with fail;refine HL.out.mono ?_;rintro e w2 ⟨v,rfl,hstr,hf⟩;obtain ⟨A,cp,rfl,-,-,hrd⟩ := QgI hstr;rw [hll] at hrd ⊢;have HF := Xi hf;have t3 : ¬ (Qah l + 1 ≤ n) := by omega
    clear hstr hrd hf hla hcl;go_wp2_with fail
    go_ret2
    exact ⟨rfl,HF.out⟩
  ·rw [if_neg (by omega)] at hs;obtain ⟨rfl,rfl⟩ := Prod.mk.inj hs;clear hs;go_enter func30,ntmps30;go_wp2_with fail;refine HL.out.mono ?_;rintro e w2 ⟨v,rfl,hstr,hf⟩;obtain ⟨A,cp,rfl,-,-,hrd⟩ := QgI hstr;rw [hll] at hrd ⊢;have HF := Xi hf;have t3 : (Qah l + 1 ≤ n) := by omega
   clear hstr hrd hf;go_wp2_with fail
   go_ret2
   exact ⟨rfl,HF.out⟩
 ·rw [if_neg (by omega)] at hs;obtain ⟨rfl,rfl⟩ := Prod.mk.inj hs;have t0 : (i < 0) := by omega
  clear hs h0;go_enter func30,ntmps30;go_wp2_with fail;refine HL.out.mono ?_;rintro e w2 ⟨v,rfl,hstr,hf⟩;have HF := Xi hf;clear hstr hf;go_wp2_with fail
  go_ret2
  exact ⟨rfl,HF.out⟩

end Go.Proofs.YtodcnbejnchmhaaGreatDoor.S3
