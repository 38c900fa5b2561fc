import Derived.Test.YtodcnbejnchmhaaGreatDoorYc31
set_option maxHeartbeats 1000000
namespace Go.Proofs.YtodcnbejnchmhaaGreatDoor.S8
open _root_.Go.Proofs.Tryz
open Go.RowKit Go.Mem Go.Kwd

theorem QfO (c : UInt8) (w : World) : Calls Tryz.prog 84 #[.int .u8 (c.toNat : Int)] w fun e w' => e = .returned (.bool (Qbc c)) ∧ w = w' := by
 have HX := Xi (show Qbc c = (decide ((48 : Int) ≤ (c.toNat : Int)) && decide ((c.toNat : Int) ≤ 57)) by unfold Qbc; congr 1 <;> simp <;> omega);obtain ⟨x,hx⟩ : ∃ x,Qbc c = x := ⟨_,rfl⟩;rw [hx] at HX ⊢;generalize (c.toNat : Int) = n at *;clear hx;by_cases h1 : (48 : Int) ≤ n
 all_goals by_cases h2 : n ≤ 57
 all_goals
  go_enter func84,ntmps84;go_wp2_with fail;go_ret;exact ⟨by rw [HX.out]; simp [h1,h2],rfl⟩
theorem QdK (c : UInt8) (w : World) : Calls Tryz.prog 83 #[.int .u8 (c.toNat : Int)] w fun e w' => e = .returned (.bool (Qba c)) ∧ w = w' := by
 have HX := Xi (show Qba c = ((decide ((97 : Int) ≤ (c.toNat : Int)) && decide ((c.toNat : Int) ≤ 122)) || (decide ((65 : Int) ≤ (c.toNat : Int)) && decide ((c.toNat : Int) ≤ 90))) by
  unfold Qba;have h : ∀ k m : Nat,decide (k ≤ m) = decide ((k : Int) ≤ (m : Int)) := fun k m => by rw [Bool.eq_iff_iff]; simp
  rw [h,h,h,h];rfl)
 obtain ⟨x,hx⟩ : ∃ x,Qba c = x := ⟨_,rfl⟩;rw [hx] at HX ⊢;generalize (c.toNat : Int) = n at *;clear hx;by_cases h1 : (97 : Int) ≤ n
 all_goals by_cases h2 : n ≤ 122
 all_goals by_cases h3 : (65 : Int) ≤ n
 all_goals by_cases h4 : n ≤ 90
 all_goals first | omega | skip
 all_goals
  go_enter func83,ntmps83;go_wp2_with fail
  all_goals
   go_ret;exact ⟨by rw [HX.out]; simp [h1,h2,h3,h4],rfl⟩
/-- the law for two tests of a byte -/
theorem QmH (c : UInt8) : ((c.toNat : Int) == 47) = (c == 47) ∧ ((c.toNat : Int) == 43) = (c == 43) ∧ ((c.toNat : Int) == 95) = (c == 95) ∧ ((c.toNat : Int) == 45) = (c == 45) :=
 ⟨(QbC c 47).symm,(QbC c 43).symm,(QbC c 95).symm,(QbC c 45).symm⟩
theorem QhU (c : UInt8) : QcT c = (Qba c || (Qbc c || ((c.toNat : Int) == 45 || (c.toNat : Int) == 95))) := by
 obtain ⟨-,-,h1,h2⟩ := QmH c;rw [h1,h2,QcT];cases Qba c <;> cases Qbc c <;> cases (c == 45) <;> cases (c == 95) <;> rfl
theorem Qoh (b : Bool) (c : UInt8) : Qhz b c = (Qba c || (Qbc c || ((c.toNat : Int) == 43 || ((c.toNat : Int) == 95 || ((c.toNat : Int) == 45 && !b))))) := by
 obtain ⟨-,h3,h1,h2⟩ := QmH c;rw [h1,h2,h3,Qhz];cases Qba c <;> cases Qbc c <;> cases (c == 43) <;> cases (c == 95) <;> cases (c == 45) <;> cases b <;> rfl
theorem Qpf (l : Bs) (w : World) (hl : l.length ≤ 1000000) (x : Bool) (hx : Qc4 l = x) : Calls Tryz.prog 72 #[strV l] w fun e w' => e = .returned (.bool x) ∧ w = w' := by
 have hsz := Qal l;obtain ⟨s,hs⟩ : ∃ s : ByteArray,s = ⟨l.toArray⟩ := ⟨_,rfl⟩;rw [← hs] at hsz;have hsl : s.data.toList = l := by rw [hs]
 rw [show strV l = .string s by rw [hs]];by_cases h0 : s.size = 0
 ·have hf : x = false := by
   rw [← hx,← hsl,(Qic h0).2];rfl
  subst hf;have h0' : (s.size : Int) < 1 := by omega
  clear hx hs hsz hsl h0;go_enter func72,ntmps72;go_wp2_with fail;go_ret;exact ⟨rfl,rfl⟩
 ·by_cases h30 : l.length ≤ 30
  ·have hpos : 0 < s.size := by omega
   have h1 : (1 : Int) ≤ (s.size : Int) := by omega
   have h2 : (s.size : Int) ≤ 30 := by omega
   have HX := Xi (QmE s hpos);have hxx : QoN s.data.toList = x := by
    rw [← hx,hsl,Qc4,decide_eq_true h30];cases l with
    | nil => rfl
    | cons c r => simp
   rw [hxx] at HX;have HL := Xi (QdK s[0] w);have HF := Xi (show Qdd s[0] = (Qba s[0] || (s[0].toNat : Int) == 95) by unfold Qdd; rw [QbC]; rfl);clear hx hxx hs hsz hsl h0 h30 hl;generalize ha : Qba s[0] = a at HL HF;have HFA := Xi ha;clear ha;cases hb : (a || (s[0].toNat : Int) == 95) with
   | false =>
    have hf : x = false := by
     rw [Bool.eq_false_iff];intro e;have := (HX.out.1 e).1;rw [HF.out,hb] at this;cases this
    subst hf;simp only [Bool.or_eq_false_iff] at hb;obtain ⟨rfl,hb⟩ := hb;have hb2 : ((s[0].toNat : Int) != 95) = true := by unfold bne; rw [hb]; rfl
    go_enter func72,ntmps72;go_wp2_with (go_at_call 83; refine HL.out.mono ?_; rintro e w2 ⟨rfl,rfl⟩);go_ret;exact ⟨rfl,rfl⟩
   | true =>
    have HFT := Xi (show Qdd s[0] = true by rw [HF.out,hb]);clear HF HFA;have hcase : (a = true) ∨ (a = false ∧ ((s[0].toNat : Int) != 95) = false) := by
     cases a
     ·right;refine ⟨rfl,?_⟩;unfold bne;rw [show ((s[0].toNat : Int) == 95) = true by simpa using hb];rfl
     ·exact .inl rfl
    clear hb;rcases hcase with rfl | ⟨rfl,hb⟩
    ·go_enter func72,ntmps72;go_wp2_with (go_at_call 83; refine HL.out.mono ?_; rintro e w2 ⟨rfl,rfl⟩);clear HL
     go_loopg [3] s.size (fun g v3 wr => ∃ k : Nat,k ≤ s.size ∧ 1 ≤ k ∧ k + g = s.size + 1 ∧ v3 = .int .i64 (k : Int) ∧ (∀ j (h : j < s.size),j < k → QcT s[j] = true) ∧ w = wr)
     case atStart => exact ⟨1,by omega,by omega,by omega,rfl,fun j h hj => (by have e : j = 0 := (by omega); subst e; exact QfU _ HFT.out),rfl⟩
     case round =>
      obtain ⟨k,hk0,hk1,hk,rfl,hall,rfl⟩ := hrel;have HA := Xi hall;clear hall;by_cases hlt : k < s.size
      ·have i0 : (0 : Int) ≤ (k : Int) := by omega
       have i1 : (k : Int) < (s.size : Int) := by omega
       have HL := Xi (QdK s[k] w);have HD := Xi (QfO s[k] w);have HR := Xi (QhU s[k]);have HBAD := Xi (show QcT s[k] = false → x = false from fun hb => by
        rw [Bool.eq_false_iff];intro e;have := (HX.out.1 e).2 k hlt;rw [hb] at this;cases this)
       generalize Qba s[k] = a at HL HR;generalize Qbc s[k] = d at HD HR;obtain ⟨y,hy⟩ : ∃ y,QcT s[k] = y := ⟨_,rfl⟩;rw [hy] at HR HBAD;have HY := Xi hy;clear hy;obtain ⟨p,hp⟩ : ∃ p,((s[k].toNat : Int) == 45) = p := ⟨_,rfl⟩;obtain ⟨q,hq⟩ : ∃ q,((s[k].toNat : Int) == 95) = q := ⟨_,rfl⟩;rw [hp,hq] at HR;have hp2 : ((s[k].toNat : Int) != 45) = !p := by unfold bne; rw [hp]
       have hq2 : ((s[k].toNat : Int) != 95) = !q := by unfold bne; rw [hq]
       have hcs : (y = true ∧ (a = true ∨ (a = false ∧ d = true) ∨ (a = false ∧ d = false ∧ p = true) ∨ (a = false ∧ d = false ∧ p = false ∧ q = true))) ∨ (y = false ∧ a = false ∧ d = false ∧ p = false ∧ q = false) := by
        have := HR.out
        revert this
        cases a <;> cases d <;> cases p <;> cases q <;> simp
       rcases hcs with ⟨rfl,hcs⟩ | ⟨rfl,rfl,rfl,rfl,rfl⟩
       ·rcases hcs with rfl | ⟨rfl,rfl⟩ | ⟨rfl,rfl,rfl⟩ | ⟨rfl,rfl,rfl,rfl⟩
        all_goals
         try simp only [Bool.not_true,Bool.not_false] at hp2 hq2
         go_wp2_with (first | (go_at_call 83; refine HL.out.mono ?_; rintro e w2 ⟨rfl,rfl⟩) | (go_at_call 84; refine HD.out.mono ?_; rintro e w2 ⟨rfl,rfl⟩))
         go_roundg (s.size - k)
         case measure => omega
         case rel => exact ⟨k + 1,by omega,by omega,by omega,by go_num,fun j h hj => (by
          by_cases e : j = k
          ·subst e; exact HY.out
          ·exact HA.out j h (by omega)),rfl⟩
       ·have hf := HBAD.out rfl;subst hf;simp only [Bool.not_false] at hp2 hq2;go_wp2_with (first | (go_at_call 83; refine HL.out.mono ?_; rintro e w2 ⟨rfl,rfl⟩) | (go_at_call 84; refine HD.out.mono ?_; rintro e w2 ⟨rfl,rfl⟩));go_ret;exact ⟨rfl,rfl⟩
      ·have hf : x = true := HX.out.2 ⟨HFT.out,fun j h => HA.out j h (by omega)⟩;subst hf;have hk' : k = s.size := by omega
       subst hk';go_wp2_with fail;go_ret;exact ⟨rfl,rfl⟩
    ·go_enter func72,ntmps72;go_wp2_with (go_at_call 83; refine HL.out.mono ?_; rintro e w2 ⟨rfl,rfl⟩);clear HL
     go_loopg [3] s.size (fun g v3 wr => ∃ k : Nat,k ≤ s.size ∧ 1 ≤ k ∧ k + g = s.size + 1 ∧ v3 = .int .i64 (k : Int) ∧ (∀ j (h : j < s.size),j < k → QcT s[j] = true) ∧ w = wr)
     case atStart => exact ⟨1,by omega,by omega,by omega,rfl,fun j h hj => (by have e : j = 0 := (by omega); subst e; exact QfU _ HFT.out),rfl⟩
     case round =>
      obtain ⟨k,hk0,hk1,hk,rfl,hall,rfl⟩ := hrel;have HA := Xi hall;clear hall;by_cases hlt : k < s.size
      ·have i0 : (0 : Int) ≤ (k : Int) := by omega
       have i1 : (k : Int) < (s.size : Int) := by omega
       have HL := Xi (QdK s[k] w);have HD := Xi (QfO s[k] w);have HR := Xi (QhU s[k]);have HBAD := Xi (show QcT s[k] = false → x = false from fun hb => by
        rw [Bool.eq_false_iff];intro e;have := (HX.out.1 e).2 k hlt;rw [hb] at this;cases this)
       generalize Qba s[k] = a at HL HR;generalize Qbc s[k] = d at HD HR;obtain ⟨y,hy⟩ : ∃ y,QcT s[k] = y := ⟨_,rfl⟩;rw [hy] at HR HBAD;have HY := Xi hy;clear hy;obtain ⟨p,hp⟩ : ∃ p,((s[k].toNat : Int) == 45) = p := ⟨_,rfl⟩;obtain ⟨q,hq⟩ : ∃ q,((s[k].toNat : Int) == 95) = q := ⟨_,rfl⟩;rw [hp,hq] at HR;have hp2 : ((s[k].toNat : Int) != 45) = !p := by unfold bne; rw [hp]
       have hq2 : ((s[k].toNat : Int) != 95) = !q := by unfold bne; rw [hq]
       have hcs : (y = true ∧ (a = true ∨ (a = false ∧ d = true) ∨ (a = false ∧ d = false ∧ p = true) ∨ (a = false ∧ d = false ∧ p = false ∧ q = true))) ∨ (y = false ∧ a = false ∧ d = false ∧ p = false ∧ q = false) := by
        have := HR.out
        revert this
        cases a <;> cases d <;> cases p <;> cases q <;> simp
       rcases hcs with ⟨rfl,hcs⟩ | ⟨rfl,rfl,rfl,rfl,rfl⟩
       ·rcases hcs with rfl | ⟨rfl,rfl⟩ | ⟨rfl,rfl,rfl⟩ | ⟨rfl,rfl,rfl,rfl⟩
        all_goals
         try simp only [Bool.not_true,Bool.not_false] at hp2 hq2
         go_wp2_with (first | (go_at_call 83; refine HL.out.mono ?_; rintro e w2 ⟨rfl,rfl⟩) | (go_at_call 84; refine HD.out.mono ?_; rintro e w2 ⟨rfl,rfl⟩))
         go_roundg (s.size - k)
         case measure => omega
         case rel => exact ⟨k + 1,by omega,by omega,by omega,by go_num,fun j h hj => (by
          by_cases e : j = k
          ·subst e; exact HY.out
          ·exact HA.out j h (by omega)),rfl⟩
       ·have hf := HBAD.out rfl;subst hf;simp only [Bool.not_false] at hp2 hq2;go_wp2_with (first | (go_at_call 83; refine HL.out.mono ?_; rintro e w2 ⟨rfl,rfl⟩) | (go_at_call 84; refine HD.out.mono ?_; rintro e w2 ⟨rfl,rfl⟩));go_ret;exact ⟨rfl,rfl⟩
      ·have hf : x = true := HX.out.2 ⟨HFT.out,fun j h => HA.out j h (by omega)⟩;subst hf;have hk' : k = s.size := by omega
       subst hk';go_wp2_with fail;go_ret;exact ⟨rfl,rfl⟩
  ·have hf : x = false := by
    rw [← hx,Qc4,decide_eq_false h30];simp
   subst hf;have h1 : (1 : Int) ≤ (s.size : Int) := by omega
   have h' : (30 : Int) < (s.size : Int) := by omega
   clear hx hs hsz hsl h0 h30;go_enter func72,ntmps72;go_wp2_with fail;go_ret;exact ⟨rfl,rfl⟩
theorem Qog (b : Bool) (c : UInt8) (r : Bs) : Qfa b (c :: r) = if c = 47 then !b && Qfa true r else Qhz b c && Qfa false r := rfl
theorem Qpc (l : Bs) (w : World) (hl : l.length ≤ 1000000) (x : Bool) (hx : Qcd l = x) : Calls Tryz.prog 49 #[strV l] w fun e w' => e = .returned (.bool x) ∧ w = w' := by
 have hsz := Qal l;obtain ⟨s,hs⟩ : ∃ s : ByteArray,s = ⟨l.toArray⟩ := ⟨_,rfl⟩;rw [← hs] at hsz;have hsl : s.data.toList = l := by rw [hs]
 rw [show strV l = .string s by rw [hs]];by_cases h0 : s.size = 0
 ·have hf : x = false := by
   rw [← hx,← hsl,(Qic h0).2];rfl
  subst hf;have h0' : (s.size : Int) < 1 := by omega
  clear hx hs hsz hsl h0;go_enter func49,ntmps49;go_wp2_with fail;go_ret;exact ⟨rfl,rfl⟩
 ·by_cases h30 : l.length ≤ 30
  ·have hpos : 0 < s.size := by omega
   have h1 : (1 : Int) ≤ (s.size : Int) := by omega
   have h2 : (s.size : Int) ≤ 30 := by omega
   have hxx : Qfa true s.data.toList = x := by
    rw [← hx,hsl,Qcd,decide_eq_true h30,decide_eq_true (by omega)];simp
   have HX := Xi hxx;clear hx hxx hs hsz hsl h0 h30 hl;go_enter func49,ntmps49;go_wp2_with fail
   go_loopg [3,4,5] s.size (fun g v3 v4 _ wr => ∃ (k : Nat) (b : Bool),k + g = s.size ∧ v4 = .int .i64 (k : Int) ∧ v3 = .bool b ∧ Qfa b (s.data.toList.drop k) = x ∧ w = wr)
   case atStart => exact ⟨0,true,by omega,rfl,rfl,HX.out,rfl⟩
   case round =>
    obtain ⟨k,b,hk,rfl,rfl,hz,rfl⟩ := hrel;by_cases hlt : k < s.size
    ·have i0 : (0 : Int) ≤ (k : Int) := by omega
     have i1 : (k : Int) < (s.size : Int) := by omega
     rw [List.drop_eq_getElem_cons (by rw [Qag]; exact hlt),show s.data.toList[k]'(by rw [Qag]; exact hlt) = s[k] from rfl,Qog] at hz;by_cases h47 : s[k] = 47
     ·have e47 : ((s[k].toNat : Int) == 47) = true := by rw [h47]; rfl
      rw [if_pos h47] at hz;have HZ := Xi hz;clear hz h47;cases b
      ·go_wp2_with fail
       go_roundg (s.size - (k + 1))
       case measure => omega
       case rel => exact ⟨k + 1,true,by omega,by go_num,rfl,by have := HZ.out; simpa using this,rfl⟩
      ·have hf : x = false := by have := HZ.out; simpa using this.symm
       subst hf;go_wp2_with fail;go_ret;exact ⟨rfl,rfl⟩
     ·have e47 : ((s[k].toNat : Int) == 47) = false := Qeq (k := 47) h47 rfl;rw [if_neg h47] at hz;have HL := Xi (QdK s[k] w);have HD := Xi (QfO s[k] w);have HR := Xi (Qoh b s[k]);generalize Qba s[k] = a at HL HR;generalize Qbc s[k] = d at HD HR;obtain ⟨y,hy⟩ : ∃ y,Qhz b s[k] = y := ⟨_,rfl⟩;rw [hy] at HR hz;have HZ := Xi hz;clear hy hz h47;obtain ⟨p,hp⟩ : ∃ p,((s[k].toNat : Int) == 45) = p := ⟨_,rfl⟩;obtain ⟨q,hq⟩ : ∃ q,((s[k].toNat : Int) == 95) = q := ⟨_,rfl⟩;obtain ⟨r,hr⟩ : ∃ r,((s[k].toNat : Int) == 43) = r := ⟨_,rfl⟩;rw [hp,hq,hr] at HR;have hp2 : ((s[k].toNat : Int) != 45) = !p := by unfold bne; rw [hp]
      have hq2 : ((s[k].toNat : Int) != 95) = !q := by unfold bne; rw [hq]
      have hr2 : ((s[k].toNat : Int) != 43) = !r := by unfold bne; rw [hr]
      have hcs : (y = true ∧ (a = true ∨ (a = false ∧ d = true) ∨ (a = false ∧ d = false ∧ r = true) ∨ (a = false ∧ d = false ∧ r = false ∧ q = true) ∨ (a = false ∧ d = false ∧ r = false ∧ q = false ∧ p = true ∧ b = false))) ∨
        (y = false ∧ a = false ∧ d = false ∧ r = false ∧ q = false ∧ (p = false ∨ (p = true ∧ b = true))) := by
       have := HR.out
       revert this
       cases a <;> cases d <;> cases r <;> cases q <;> cases p <;> cases b <;> simp
      clear HR;rcases hcs with ⟨rfl,hcs⟩ | ⟨rfl,rfl,rfl,rfl,rfl,hcs⟩
      ·have HZ := Xi (show Qfa false (s.data.toList.drop (k + 1)) = x by have := HZ.out; simpa using this);rcases hcs with rfl | ⟨rfl,rfl⟩ | ⟨rfl,rfl,rfl⟩ | ⟨rfl,rfl,rfl,rfl⟩ | ⟨rfl,rfl,rfl,rfl,rfl,rfl⟩
       all_goals
        try simp only [Bool.not_true,Bool.not_false] at hp2 hq2 hr2
        go_wp2_with (first | (go_at_call 83; refine HL.out.mono ?_; rintro e w2 ⟨rfl,rfl⟩) | (go_at_call 84; refine HD.out.mono ?_; rintro e w2 ⟨rfl,rfl⟩))
        go_roundg (s.size - (k + 1))
        case measure => omega
        case rel => exact ⟨k + 1,false,by omega,by go_num,rfl,HZ.out,rfl⟩
      ·have hf : x = false := by have := HZ.out; simpa using this.symm
       subst hf;rcases hcs with rfl | ⟨rfl,rfl⟩
       all_goals
        try simp only [Bool.not_true,Bool.not_false] at hp2 hq2 hr2
        go_wp2_with (first | (go_at_call 83; refine HL.out.mono ?_; rintro e w2 ⟨rfl,rfl⟩) | (go_at_call 84; refine HD.out.mono ?_; rintro e w2 ⟨rfl,rfl⟩));go_ret;exact ⟨rfl,rfl⟩
    ·have hk' : k = s.size := by omega
     subst hk';rw [List.drop_eq_nil_of_le (by rw [Qag]; omega)] at hz;have hf : (!b) = x := hz;subst hf;go_wp2_with fail;go_ret;exact ⟨rfl,rfl⟩
  ·have hf : x = false := by
    rw [← hx,Qcd,decide_eq_false h30];simp
   subst hf;have h1 : (1 : Int) ≤ (s.size : Int) := by omega
   have h' : (30 : Int) < (s.size : Int) := by omega
   clear hx hs hsz hsl h0 h30;go_enter func49,ntmps49;go_wp2_with fail;go_ret;exact ⟨rfl,rfl⟩
end Go.Proofs.YtodcnbejnchmhaaGreatDoor.S8
