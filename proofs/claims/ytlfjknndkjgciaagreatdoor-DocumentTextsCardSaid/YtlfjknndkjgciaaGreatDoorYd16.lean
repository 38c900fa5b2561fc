import Derived.Test.YtlfjknndkjgciaaGreatDoorYd15
set_option maxRecDepth 100000
set_option maxHeartbeats 1600000
namespace Go.Proofs.YtlfjknndkjgciaaGreatDoor.S6
open _root_.Go.Proofs.Tryz
open Go.RowKit Go.Mem Go.Dfm

/-- what a call answers that answers a day and a kind -/
def QcE (k d q j : Int) (w : World) (e : Ending) (w' : World) : Prop := e = .returned (.tuple #[dayV k d q,.int .i64 j]) ∧ Fr w w' (fun _ => False)
theorem QjH {w : World} {b : Nat} {x y z : Value} {k : Int} (hb : Blk w b 47 #[x,y,z]) (tmps : Array Value) (h2 : tmps.getD 2 undef = .pointer (some ⟨b,0,none⟩)) (h3 : tmps.getD 3 undef = .int .i64 k) : (results f143 tmps).run Tryz.prog w = .ok (.tuple #[.agg #[x,y,z],.int .i64 k]) w := by
 have h2' : tmps[2]?.getD undef = .pointer (some ⟨b,0,none⟩) := by simpa using h2
 have h3' : tmps[3]?.getD undef = .int .i64 k := by simpa using h3
 have hL := Ql9 hb;simp [results,Tryz.results143,h2',h3',asAddr,hL]
theorem Qf6 (l : Bs) (hl : l.length ≤ 100000) (w : World) (hw : WOk w) (k d q j : Int) (h : QbX l = (k,d,q,j)) : Calls Tryz.prog 143 #[strV l] w (QcE k d q j w) := by
 have hf0 := Fr.new w day0 (fun _ => False);have HR := Xi (QiS l hl (w.alloc day0) (hw.fr hf0));have hb := Blk.made w 47 #[.int .i64 0,.int .i64 0,.int .i64 0];have HB := Xi hb;have HF := Xi hf0;unfold QbX at h;obtain ⟨⟨k1,d1,q1⟩,hx⟩ : ∃ x,Qdf l = x := ⟨_,rfl⟩;rw [hx] at h HR;simp only at h;have HT := Xi (fun W => Qdx k1 d1 q1 W);clear hb hf0 hw hx;by_cases hr : QaS k1 d1 q1 = true
 ·rw [hr] at h HT;rw [if_pos rfl] at h;injection h with e1 h;injection h with e2 h;injection h with e3 e4;subst e1 e2 e3 e4;clear hr;go_enter func143,ntmps143;go_wp2_with fail;refine HR.out.mono ?_;rintro e w2 ⟨rfl,hf2⟩;have HF2 := Xf HF hf2;have hb2 := hf2.blk HB.out (fun h => h);have HF3 := Xi (ff HF2.out (Fr.new w2 (dayC k1 d1 q1) (fun _ => False)));have HB3 := Xi ((Fr.new w2 (dayC k1 d1 q1) (fun _ => False)).blk hb2 (fun h => h));have HL3 := Xi (Blk.made w2 47 #[.int .i64 k1,.int .i64 d1,.int .i64 q1]);clear hf2 hb2;go_wp2_with fail;refine (HT.out _).mono ?_;rintro e w4 ⟨rfl,hf4⟩;have HF4 := Xf HF3 hf4;have hb4 := hf4.blk HB3.out (fun h => h);have hl4 := hf4.blk HL3.out (fun h => h);have c0 := Qaa hb4 0;have c1 := Qaa hb4 1;have c2 := Qaa hb4 2;have f0 := Qac hb4 0;have f1 := Qac hb4 1;have f2 := Qac hb4 2;have g0 := Qaa hl4 0;have g1 := Qaa hl4 1;have g2 := Qaa hl4 2;simp at c0 c1 c2 g0 g1 g2;have HB4 := Xi hb4;clear hb4 hl4 hf4;go_wp2_with fail;(try simp only [Exit.inBlock,Exit.then]);obtain ⟨hf9,hb9⟩ := Qb0 (.int .i64 k1) (.int .i64 d1) (.int .i64 q1) HF4.out HB4.out (Nat.le_refl _);exact bodyPost_ret (QjH hb9 _ rfl rfl) rfl ⟨rfl,hf9⟩
 ·simp only [Bool.not_eq_true] at hr;rw [hr] at h HT;rw [if_neg (by decide)] at h;injection h with e1 h;injection h with e2 h;injection h with e3 e4;subst e1 e2 e3 e4;clear hr;go_enter func143,ntmps143;go_wp2_with fail;refine HR.out.mono ?_;rintro e w2 ⟨rfl,hf2⟩;have HF2 := Xf HF hf2;have hb2 := hf2.blk HB.out (fun h => h);have HF3 := Xi (ff HF2.out (Fr.new w2 (dayC k1 d1 q1) (fun _ => False)));have HB3 := Xi ((Fr.new w2 (dayC k1 d1 q1) (fun _ => False)).blk hb2 (fun h => h));clear hf2 hb2;go_wp2_with fail;refine (HT.out _).mono ?_;rintro e w4 ⟨rfl,hf4⟩;have HF4 := Xf HF3 hf4;have hb4 := hf4.blk HB3.out (fun h => h);have c0 := Qaa hb4 0;have c1 := Qaa hb4 1;have c2 := Qaa hb4 2;have f0 := Qac hb4 0;have f1 := Qac hb4 1;have f2 := Qac hb4 2;simp at c0 c1 c2;have HB4 := Xi hb4;clear hb4 hf4;go_wp2_with fail;(try simp only [Exit.inBlock,Exit.then]);obtain ⟨hf9,hb9⟩ := Qb0 (.int .i64 0) (.int .i64 0) (.int .i64 0) HF4.out HB4.out (Nat.le_refl _);exact bodyPost_ret (QjH hb9 _ rfl rfl) rfl ⟨rfl,hf9⟩
def QeW (k d y m : Int) : Int := if k = 1 then Go.Civil.Qba y m else d
/-- what Of answers -/
def ofD (k d q y m : Int) : Int × Int :=
 if QaS k d q = true then
  if QcN y m (QeW k d y m) = 0 then
   (if k = 2 then QbY y m (QeW k d y m) + (q - (QbY y m (QeW k d y m) + 4) % 7 + 7) % 7
     else if k = 0 then QbY y m (QeW k d y m)
     else QbY y m (QeW k d y m) - ((QbY y m (QeW k d y m) + 4) % 7 - q + 7) % 7,0)
  else (0,6)
 else (0,1)
def OfR (n j : Int) (w : World) (e : Ending) (w' : World) : Prop := e = .returned (.tuple #[.int .i64 n,.int .i64 j]) ∧ Fr w w' (fun _ => False)
theorem daysE_is (y m d : Int) : QcN y m d = 0 ∨ QcN y m d = 6 := by unfold QcN; split <;> simp
theorem QcV (y m d : Int) : -4371587 ≤ QbY y m d ∧ QbY y m d ≤ 2932897 := by
 unfold QbY;split
 ·rename_i h;have := Go.Civil.Qnl h;omega
 ·omega
theorem daysK_no {y m d : Int} (h : QcN y m d ≠ 0) : QbY y m d = 0 := by
 unfold QcN at h;unfold QbY;split at h
 ·exact absurd rfl h
 ·rename_i h';rw [if_neg h']
theorem of_bad (k d q y m : Int) (w : World) (h : QaS k d q = false) : Calls Tryz.prog 144 #[dayV k d q,.int .i64 y,.int .i64 m] w (OfR 0 1 w) := by
 have HT := Xi (fun W => Qdx k d q W);rw [h] at HT;clear h;go_enter func144,ntmps144;go_wp2_with fail;refine (HT.out _).mono ?_;rintro e w2 ⟨rfl,hf2⟩;have HF2 := Xi (ff (Fr.new w _ _) hf2);clear hf2;go_wp2_with fail
 go_ret2
 exact ⟨rfl,HF2.out⟩
theorem Qgg (n : Int) (hn : QaD n) (W : World) (i : Nat) : Calls Tryz.prog 173 #[.int .i64 n] (W.drewN i) fun e w' => e = .returned (.int .i64 ((n + 4) % 7)) ∧ ∃ j,w' = W.drewN j :=
 Calls.quiet_of ((Week_any n (W.drewN i) hn).mono fun _ _ h => ⟨h.1,1,h.2⟩)
theorem Qej (a b : Int) (ha : 0 ≤ a ∧ a < 7) (hb : 0 ≤ b ∧ b < 7) (W : World) (i : Nat) : Calls Tryz.prog 172 #[.int .i64 a,.int .i64 b] (W.drewN i) fun e w' => e = .returned (.int .i64 ((b - a + 7) % 7)) ∧ ∃ j,w' = W.drewN j :=
 (Qlw a b (W.drewN i) ha hb).mono fun _ _ h => ⟨h.1,i,h.2.symm⟩
-- walks
theorem of_none (k d q y m : Int) (w : World) (hw : WOk w) (h : QaS k d q = true) (he : QcN y m (QeW k d y m) = 6) : Calls Tryz.prog 144 #[dayV k d q,.int .i64 y,.int .i64 m] w (OfR 0 6 w) := by
 have HT := Xi (fun W => Qdx k d q W);rw [h] at HT;have HB := Xi (Blk.made w 47 #[.int .i64 k,.int .i64 d,.int .i64 q]);have HG := Xi (fun (W : World) (f : Fr w W (fun _ => False)) => QeX k d q y m W (hw.fr f));rw [show (if k = 1 then Go.Civil.Qba y m else d) = QeW k d y m from rfl] at HG;have HD := Xi (fun (W : World) (f : Fr w W (fun _ => False)) => Qf8 y m (QeW k d y m) W (hw.fr f).lok);rw [he] at HD;rw [daysK_no (by rw [he]; decide)] at HD;clear he;generalize QeW k d y m = D at *;clear h hw;go_enter func144,ntmps144;go_wp2_with fail;refine (HT.out _).mono ?_;rintro e w2 ⟨rfl,hf2⟩;have hfr2 := ff (Fr.new w _ _) hf2;have HF2 := Xi hfr2;have hb2 := hf2.blk HB.out (fun h => h);have c0 := Qaa hb2 0;have c1 := Qaa hb2 1;have c2 := Qaa hb2 2;simp at c0 c1 c2;have HB2 := Xi hb2;clear hf2 hb2 hfr2;go_wp2_with fail;refine (HG.out _ HF2.out).mono ?_;rintro e w3 ⟨rfl,hf3⟩;have HF3 := Xf HF2 hf3;have HB3 := Xb hf3 HB2;clear hf3;go_wp2_with fail;refine (HD.out _ HF3.out).mono ?_;rintro e w4 ⟨rfl,hf4⟩;have HF4 := Xf HF3 hf4;have hb4 := hf4.blk HB3.out (fun h => h);have c0 := Qaa hb4 0;have c1 := Qaa hb4 1;have c2 := Qaa hb4 2;simp at c0 c1 c2;clear hf4 hb4;go_wp2_with fail
 go_ret2
 exact ⟨rfl,HF4.out⟩
theorem of_0 (d y m : Int) (w : World) (hw : WOk w) (h : QaS 0 d 0 = true) (he : QcN y m d = 0) : Calls Tryz.prog 144 #[dayV 0 d 0,.int .i64 y,.int .i64 m] w (OfR (QbY y m d) 0 w) := by
 have HT := Xi (fun W => Qdx 0 d 0 W);rw [h] at HT;have HB := Xi (Blk.made w 47 #[.int .i64 0,.int .i64 d,.int .i64 0]);have HG := Xi (fun (W : World) (f : Fr w W (fun _ => False)) => QeX 0 d 0 y m W (hw.fr f));rw [if_neg (by decide)] at HG;have HD := Xi (fun (W : World) (f : Fr w W (fun _ => False)) => Qf8 y m d W (hw.fr f).lok);rw [he] at HD;clear he;generalize QbY y m d = K at *;clear h hw;go_enter func144,ntmps144;go_wp2_with fail;refine (HT.out _).mono ?_;rintro e w2 ⟨rfl,hf2⟩;have hfr2 := ff (Fr.new w _ _) hf2;have HF2 := Xi hfr2;have hb2 := hf2.blk HB.out (fun h => h);have c0 := Qaa hb2 0;have c1 := Qaa hb2 1;have c2 := Qaa hb2 2;simp at c0 c1 c2;have HB2 := Xi hb2;clear hf2 hb2 hfr2;go_wp2_with fail;refine (HG.out _ HF2.out).mono ?_;rintro e w3 ⟨rfl,hf3⟩;have HF3 := Xf HF2 hf3;have HB3 := Xb hf3 HB2;clear hf3;go_wp2_with fail;refine (HD.out _ HF3.out).mono ?_;rintro e w4 ⟨rfl,hf4⟩;have HF4 := Xf HF3 hf4;have hb4 := hf4.blk HB3.out (fun h => h);have c0 := Qaa hb4 0;have c1 := Qaa hb4 1;have c2 := Qaa hb4 2;simp at c0 c1 c2;clear hf4 hb4;go_wp2_with fail
 go_ret2
 exact ⟨rfl,HF4.out⟩
theorem of_2 (d q y m : Int) (w : World) (hw : WOk w) (h : QaS 2 d q = true) (he : QcN y m d = 0) (hq : 0 ≤ q ∧ q < 7) : Calls Tryz.prog 144 #[dayV 2 d q,.int .i64 y,.int .i64 m] w (OfR (QbY y m d + (q - (QbY y m d + 4) % 7 + 7) % 7) 0 w) := by
 have HT := Xi (fun W => Qdx 2 d q W);rw [h] at HT;have HB := Xi (Blk.made w 47 #[.int .i64 2,.int .i64 d,.int .i64 q]);have HG := Xi (fun (W : World) (f : Fr w W (fun _ => False)) => QeX 2 d q y m W (hw.fr f));rw [if_neg (by decide)] at HG;have HD := Xi (fun (W : World) (f : Fr w W (fun _ => False)) => Qf8 y m d W (hw.fr f).lok);have hK := QcV y m d;have HWK := Xi (fun W i => Qgg (QbY y m d) (by unfold QaD; omega) W i);have HBE := Xi (fun W i => Qej ((QbY y m d + 4) % 7) q (by omega) (by omega) W i);rw [he] at HD;clear he;have hwk : 0 ≤ (QbY y m d + 4) % 7 ∧ (QbY y m d + 4) % 7 < 7 := by omega
 generalize (QbY y m d + 4) % 7 = W0 at *;generalize QbY y m d = K at *;have hbt : 0 ≤ (q - W0 + 7) % 7 ∧ (q - W0 + 7) % 7 < 7 := by omega
 generalize (q - W0 + 7) % 7 = V at *;clear h hw;go_enter func144,ntmps144;go_wp2_with fail;refine (HT.out _).mono ?_;rintro e w2 ⟨rfl,hf2⟩;have hfr2 := ff (Fr.new w _ _) hf2;have HF2 := Xi hfr2;have hb2 := hf2.blk HB.out (fun h => h);have c0 := Qaa hb2 0;have c1 := Qaa hb2 1;have c2 := Qaa hb2 2;simp at c0 c1 c2;have HB2 := Xi hb2;clear hf2 hb2 hfr2;go_wp2_with fail;refine (HG.out _ HF2.out).mono ?_;rintro e w3 ⟨rfl,hf3⟩;have HF3 := Xf HF2 hf3;have HB3 := Xb hf3 HB2;clear hf3;go_wp2_with fail;refine (HD.out _ HF3.out).mono ?_;rintro e w4 ⟨rfl,hf4⟩;have HF4 := Xf HF3 hf4;have hb4 := hf4.blk HB3.out (fun h => h);have c0 := Qaa hb4 0;have c1 := Qaa hb4 1;have c2 := Qaa hb4 2;simp at c0 c1 c2;clear hf4 hb4;go_wp2_with fail
 go_quiet ((first | with_reducible exact HWK.out _ _ | with_reducible exact HBE.out _ _))
 go_wp2_with fail
 go_ret2
 exact ⟨rfl,ff HF4.out (Fr.drewN _ _ _)⟩
theorem of_1 (q y m : Int) (w : World) (hw : WOk w) (h : QaS 1 0 q = true) (he : QcN y m (Go.Civil.Qba y m) = 0) (hq : 0 ≤ q ∧ q < 7) : Calls Tryz.prog 144 #[dayV 1 0 q,.int .i64 y,.int .i64 m] w (OfR (QbY y m (Go.Civil.Qba y m) - ((QbY y m (Go.Civil.Qba y m) + 4) % 7 - q + 7) % 7) 0 w) := by
 have HT := Xi (fun W => Qdx 1 0 q W);rw [h] at HT;have HB := Xi (Blk.made w 47 #[.int .i64 1,.int .i64 0,.int .i64 q]);have HG := Xi (fun (W : World) (f : Fr w W (fun _ => False)) => QeX 1 0 q y m W (hw.fr f));rw [if_pos rfl] at HG;have HD := Xi (fun (W : World) (f : Fr w W (fun _ => False)) => Qf8 y m (Go.Civil.Qba y m) W (hw.fr f).lok);have hK := QcV y m (Go.Civil.Qba y m);have HWK := Xi (fun W i => Qgg (QbY y m (Go.Civil.Qba y m)) (by unfold QaD; omega) W i);have HBE := Xi (fun W i => Qej q ((QbY y m (Go.Civil.Qba y m) + 4) % 7) (by omega) (by omega) W i);rw [he] at HD;clear he;have hwk : 0 ≤ (QbY y m (Go.Civil.Qba y m) + 4) % 7 ∧ (QbY y m (Go.Civil.Qba y m) + 4) % 7 < 7 := by omega
 generalize (QbY y m (Go.Civil.Qba y m) + 4) % 7 = W0 at *;generalize QbY y m (Go.Civil.Qba y m) = K at *;have hbt : 0 ≤ (W0 - q + 7) % 7 ∧ (W0 - q + 7) % 7 < 7 := by omega
 generalize (W0 - q + 7) % 7 = V at *;generalize Go.Civil.Qba y m = L at *;clear h hw;go_enter func144,ntmps144;go_wp2_with fail;refine (HT.out _).mono ?_;rintro e w2 ⟨rfl,hf2⟩;have hfr2 := ff (Fr.new w _ _) hf2;have HF2 := Xi hfr2;have hb2 := hf2.blk HB.out (fun h => h);have c0 := Qaa hb2 0;have c1 := Qaa hb2 1;have c2 := Qaa hb2 2;simp at c0 c1 c2;have HB2 := Xi hb2;clear hf2 hb2 hfr2;go_wp2_with fail;refine (HG.out _ HF2.out).mono ?_;rintro e w3 ⟨rfl,hf3⟩;have HF3 := Xf HF2 hf3;have HB3 := Xb hf3 HB2;clear hf3;go_wp2_with fail;refine (HD.out _ HF3.out).mono ?_;rintro e w4 ⟨rfl,hf4⟩;have HF4 := Xf HF3 hf4;have hb4 := hf4.blk HB3.out (fun h => h);have c0 := Qaa hb4 0;have c1 := Qaa hb4 1;have c2 := Qaa hb4 2;simp at c0 c1 c2;clear hf4 hb4;go_wp2_with fail
 go_quiet ((first | with_reducible exact HWK.out _ _ | with_reducible exact HBE.out _ _))
 go_wp2_with fail
 go_ret2
 exact ⟨rfl,ff HF4.out (Fr.drewN _ _ _)⟩
theorem of_3 (d q y m : Int) (w : World) (hw : WOk w) (h : QaS 3 d q = true) (he : QcN y m d = 0) (hq : 0 ≤ q ∧ q < 7) : Calls Tryz.prog 144 #[dayV 3 d q,.int .i64 y,.int .i64 m] w (OfR (QbY y m d - ((QbY y m d + 4) % 7 - q + 7) % 7) 0 w) := by
 have HT := Xi (fun W => Qdx 3 d q W);rw [h] at HT;have HB := Xi (Blk.made w 47 #[.int .i64 3,.int .i64 d,.int .i64 q]);have HG := Xi (fun (W : World) (f : Fr w W (fun _ => False)) => QeX 3 d q y m W (hw.fr f));rw [if_neg (by decide)] at HG;have HD := Xi (fun (W : World) (f : Fr w W (fun _ => False)) => Qf8 y m d W (hw.fr f).lok);have hK := QcV y m d;have HWK := Xi (fun W i => Qgg (QbY y m d) (by unfold QaD; omega) W i);have HBE := Xi (fun W i => Qej q ((QbY y m d + 4) % 7) (by omega) (by omega) W i);rw [he] at HD;clear he;have hwk : 0 ≤ (QbY y m d + 4) % 7 ∧ (QbY y m d + 4) % 7 < 7 := by omega
 generalize (QbY y m d + 4) % 7 = W0 at *;generalize QbY y m d = K at *;have hbt : 0 ≤ (W0 - q + 7) % 7 ∧ (W0 - q + 7) % 7 < 7 := by omega
 generalize (W0 - q + 7) % 7 = V at *;clear h hw;go_enter func144,ntmps144;go_wp2_with fail;refine (HT.out _).mono ?_;rintro e w2 ⟨rfl,hf2⟩;have hfr2 := ff (Fr.new w _ _) hf2;have HF2 := Xi hfr2;have hb2 := hf2.blk HB.out (fun h => h);have c0 := Qaa hb2 0;have c1 := Qaa hb2 1;have c2 := Qaa hb2 2;simp at c0 c1 c2;have HB2 := Xi hb2;clear hf2 hb2 hfr2;go_wp2_with fail;refine (HG.out _ HF2.out).mono ?_;rintro e w3 ⟨rfl,hf3⟩;have HF3 := Xf HF2 hf3;have HB3 := Xb hf3 HB2;clear hf3;go_wp2_with fail;refine (HD.out _ HF3.out).mono ?_;rintro e w4 ⟨rfl,hf4⟩;have HF4 := Xf HF3 hf4;have hb4 := hf4.blk HB3.out (fun h => h);have c0 := Qaa hb4 0;have c1 := Qaa hb4 1;have c2 := Qaa hb4 2;simp at c0 c1 c2;clear hf4 hb4;go_wp2_with fail
 go_quiet ((first | with_reducible exact HWK.out _ _ | with_reducible exact HBE.out _ _))
 go_wp2_with fail
 go_ret2
 exact ⟨rfl,ff HF4.out (Fr.drewN _ _ _)⟩
theorem Of_any (k d q y m : Int) (w : World) (hw : WOk w) (n j : Int) (h : ofD k d q y m = (n,j)) : Calls Tryz.prog 144 #[dayV k d q,.int .i64 y,.int .i64 m] w (OfR n j w) := by
 unfold ofD at h;by_cases hr : QaS k d q = true
 ·rw [if_pos hr] at h;by_cases he : QcN y m (QeW k d y m) = 0
  ·rw [if_pos he] at h;injection h with h1 h2;subst h2;rcases QaY.1 hr with ⟨rfl,a1,a2,rfl⟩ | ⟨rfl,rfl,a1,a2⟩ | ⟨hk,a1,a2,a3,a4⟩
   ·rw [if_neg (by decide),if_pos rfl] at h1;subst h1;exact of_0 d y m w hw hr he
   ·rw [if_neg (by decide),if_neg (by decide)] at h1;subst h1;exact of_1 q y m w hw hr he ⟨a1,a2⟩
   ·rcases hk with rfl | rfl
    ·rw [if_pos rfl] at h1;subst h1;exact of_2 d q y m w hw hr he ⟨a3,a4⟩
    ·rw [if_neg (by decide),if_neg (by decide)] at h1;subst h1;exact of_3 d q y m w hw hr he ⟨a3,a4⟩
  ·rw [if_neg he] at h;injection h with h1 h2;subst h1 h2;exact of_none k d q y m w hw hr ((daysE_is _ _ _).resolve_left he)
 ·rw [if_neg hr] at h;injection h with h1 h2;subst h1 h2;exact of_bad k d q y m w (by simpa using hr)
end Go.Proofs.YtlfjknndkjgciaaGreatDoor.S6
