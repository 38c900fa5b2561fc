import Derived.Test.YtodcnbejnchmhaaGreatDoorYc26
import Derived.Deep.RegionWith
set_option maxHeartbeats 3200000
namespace Go.Proofs.YtodcnbejnchmhaaGreatDoor.S6
open _root_.Go.Proofs.Tryz
open Go.RowKit Go.Mem Go.Dfm

theorem ext_list (s : ByteArray) (a k : Nat) : (s.extract a (a + k)).toList = (s.data.toList.drop a).take k := by
 rw [ByteArray.toList_eq,Qe7]
theorem QbS (s : ByteArray) (a b : Nat) (p l : Bs) (hab : a ≤ b) (hl : (s.data.toList.drop a).take (b - a) = l) : ((s.extract a b).toList == p) = (l == p) := by
 have := ext_list s a (b - a);rw [show a + (b - a) = b by omega] at this;rw [this,hl]
theorem QbQ (s : ByteArray) (a b : Nat) (l : Bs) (hab : a ≤ b) (hl : (s.data.toList.drop a).take (b - a) = l) : Value.string (s.extract a b) = strV l := by
 have := Qe7 s a (b - a);rw [show a + (b - a) = b by omega] at this;rw [this,hl]
theorem Qbx (s : ByteArray) (a : Nat) (l : Bs) (hl : s.data.toList.drop a = l) : Value.string (s.extract a s.size) = strV l := by rw [Qix hl]
theorem QaY {w : World} {b : Nat} {x y z : Value} {k : Int} (hb : Blk w b 61 #[x,y,z]) (tmps : Array Value) (h2 : tmps.getD 2 undef = .pointer (some ⟨b,0,none⟩)) (h3 : tmps.getD 3 undef = .int .i64 k) : (results f79 tmps).run Tryz.prog w = .ok (.tuple #[.agg #[x,y,z],.int .i64 k]) w := by
 have h2' : tmps[2]?.getD undef = .pointer (some ⟨b,0,none⟩) := by simpa using h2
 have h3' : tmps[3]?.getD undef = .int .i64 k := by simpa using h3
 have hL := Qmk hb;simp [results,Tryz.results79,h2',h3',asAddr,hL]
theorem QaZ (s : ByteArray) (a b : Nat) (l : Bs) (hv : Value.string (s.extract a b) = strV l) (z : Int) (hz : QaT l = z) (W : World) : Calls Tryz.prog 115 #[.string (s.extract a b)] W fun e w' => e = .returned (.int .i64 z) ∧ Fr W w' (fun _ => False) := by
 rw [hv,← hz];exact QoX l W
theorem Qbm (s : ByteArray) (a b : Nat) (l : Bs) (hv : Value.string (s.extract a b) = strV l) (hl : l.length ≤ 999980) (z : Int) (hz : Qa2 l = z) (W : World) : Calls Tryz.prog 114 #[.string (s.extract a b)] W fun e w' => e = .returned (.int .i64 z) ∧ W = w' := by
 rw [hv,← hz];have := QaI ⟨l.toArray⟩ (by rw [Qal]; exact hl) W;exact this

theorem rp_num (s : ByteArray) (hs : s.size ≤ 999980) (w : World) (n : Int) (h0 : Qa2 s.data.toList = n) (hn : 0 < n) : Calls Tryz.prog 79 #[.string s] w (Qcq 0 n 0 0 w) := by
 have hl := Qag s;have HN := Xi (fun W => QaI s hs W);rw [h0] at HN;have hb := Blk.made w 61 #[.int .i64 0,.int .i64 0,.int .i64 0];have HB1 := Xi hb;have HF1 := Xi (Fr.new w day0 (fun _ => False));clear hb hl h0;go_enter func79,ntmps79;go_wp2_with fail;refine (HN.out _).mono ?_;rintro e w9 ⟨rfl,rfl⟩;go_wp2_with fail;(try simp only [Exit.inBlock,Exit.then]);exact bodyPost_ret (QaY (Blk.made _ _ _) _ rfl rfl) rfl ⟨rfl,Fr.new _ _ _⟩
theorem rp_last (s : ByteArray) (hs : s.size ≤ 999980) (w : World) (h0 : Qa2 s.data.toList = 0) (h7 : s.size = 7) (h4 : s.data.toList.take 4 = Qa4) (z4 : Int) (hz4 : QaT (s.data.toList.drop 4) = z4) (hz : 0 ≤ z4) : Calls Tryz.prog 79 #[.string s] w (Qcq 1 0 z4 0 w) := by
 have hl := Qag s;have t7 : ((s.size : Int) == 7) = true := beq_iff_eq.2 (by omega);have t4 : ((s.extract 0 4).toList == [108,97,115,116]) = true := by rw [QbS s 0 4 _ _ (by omega) rfl]; exact beq_iff_eq.2 h4
 have g4 : (4 : Int) ≤ (s.size : Int) := by omega
 have H4 := Xi (fun W => QaZ s 4 s.size _ (Qbx s 4 _ rfl) z4 hz4 W);have HN := Xi (fun W => QaI s hs W);rw [h0] at HN;have hb := Blk.made w 61 #[.int .i64 0,.int .i64 0,.int .i64 0];have HB1 := Xi hb;have HF1 := Xi (Fr.new w day0 (fun _ => False));clear hb hl h0 h7 h4 hz4;go_enter func79,ntmps79;go_wp2_with fail;refine (HN.out _).mono ?_;rintro e w9 ⟨rfl,rfl⟩;go_wp2_with fail;refine (H4.out _).mono ?_;rintro e w2 ⟨rfl,hf2⟩;have HF2 := Xf HF1 hf2;have hb2 := hf2.blk HB1.out (fun h => h);have c0 := Qaa hb2 0;have c1 := Qaa hb2 1;have c2 := Qaa hb2 2;have f0 := Qac hb2 0;have f1 := Qac hb2 1;have f2 := Qac hb2 2;simp at c0 c1 c2;have HB2 := Xi hb2;clear hf2 hb2;go_wp2_with fail;refine (H4.out _).mono ?_;rintro e w3 ⟨rfl,hf3⟩;have HF3 := Xf HF2 hf3;have hb3 := hf3.blk HB2.out (fun h => h);have c0 := Qaa hb3 0;have c1 := Qaa hb3 1;have c2 := Qaa hb3 2;have f0 := Qac hb3 0;have f1 := Qac hb3 1;have f2 := Qac hb3 2;simp at c0 c1 c2;have HB3 := Xi hb3;clear hf3 hb3;go_wp2_with fail;(try simp only [Exit.inBlock,Exit.then]);obtain ⟨hf9,hb9⟩ := QbJ (.int .i64 1) (.int .i64 0) (.int .i64 z4) HF3.out HB3.out (Nat.le_refl _);exact bodyPost_ret (QaY hb9 _ rfl rfl) rfl ⟨rfl,hf9⟩
theorem rp_aa (s : ByteArray) (hs : s.size ≤ 999980) (w : World) (h0 : Qa2 s.data.toList = 0) (_h7 : s.size ≠ 7) (h5 : ¬ 5 < s.size) : Calls Tryz.prog 79 #[.string s] w (Qcq 0 0 0 6 w) := by
 have hl := Qag s;have t7 : ((s.size : Int) == 7) = false := beq_eq_false_iff_ne.2 (by omega);have g5 : (s.size : Int) ≤ 5 := by omega
 have HN := Xi (fun W => QaI s hs W);rw [h0] at HN;have hb := Blk.made w 61 #[.int .i64 0,.int .i64 0,.int .i64 0];have HB1 := Xi hb;have HF1 := Xi (Fr.new w day0 (fun _ => False));clear hb hl h0 _h7 h5;go_enter func79,ntmps79;go_wp2_with fail;refine (HN.out _).mono ?_;rintro e w9 ⟨rfl,rfl⟩;go_wp2_with fail;(try simp only [Exit.inBlock,Exit.then]);exact bodyPost_ret (QaY (Blk.made _ _ _) _ rfl rfl) rfl ⟨rfl,Fr.new _ _ _⟩
theorem rp_ab (s : ByteArray) (hs : s.size ≤ 999980) (w : World) (h0 : Qa2 s.data.toList = 0) (h7 : s.size ≠ 7) (h5 : 5 < s.size) (z3 : Int) (hz3 : QaT (s.data.toList.take 3) = z3) (q3 : z3 < 0) : Calls Tryz.prog 79 #[.string s] w (Qcq 0 0 0 6 w) := by
 have hl := Qag s;have t7 : ((s.size : Int) == 7) = false := beq_eq_false_iff_ne.2 (by omega);have g5 : (5 : Int) < (s.size : Int) := by omega
 have g3 : (3 : Int) ≤ (s.size : Int) := by omega
 have g6 : (5 : Int) ≤ (s.size : Int) := by omega
 have H3 := Xi (fun W => QaZ s 0 3 _ (QbQ s 0 3 _ (by omega) rfl) z3 hz3 W);have HN := Xi (fun W => QaI s hs W);rw [h0] at HN;have hb := Blk.made w 61 #[.int .i64 0,.int .i64 0,.int .i64 0];have HB1 := Xi hb;have HF1 := Xi (Fr.new w day0 (fun _ => False));clear hb hl h0 h7 h5 hz3;go_enter func79,ntmps79;go_wp2_with fail;refine (HN.out _).mono ?_;rintro e w9 ⟨rfl,rfl⟩;go_wp2_with fail;refine (H3.out _).mono ?_;rintro e w2 ⟨rfl,hf2⟩;have HF2 := Xf HF1 hf2;have hb2 := hf2.blk HB1.out (fun h => h);have c0 := Qaa hb2 0;have c1 := Qaa hb2 1;have c2 := Qaa hb2 2;have f0 := Qac hb2 0;have f1 := Qac hb2 1;have f2 := Qac hb2 2;simp at c0 c1 c2;have HB2 := Xi hb2;clear hf2 hb2;go_wp2_with fail;(try simp only [Exit.inBlock,Exit.then]);obtain ⟨hf9,hb9⟩ := QbJ (.int .i64 0) (.int .i64 0) (.int .i64 0) HF2.out HB2.out (Nat.le_refl _);exact bodyPost_ret (QaY hb9 _ rfl rfl) rfl ⟨rfl,hf9⟩
theorem rp_ac (s : ByteArray) (hs : s.size ≤ 999980) (w : World) (h0 : Qa2 s.data.toList = 0) (h7 : s.size ≠ 7) (h5 : 5 < s.size) (z3 : Int) (hz3 : QaT (s.data.toList.take 3) = z3) (q3 : 0 ≤ z3) (n5 : Int) (hn5 : Qa2 (s.data.toList.drop 5) = n5) (q5 : n5 ≤ 0) : Calls Tryz.prog 79 #[.string s] w (Qcq 0 0 0 6 w) := by
 have hl := Qag s;have t7 : ((s.size : Int) == 7) = false := beq_eq_false_iff_ne.2 (by omega);have g5 : (5 : Int) < (s.size : Int) := by omega
 have g3 : (3 : Int) ≤ (s.size : Int) := by omega
 have g6 : (5 : Int) ≤ (s.size : Int) := by omega
 have H3 := Xi (fun W => QaZ s 0 3 _ (QbQ s 0 3 _ (by omega) rfl) z3 hz3 W);have H5 := Xi (fun W => Qbm s 5 s.size _ (Qbx s 5 _ rfl) (by rw [List.length_drop]; omega) n5 hn5 W);have HN := Xi (fun W => QaI s hs W);rw [h0] at HN;have hb := Blk.made w 61 #[.int .i64 0,.int .i64 0,.int .i64 0];have HB1 := Xi hb;have HF1 := Xi (Fr.new w day0 (fun _ => False));clear hb hl h0 h7 h5 hz3 hn5;go_enter func79,ntmps79;go_wp2_with fail;refine (HN.out _).mono ?_;rintro e w9 ⟨rfl,rfl⟩;go_wp2_with fail;refine (H3.out _).mono ?_;rintro e w2 ⟨rfl,hf2⟩;have HF2 := Xf HF1 hf2;have hb2 := hf2.blk HB1.out (fun h => h);have c0 := Qaa hb2 0;have c1 := Qaa hb2 1;have c2 := Qaa hb2 2;have f0 := Qac hb2 0;have f1 := Qac hb2 1;have f2 := Qac hb2 2;simp at c0 c1 c2;have HB2 := Xi hb2;clear hf2 hb2;go_wp2_with fail;refine (H5.out _).mono ?_;rintro e w9 ⟨rfl,rfl⟩;go_wp2_with fail;(try simp only [Exit.inBlock,Exit.then]);obtain ⟨hf9,hb9⟩ := QbJ (.int .i64 0) (.int .i64 0) (.int .i64 0) HF2.out HB2.out (Nat.le_refl _);exact bodyPost_ret (QaY hb9 _ rfl rfl) rfl ⟨rfl,hf9⟩
theorem rp_ad (s : ByteArray) (hs : s.size ≤ 999980) (w : World) (h0 : Qa2 s.data.toList = 0) (h7 : s.size ≠ 7) (h5 : 5 < s.size) (z3 : Int) (hz3 : QaT (s.data.toList.take 3) = z3) (q3 : 0 ≤ z3) (n5 : Int) (hn5 : Qa2 (s.data.toList.drop 5) = n5) (q5 : 0 < n5) (m3 : (s.data.toList.drop 3).take 2 = geL) : Calls Tryz.prog 79 #[.string s] w (Qcq 2 n5 z3 0 w) := by
 have hl := Qag s;have t7 : ((s.size : Int) == 7) = false := beq_eq_false_iff_ne.2 (by omega);have g5 : (5 : Int) < (s.size : Int) := by omega
 have g3 : (3 : Int) ≤ (s.size : Int) := by omega
 have g6 : (5 : Int) ≤ (s.size : Int) := by omega
 have H3 := Xi (fun W => QaZ s 0 3 _ (QbQ s 0 3 _ (by omega) rfl) z3 hz3 W);have H5 := Xi (fun W => Qbm s 5 s.size _ (Qbx s 5 _ rfl) (by rw [List.length_drop]; omega) n5 hn5 W);have tg : ((s.extract 3 5).toList == [62,61]) = true := by rw [QbS s 3 5 _ _ (by omega) rfl]; exact beq_iff_eq.2 m3
 have HN := Xi (fun W => QaI s hs W);rw [h0] at HN;have hb := Blk.made w 61 #[.int .i64 0,.int .i64 0,.int .i64 0];have HB1 := Xi hb;have HF1 := Xi (Fr.new w day0 (fun _ => False));clear hb hl h0 h7 h5 hz3 hn5 m3;go_enter func79,ntmps79;go_wp2_with fail;refine (HN.out _).mono ?_;rintro e w9 ⟨rfl,rfl⟩;go_wp2_with fail;refine (H3.out _).mono ?_;rintro e w2 ⟨rfl,hf2⟩;have HF2 := Xf HF1 hf2;have hb2 := hf2.blk HB1.out (fun h => h);have c0 := Qaa hb2 0;have c1 := Qaa hb2 1;have c2 := Qaa hb2 2;have f0 := Qac hb2 0;have f1 := Qac hb2 1;have f2 := Qac hb2 2;simp at c0 c1 c2;have HB2 := Xi hb2;clear hf2 hb2;go_wp2_with fail;refine (H5.out _).mono ?_;rintro e w9 ⟨rfl,rfl⟩;go_wp2_with fail
 go_region_with (first
  | (go_at_call 115; refine (H3.out _).mono ?_; rintro e w7 ⟨rfl,hf7⟩; have hf8 := ff HF2.out (ff (Fr.drewN _ _ _) hf7); have hb7 := hf7.blk HB2.out (fun h => h); have d0 := Qaa hb7 0; have d1 := Qaa hb7 1; have d2 := Qaa hb7 2; have e0 := Qac hb7 0; have e1 := Qac hb7 1; have e2 := Qac hb7 2; simp at d0 d1 d2; have HF7 := Xi hf8; have HB7 := Xi hb7; clear hf7 hf8 hb7)
  | (go_at_call 114; refine (H5.out _).mono ?_; rintro e w9 ⟨rfl,rfl⟩))
 all_goals
  go_wp2_with fail;(try simp only [Exit.inBlock,Exit.then]);obtain ⟨hf9,hb9⟩ := QbJ (.int .i64 2) (.int .i64 n5) (.int .i64 z3) HF7.out HB7.out (Nat.le_refl _);exact bodyPost_ret (QaY hb9 _ rfl rfl) rfl ⟨rfl,hf9⟩
theorem rp_ae (s : ByteArray) (hs : s.size ≤ 999980) (w : World) (h0 : Qa2 s.data.toList = 0) (h7 : s.size ≠ 7) (h5 : 5 < s.size) (z3 : Int) (hz3 : QaT (s.data.toList.take 3) = z3) (q3 : 0 ≤ z3) (n5 : Int) (hn5 : Qa2 (s.data.toList.drop 5) = n5) (q5 : 0 < n5) (m3 : (s.data.toList.drop 3).take 2 ≠ geL) (m4 : (s.data.toList.drop 3).take 2 = leL) : Calls Tryz.prog 79 #[.string s] w (Qcq 3 n5 z3 0 w) := by
 have hl := Qag s;have t7 : ((s.size : Int) == 7) = false := beq_eq_false_iff_ne.2 (by omega);have g5 : (5 : Int) < (s.size : Int) := by omega
 have g3 : (3 : Int) ≤ (s.size : Int) := by omega
 have g6 : (5 : Int) ≤ (s.size : Int) := by omega
 have H3 := Xi (fun W => QaZ s 0 3 _ (QbQ s 0 3 _ (by omega) rfl) z3 hz3 W);have H5 := Xi (fun W => Qbm s 5 s.size _ (Qbx s 5 _ rfl) (by rw [List.length_drop]; omega) n5 hn5 W);have tg : ((s.extract 3 5).toList == [62,61]) = false := by rw [QbS s 3 5 _ _ (by omega) rfl]; exact beq_eq_false_iff_ne.2 m3
 have tl : ((s.extract 3 5).toList == [60,61]) = true := by rw [QbS s 3 5 _ _ (by omega) rfl]; exact beq_iff_eq.2 m4
 have HN := Xi (fun W => QaI s hs W);rw [h0] at HN;have hb := Blk.made w 61 #[.int .i64 0,.int .i64 0,.int .i64 0];have HB1 := Xi hb;have HF1 := Xi (Fr.new w day0 (fun _ => False));clear hb hl h0 h7 h5 hz3 hn5 m3 m4;go_enter func79,ntmps79;go_wp2_with fail;refine (HN.out _).mono ?_;rintro e w9 ⟨rfl,rfl⟩;go_wp2_with fail;refine (H3.out _).mono ?_;rintro e w2 ⟨rfl,hf2⟩;have HF2 := Xf HF1 hf2;have hb2 := hf2.blk HB1.out (fun h => h);have c0 := Qaa hb2 0;have c1 := Qaa hb2 1;have c2 := Qaa hb2 2;have f0 := Qac hb2 0;have f1 := Qac hb2 1;have f2 := Qac hb2 2;simp at c0 c1 c2;have HB2 := Xi hb2;clear hf2 hb2;go_wp2_with fail;refine (H5.out _).mono ?_;rintro e w9 ⟨rfl,rfl⟩;go_wp2_with fail
 go_region_with (first
  | (go_at_call 115; refine (H3.out _).mono ?_; rintro e w7 ⟨rfl,hf7⟩; have hf8 := ff HF2.out (ff (Fr.drewN _ _ _) hf7); have hb7 := hf7.blk HB2.out (fun h => h); have d0 := Qaa hb7 0; have d1 := Qaa hb7 1; have d2 := Qaa hb7 2; have e0 := Qac hb7 0; have e1 := Qac hb7 1; have e2 := Qac hb7 2; simp at d0 d1 d2; have HF7 := Xi hf8; have HB7 := Xi hb7; clear hf7 hf8 hb7)
  | (go_at_call 114; refine (H5.out _).mono ?_; rintro e w9 ⟨rfl,rfl⟩))
 all_goals
  go_wp2_with fail;(try simp only [Exit.inBlock,Exit.then]);obtain ⟨hf9,hb9⟩ := QbJ (.int .i64 3) (.int .i64 n5) (.int .i64 z3) HF7.out HB7.out (Nat.le_refl _);exact bodyPost_ret (QaY hb9 _ rfl rfl) rfl ⟨rfl,hf9⟩
theorem rp_af (s : ByteArray) (hs : s.size ≤ 999980) (w : World) (h0 : Qa2 s.data.toList = 0) (h7 : s.size ≠ 7) (h5 : 5 < s.size) (z3 : Int) (hz3 : QaT (s.data.toList.take 3) = z3) (q3 : 0 ≤ z3) (n5 : Int) (hn5 : Qa2 (s.data.toList.drop 5) = n5) (q5 : 0 < n5) (m3 : (s.data.toList.drop 3).take 2 ≠ geL) (m4 : (s.data.toList.drop 3).take 2 ≠ leL) : Calls Tryz.prog 79 #[.string s] w (Qcq 0 0 0 6 w) := by
 have hl := Qag s;have t7 : ((s.size : Int) == 7) = false := beq_eq_false_iff_ne.2 (by omega);have g5 : (5 : Int) < (s.size : Int) := by omega
 have g3 : (3 : Int) ≤ (s.size : Int) := by omega
 have g6 : (5 : Int) ≤ (s.size : Int) := by omega
 have H3 := Xi (fun W => QaZ s 0 3 _ (QbQ s 0 3 _ (by omega) rfl) z3 hz3 W);have H5 := Xi (fun W => Qbm s 5 s.size _ (Qbx s 5 _ rfl) (by rw [List.length_drop]; omega) n5 hn5 W);have tg : ((s.extract 3 5).toList == [62,61]) = false := by rw [QbS s 3 5 _ _ (by omega) rfl]; exact beq_eq_false_iff_ne.2 m3
 have tl : ((s.extract 3 5).toList == [60,61]) = false := by rw [QbS s 3 5 _ _ (by omega) rfl]; exact beq_eq_false_iff_ne.2 m4
 have HN := Xi (fun W => QaI s hs W);rw [h0] at HN;have hb := Blk.made w 61 #[.int .i64 0,.int .i64 0,.int .i64 0];have HB1 := Xi hb;have HF1 := Xi (Fr.new w day0 (fun _ => False));clear hb hl h0 h7 h5 hz3 hn5 m3 m4;go_enter func79,ntmps79;go_wp2_with fail;refine (HN.out _).mono ?_;rintro e w9 ⟨rfl,rfl⟩;go_wp2_with fail;refine (H3.out _).mono ?_;rintro e w2 ⟨rfl,hf2⟩;have HF2 := Xf HF1 hf2;have hb2 := hf2.blk HB1.out (fun h => h);have c0 := Qaa hb2 0;have c1 := Qaa hb2 1;have c2 := Qaa hb2 2;have f0 := Qac hb2 0;have f1 := Qac hb2 1;have f2 := Qac hb2 2;simp at c0 c1 c2;have HB2 := Xi hb2;clear hf2 hb2;go_wp2_with fail;refine (H5.out _).mono ?_;rintro e w9 ⟨rfl,rfl⟩;go_wp2_with fail;(try simp only [Exit.inBlock,Exit.then]);obtain ⟨hf9,hb9⟩ := QbJ (.int .i64 0) (.int .i64 0) (.int .i64 0) HF2.out HB2.out (Nat.le_refl _);exact bodyPost_ret (QaY hb9 _ rfl rfl) rfl ⟨rfl,hf9⟩
theorem rp_bb (s : ByteArray) (hs : s.size ≤ 999980) (w : World) (h0 : Qa2 s.data.toList = 0) (h7 : s.size = 7) (h4 : s.data.toList.take 4 ≠ Qa4) (_h5 : 5 < s.size) (z3 : Int) (hz3 : QaT (s.data.toList.take 3) = z3) (q3 : z3 < 0) : Calls Tryz.prog 79 #[.string s] w (Qcq 0 0 0 6 w) := by
 have hl := Qag s;have t7 : ((s.size : Int) == 7) = true := beq_iff_eq.2 (by omega);have t4 : ((s.extract 0 4).toList == [108,97,115,116]) = false := by rw [QbS s 0 4 _ _ (by omega) rfl]; exact beq_eq_false_iff_ne.2 h4
 have g4 : (4 : Int) ≤ (s.size : Int) := by omega
 have g5 : (5 : Int) < (s.size : Int) := by omega
 have g3 : (3 : Int) ≤ (s.size : Int) := by omega
 have g6 : (5 : Int) ≤ (s.size : Int) := by omega
 have H3 := Xi (fun W => QaZ s 0 3 _ (QbQ s 0 3 _ (by omega) rfl) z3 hz3 W);have HN := Xi (fun W => QaI s hs W);rw [h0] at HN;have hb := Blk.made w 61 #[.int .i64 0,.int .i64 0,.int .i64 0];have HB1 := Xi hb;have HF1 := Xi (Fr.new w day0 (fun _ => False));clear hb hl h0 h7 h4 _h5 hz3;go_enter func79,ntmps79;go_wp2_with fail;refine (HN.out _).mono ?_;rintro e w9 ⟨rfl,rfl⟩;go_wp2_with fail;refine (H3.out _).mono ?_;rintro e w2 ⟨rfl,hf2⟩;have HF2 := Xf HF1 hf2;have hb2 := hf2.blk HB1.out (fun h => h);have c0 := Qaa hb2 0;have c1 := Qaa hb2 1;have c2 := Qaa hb2 2;have f0 := Qac hb2 0;have f1 := Qac hb2 1;have f2 := Qac hb2 2;simp at c0 c1 c2;have HB2 := Xi hb2;clear hf2 hb2;go_wp2_with fail;(try simp only [Exit.inBlock,Exit.then]);obtain ⟨hf9,hb9⟩ := QbJ (.int .i64 0) (.int .i64 0) (.int .i64 0) HF2.out HB2.out (Nat.le_refl _);exact bodyPost_ret (QaY hb9 _ rfl rfl) rfl ⟨rfl,hf9⟩
theorem rp_bc (s : ByteArray) (hs : s.size ≤ 999980) (w : World) (h0 : Qa2 s.data.toList = 0) (h7 : s.size = 7) (h4 : s.data.toList.take 4 ≠ Qa4) (_h5 : 5 < s.size) (z3 : Int) (hz3 : QaT (s.data.toList.take 3) = z3) (q3 : 0 ≤ z3) (n5 : Int) (hn5 : Qa2 (s.data.toList.drop 5) = n5) (q5 : n5 ≤ 0) : Calls Tryz.prog 79 #[.string s] w (Qcq 0 0 0 6 w) := by
 have hl := Qag s;have t7 : ((s.size : Int) == 7) = true := beq_iff_eq.2 (by omega);have t4 : ((s.extract 0 4).toList == [108,97,115,116]) = false := by rw [QbS s 0 4 _ _ (by omega) rfl]; exact beq_eq_false_iff_ne.2 h4
 have g4 : (4 : Int) ≤ (s.size : Int) := by omega
 have g5 : (5 : Int) < (s.size : Int) := by omega
 have g3 : (3 : Int) ≤ (s.size : Int) := by omega
 have g6 : (5 : Int) ≤ (s.size : Int) := by omega
 have H3 := Xi (fun W => QaZ s 0 3 _ (QbQ s 0 3 _ (by omega) rfl) z3 hz3 W);have H5 := Xi (fun W => Qbm s 5 s.size _ (Qbx s 5 _ rfl) (by rw [List.length_drop]; omega) n5 hn5 W);have HN := Xi (fun W => QaI s hs W);rw [h0] at HN;have hb := Blk.made w 61 #[.int .i64 0,.int .i64 0,.int .i64 0];have HB1 := Xi hb;have HF1 := Xi (Fr.new w day0 (fun _ => False));clear hb hl h0 h7 h4 _h5 hz3 hn5;go_enter func79,ntmps79;go_wp2_with fail;refine (HN.out _).mono ?_;rintro e w9 ⟨rfl,rfl⟩;go_wp2_with fail;refine (H3.out _).mono ?_;rintro e w2 ⟨rfl,hf2⟩;have HF2 := Xf HF1 hf2;have hb2 := hf2.blk HB1.out (fun h => h);have c0 := Qaa hb2 0;have c1 := Qaa hb2 1;have c2 := Qaa hb2 2;have f0 := Qac hb2 0;have f1 := Qac hb2 1;have f2 := Qac hb2 2;simp at c0 c1 c2;have HB2 := Xi hb2;clear hf2 hb2;go_wp2_with fail;refine (H5.out _).mono ?_;rintro e w9 ⟨rfl,rfl⟩;go_wp2_with fail;(try simp only [Exit.inBlock,Exit.then]);obtain ⟨hf9,hb9⟩ := QbJ (.int .i64 0) (.int .i64 0) (.int .i64 0) HF2.out HB2.out (Nat.le_refl _);exact bodyPost_ret (QaY hb9 _ rfl rfl) rfl ⟨rfl,hf9⟩
theorem rp_bd (s : ByteArray) (hs : s.size ≤ 999980) (w : World) (h0 : Qa2 s.data.toList = 0) (h7 : s.size = 7) (h4 : s.data.toList.take 4 ≠ Qa4) (_h5 : 5 < s.size) (z3 : Int) (hz3 : QaT (s.data.toList.take 3) = z3) (q3 : 0 ≤ z3) (n5 : Int) (hn5 : Qa2 (s.data.toList.drop 5) = n5) (q5 : 0 < n5) (m3 : (s.data.toList.drop 3).take 2 = geL) : Calls Tryz.prog 79 #[.string s] w (Qcq 2 n5 z3 0 w) := by
 have hl := Qag s;have t7 : ((s.size : Int) == 7) = true := beq_iff_eq.2 (by omega);have t4 : ((s.extract 0 4).toList == [108,97,115,116]) = false := by rw [QbS s 0 4 _ _ (by omega) rfl]; exact beq_eq_false_iff_ne.2 h4
 have g4 : (4 : Int) ≤ (s.size : Int) := by omega
 have g5 : (5 : Int) < (s.size : Int) := by omega
 have g3 : (3 : Int) ≤ (s.size : Int) := by omega
 have g6 : (5 : Int) ≤ (s.size : Int) := by omega
 have H3 := Xi (fun W => QaZ s 0 3 _ (QbQ s 0 3 _ (by omega) rfl) z3 hz3 W);have H5 := Xi (fun W => Qbm s 5 s.size _ (Qbx s 5 _ rfl) (by rw [List.length_drop]; omega) n5 hn5 W);have tg : ((s.extract 3 5).toList == [62,61]) = true := by rw [QbS s 3 5 _ _ (by omega) rfl]; exact beq_iff_eq.2 m3
 have HN := Xi (fun W => QaI s hs W);rw [h0] at HN;have hb := Blk.made w 61 #[.int .i64 0,.int .i64 0,.int .i64 0];have HB1 := Xi hb;have HF1 := Xi (Fr.new w day0 (fun _ => False));clear hb hl h0 h7 h4 _h5 hz3 hn5 m3;go_enter func79,ntmps79;go_wp2_with fail;refine (HN.out _).mono ?_;rintro e w9 ⟨rfl,rfl⟩;go_wp2_with fail;refine (H3.out _).mono ?_;rintro e w2 ⟨rfl,hf2⟩;have HF2 := Xf HF1 hf2;have hb2 := hf2.blk HB1.out (fun h => h);have c0 := Qaa hb2 0;have c1 := Qaa hb2 1;have c2 := Qaa hb2 2;have f0 := Qac hb2 0;have f1 := Qac hb2 1;have f2 := Qac hb2 2;simp at c0 c1 c2;have HB2 := Xi hb2;clear hf2 hb2;go_wp2_with fail;refine (H5.out _).mono ?_;rintro e w9 ⟨rfl,rfl⟩;go_wp2_with fail
 go_region_with (first
  | (go_at_call 115; refine (H3.out _).mono ?_; rintro e w7 ⟨rfl,hf7⟩; have hf8 := ff HF2.out (ff (Fr.drewN _ _ _) hf7); have hb7 := hf7.blk HB2.out (fun h => h); have d0 := Qaa hb7 0; have d1 := Qaa hb7 1; have d2 := Qaa hb7 2; have e0 := Qac hb7 0; have e1 := Qac hb7 1; have e2 := Qac hb7 2; simp at d0 d1 d2; have HF7 := Xi hf8; have HB7 := Xi hb7; clear hf7 hf8 hb7)
  | (go_at_call 114; refine (H5.out _).mono ?_; rintro e w9 ⟨rfl,rfl⟩))
 all_goals
  go_wp2_with fail;(try simp only [Exit.inBlock,Exit.then]);obtain ⟨hf9,hb9⟩ := QbJ (.int .i64 2) (.int .i64 n5) (.int .i64 z3) HF7.out HB7.out (Nat.le_refl _);exact bodyPost_ret (QaY hb9 _ rfl rfl) rfl ⟨rfl,hf9⟩
theorem rp_be (s : ByteArray) (hs : s.size ≤ 999980) (w : World) (h0 : Qa2 s.data.toList = 0) (h7 : s.size = 7) (h4 : s.data.toList.take 4 ≠ Qa4) (_h5 : 5 < s.size) (z3 : Int) (hz3 : QaT (s.data.toList.take 3) = z3) (q3 : 0 ≤ z3) (n5 : Int) (hn5 : Qa2 (s.data.toList.drop 5) = n5) (q5 : 0 < n5) (m3 : (s.data.toList.drop 3).take 2 ≠ geL) (m4 : (s.data.toList.drop 3).take 2 = leL) : Calls Tryz.prog 79 #[.string s] w (Qcq 3 n5 z3 0 w) := by
 have hl := Qag s;have t7 : ((s.size : Int) == 7) = true := beq_iff_eq.2 (by omega);have t4 : ((s.extract 0 4).toList == [108,97,115,116]) = false := by rw [QbS s 0 4 _ _ (by omega) rfl]; exact beq_eq_false_iff_ne.2 h4
 have g4 : (4 : Int) ≤ (s.size : Int) := by omega
 have g5 : (5 : Int) < (s.size : Int) := by omega
 have g3 : (3 : Int) ≤ (s.size : Int) := by omega
 have g6 : (5 : Int) ≤ (s.size : Int) := by omega
 have H3 := Xi (fun W => QaZ s 0 3 _ (QbQ s 0 3 _ (by omega) rfl) z3 hz3 W);have H5 := Xi (fun W => Qbm s 5 s.size _ (Qbx s 5 _ rfl) (by rw [List.length_drop]; omega) n5 hn5 W);have tg : ((s.extract 3 5).toList == [62,61]) = false := by rw [QbS s 3 5 _ _ (by omega) rfl]; exact beq_eq_false_iff_ne.2 m3
 have tl : ((s.extract 3 5).toList == [60,61]) = true := by rw [QbS s 3 5 _ _ (by omega) rfl]; exact beq_iff_eq.2 m4
 have HN := Xi (fun W => QaI s hs W);rw [h0] at HN;have hb := Blk.made w 61 #[.int .i64 0,.int .i64 0,.int .i64 0];have HB1 := Xi hb;have HF1 := Xi (Fr.new w day0 (fun _ => False));clear hb hl h0 h7 h4 _h5 hz3 hn5 m3 m4;go_enter func79,ntmps79;go_wp2_with fail;refine (HN.out _).mono ?_;rintro e w9 ⟨rfl,rfl⟩;go_wp2_with fail;refine (H3.out _).mono ?_;rintro e w2 ⟨rfl,hf2⟩;have HF2 := Xf HF1 hf2;have hb2 := hf2.blk HB1.out (fun h => h);have c0 := Qaa hb2 0;have c1 := Qaa hb2 1;have c2 := Qaa hb2 2;have f0 := Qac hb2 0;have f1 := Qac hb2 1;have f2 := Qac hb2 2;simp at c0 c1 c2;have HB2 := Xi hb2;clear hf2 hb2;go_wp2_with fail;refine (H5.out _).mono ?_;rintro e w9 ⟨rfl,rfl⟩;go_wp2_with fail
 go_region_with (first
  | (go_at_call 115; refine (H3.out _).mono ?_; rintro e w7 ⟨rfl,hf7⟩; have hf8 := ff HF2.out (ff (Fr.drewN _ _ _) hf7); have hb7 := hf7.blk HB2.out (fun h => h); have d0 := Qaa hb7 0; have d1 := Qaa hb7 1; have d2 := Qaa hb7 2; have e0 := Qac hb7 0; have e1 := Qac hb7 1; have e2 := Qac hb7 2; simp at d0 d1 d2; have HF7 := Xi hf8; have HB7 := Xi hb7; clear hf7 hf8 hb7)
  | (go_at_call 114; refine (H5.out _).mono ?_; rintro e w9 ⟨rfl,rfl⟩))
 all_goals
  go_wp2_with fail;(try simp only [Exit.inBlock,Exit.then]);obtain ⟨hf9,hb9⟩ := QbJ (.int .i64 3) (.int .i64 n5) (.int .i64 z3) HF7.out HB7.out (Nat.le_refl _);exact bodyPost_ret (QaY hb9 _ rfl rfl) rfl ⟨rfl,hf9⟩
theorem rp_bf (s : ByteArray) (hs : s.size ≤ 999980) (w : World) (h0 : Qa2 s.data.toList = 0) (h7 : s.size = 7) (h4 : s.data.toList.take 4 ≠ Qa4) (_h5 : 5 < s.size) (z3 : Int) (hz3 : QaT (s.data.toList.take 3) = z3) (q3 : 0 ≤ z3) (n5 : Int) (hn5 : Qa2 (s.data.toList.drop 5) = n5) (q5 : 0 < n5) (m3 : (s.data.toList.drop 3).take 2 ≠ geL) (m4 : (s.data.toList.drop 3).take 2 ≠ leL) : Calls Tryz.prog 79 #[.string s] w (Qcq 0 0 0 6 w) := by
 have hl := Qag s;have t7 : ((s.size : Int) == 7) = true := beq_iff_eq.2 (by omega);have t4 : ((s.extract 0 4).toList == [108,97,115,116]) = false := by rw [QbS s 0 4 _ _ (by omega) rfl]; exact beq_eq_false_iff_ne.2 h4
 have g4 : (4 : Int) ≤ (s.size : Int) := by omega
 have g5 : (5 : Int) < (s.size : Int) := by omega
 have g3 : (3 : Int) ≤ (s.size : Int) := by omega
 have g6 : (5 : Int) ≤ (s.size : Int) := by omega
 have H3 := Xi (fun W => QaZ s 0 3 _ (QbQ s 0 3 _ (by omega) rfl) z3 hz3 W);have H5 := Xi (fun W => Qbm s 5 s.size _ (Qbx s 5 _ rfl) (by rw [List.length_drop]; omega) n5 hn5 W);have tg : ((s.extract 3 5).toList == [62,61]) = false := by rw [QbS s 3 5 _ _ (by omega) rfl]; exact beq_eq_false_iff_ne.2 m3
 have tl : ((s.extract 3 5).toList == [60,61]) = false := by rw [QbS s 3 5 _ _ (by omega) rfl]; exact beq_eq_false_iff_ne.2 m4
 have HN := Xi (fun W => QaI s hs W);rw [h0] at HN;have hb := Blk.made w 61 #[.int .i64 0,.int .i64 0,.int .i64 0];have HB1 := Xi hb;have HF1 := Xi (Fr.new w day0 (fun _ => False));clear hb hl h0 h7 h4 _h5 hz3 hn5 m3 m4;go_enter func79,ntmps79;go_wp2_with fail;refine (HN.out _).mono ?_;rintro e w9 ⟨rfl,rfl⟩;go_wp2_with fail;refine (H3.out _).mono ?_;rintro e w2 ⟨rfl,hf2⟩;have HF2 := Xf HF1 hf2;have hb2 := hf2.blk HB1.out (fun h => h);have c0 := Qaa hb2 0;have c1 := Qaa hb2 1;have c2 := Qaa hb2 2;have f0 := Qac hb2 0;have f1 := Qac hb2 1;have f2 := Qac hb2 2;simp at c0 c1 c2;have HB2 := Xi hb2;clear hf2 hb2;go_wp2_with fail;refine (H5.out _).mono ?_;rintro e w9 ⟨rfl,rfl⟩;go_wp2_with fail;(try simp only [Exit.inBlock,Exit.then]);obtain ⟨hf9,hb9⟩ := QbJ (.int .i64 0) (.int .i64 0) (.int .i64 0) HF2.out HB2.out (Nat.le_refl _);exact bodyPost_ret (QaY hb9 _ rfl rfl) rfl ⟨rfl,hf9⟩
theorem rp_cb (s : ByteArray) (hs : s.size ≤ 999980) (w : World) (h0 : Qa2 s.data.toList = 0) (h7 : s.size = 7) (h4 : s.data.toList.take 4 = Qa4) (z4 : Int) (hz4 : QaT (s.data.toList.drop 4) = z4) (hz : z4 < 0) (_h5 : 5 < s.size) (z3 : Int) (hz3 : QaT (s.data.toList.take 3) = z3) (q3 : z3 < 0) : Calls Tryz.prog 79 #[.string s] w (Qcq 0 0 0 6 w) := by
 have hl := Qag s;have t7 : ((s.size : Int) == 7) = true := beq_iff_eq.2 (by omega);have t4 : ((s.extract 0 4).toList == [108,97,115,116]) = true := by rw [QbS s 0 4 _ _ (by omega) rfl]; exact beq_iff_eq.2 h4
 have g4 : (4 : Int) ≤ (s.size : Int) := by omega
 have H4 := Xi (fun W => QaZ s 4 s.size _ (Qbx s 4 _ rfl) z4 hz4 W);have g5 : (5 : Int) < (s.size : Int) := by omega
 have g3 : (3 : Int) ≤ (s.size : Int) := by omega
 have g6 : (5 : Int) ≤ (s.size : Int) := by omega
 have H3 := Xi (fun W => QaZ s 0 3 _ (QbQ s 0 3 _ (by omega) rfl) z3 hz3 W);have HN := Xi (fun W => QaI s hs W);rw [h0] at HN;have hb := Blk.made w 61 #[.int .i64 0,.int .i64 0,.int .i64 0];have HB1 := Xi hb;have HF1 := Xi (Fr.new w day0 (fun _ => False));clear hb hl h0 h7 h4 hz4 _h5 hz3;go_enter func79,ntmps79;go_wp2_with fail;refine (HN.out _).mono ?_;rintro e w9 ⟨rfl,rfl⟩;go_wp2_with fail;refine (H4.out _).mono ?_;rintro e w2 ⟨rfl,hf2⟩;have HF2 := Xf HF1 hf2;have hb2 := hf2.blk HB1.out (fun h => h);have c0 := Qaa hb2 0;have c1 := Qaa hb2 1;have c2 := Qaa hb2 2;have f0 := Qac hb2 0;have f1 := Qac hb2 1;have f2 := Qac hb2 2;simp at c0 c1 c2;have HB2 := Xi hb2;clear hf2 hb2;go_wp2_with fail;refine (H3.out _).mono ?_;rintro e w3 ⟨rfl,hf3⟩;have HF3 := Xf HF2 hf3;have hb3 := hf3.blk HB2.out (fun h => h);have c0 := Qaa hb3 0;have c1 := Qaa hb3 1;have c2 := Qaa hb3 2;have f0 := Qac hb3 0;have f1 := Qac hb3 1;have f2 := Qac hb3 2;simp at c0 c1 c2;have HB3 := Xi hb3;clear hf3 hb3;go_wp2_with fail;(try simp only [Exit.inBlock,Exit.then]);obtain ⟨hf9,hb9⟩ := QbJ (.int .i64 0) (.int .i64 0) (.int .i64 0) HF3.out HB3.out (Nat.le_refl _);exact bodyPost_ret (QaY hb9 _ rfl rfl) rfl ⟨rfl,hf9⟩
theorem rp_cc (s : ByteArray) (hs : s.size ≤ 999980) (w : World) (h0 : Qa2 s.data.toList = 0) (h7 : s.size = 7) (h4 : s.data.toList.take 4 = Qa4) (z4 : Int) (hz4 : QaT (s.data.toList.drop 4) = z4) (hz : z4 < 0) (_h5 : 5 < s.size) (z3 : Int) (hz3 : QaT (s.data.toList.take 3) = z3) (q3 : 0 ≤ z3) (n5 : Int) (hn5 : Qa2 (s.data.toList.drop 5) = n5) (q5 : n5 ≤ 0) : Calls Tryz.prog 79 #[.string s] w (Qcq 0 0 0 6 w) := by
 have hl := Qag s;have t7 : ((s.size : Int) == 7) = true := beq_iff_eq.2 (by omega);have t4 : ((s.extract 0 4).toList == [108,97,115,116]) = true := by rw [QbS s 0 4 _ _ (by omega) rfl]; exact beq_iff_eq.2 h4
 have g4 : (4 : Int) ≤ (s.size : Int) := by omega
 have H4 := Xi (fun W => QaZ s 4 s.size _ (Qbx s 4 _ rfl) z4 hz4 W);have g5 : (5 : Int) < (s.size : Int) := by omega
 have g3 : (3 : Int) ≤ (s.size : Int) := by omega
 have g6 : (5 : Int) ≤ (s.size : Int) := by omega
 have H3 := Xi (fun W => QaZ s 0 3 _ (QbQ s 0 3 _ (by omega) rfl) z3 hz3 W);have H5 := Xi (fun W => Qbm s 5 s.size _ (Qbx s 5 _ rfl) (by rw [List.length_drop]; omega) n5 hn5 W);have HN := Xi (fun W => QaI s hs W);rw [h0] at HN;have hb := Blk.made w 61 #[.int .i64 0,.int .i64 0,.int .i64 0];have HB1 := Xi hb;have HF1 := Xi (Fr.new w day0 (fun _ => False));clear hb hl h0 h7 h4 hz4 _h5 hz3 hn5;go_enter func79,ntmps79;go_wp2_with fail;refine (HN.out _).mono ?_;rintro e w9 ⟨rfl,rfl⟩;go_wp2_with fail;refine (H4.out _).mono ?_;rintro e w2 ⟨rfl,hf2⟩;have HF2 := Xf HF1 hf2;have hb2 := hf2.blk HB1.out (fun h => h);have c0 := Qaa hb2 0;have c1 := Qaa hb2 1;have c2 := Qaa hb2 2;have f0 := Qac hb2 0;have f1 := Qac hb2 1;have f2 := Qac hb2 2;simp at c0 c1 c2;have HB2 := Xi hb2;clear hf2 hb2;go_wp2_with fail;refine (H3.out _).mono ?_;rintro e w3 ⟨rfl,hf3⟩;have HF3 := Xf HF2 hf3;have hb3 := hf3.blk HB2.out (fun h => h);have c0 := Qaa hb3 0;have c1 := Qaa hb3 1;have c2 := Qaa hb3 2;have f0 := Qac hb3 0;have f1 := Qac hb3 1;have f2 := Qac hb3 2;simp at c0 c1 c2;have HB3 := Xi hb3;clear hf3 hb3;go_wp2_with fail;refine (H5.out _).mono ?_;rintro e w9 ⟨rfl,rfl⟩;go_wp2_with fail;(try simp only [Exit.inBlock,Exit.then]);obtain ⟨hf9,hb9⟩ := QbJ (.int .i64 0) (.int .i64 0) (.int .i64 0) HF3.out HB3.out (Nat.le_refl _);exact bodyPost_ret (QaY hb9 _ rfl rfl) rfl ⟨rfl,hf9⟩
theorem rp_cd (s : ByteArray) (hs : s.size ≤ 999980) (w : World) (h0 : Qa2 s.data.toList = 0) (h7 : s.size = 7) (h4 : s.data.toList.take 4 = Qa4) (z4 : Int) (hz4 : QaT (s.data.toList.drop 4) = z4) (hz : z4 < 0) (_h5 : 5 < s.size) (z3 : Int) (hz3 : QaT (s.data.toList.take 3) = z3) (q3 : 0 ≤ z3) (n5 : Int) (hn5 : Qa2 (s.data.toList.drop 5) = n5) (q5 : 0 < n5) (m3 : (s.data.toList.drop 3).take 2 = geL) : Calls Tryz.prog 79 #[.string s] w (Qcq 2 n5 z3 0 w) := by
 have hl := Qag s;have t7 : ((s.size : Int) == 7) = true := beq_iff_eq.2 (by omega);have t4 : ((s.extract 0 4).toList == [108,97,115,116]) = true := by rw [QbS s 0 4 _ _ (by omega) rfl]; exact beq_iff_eq.2 h4
 have g4 : (4 : Int) ≤ (s.size : Int) := by omega
 have H4 := Xi (fun W => QaZ s 4 s.size _ (Qbx s 4 _ rfl) z4 hz4 W);have g5 : (5 : Int) < (s.size : Int) := by omega
 have g3 : (3 : Int) ≤ (s.size : Int) := by omega
 have g6 : (5 : Int) ≤ (s.size : Int) := by omega
 have H3 := Xi (fun W => QaZ s 0 3 _ (QbQ s 0 3 _ (by omega) rfl) z3 hz3 W);have H5 := Xi (fun W => Qbm s 5 s.size _ (Qbx s 5 _ rfl) (by rw [List.length_drop]; omega) n5 hn5 W);have tg : ((s.extract 3 5).toList == [62,61]) = true := by rw [QbS s 3 5 _ _ (by omega) rfl]; exact beq_iff_eq.2 m3
 have HN := Xi (fun W => QaI s hs W);rw [h0] at HN;have hb := Blk.made w 61 #[.int .i64 0,.int .i64 0,.int .i64 0];have HB1 := Xi hb;have HF1 := Xi (Fr.new w day0 (fun _ => False));clear hb hl h0 h7 h4 hz4 _h5 hz3 hn5 m3;go_enter func79,ntmps79;go_wp2_with fail;refine (HN.out _).mono ?_;rintro e w9 ⟨rfl,rfl⟩;go_wp2_with fail;refine (H4.out _).mono ?_;rintro e w2 ⟨rfl,hf2⟩;have HF2 := Xf HF1 hf2;have hb2 := hf2.blk HB1.out (fun h => h);have c0 := Qaa hb2 0;have c1 := Qaa hb2 1;have c2 := Qaa hb2 2;have f0 := Qac hb2 0;have f1 := Qac hb2 1;have f2 := Qac hb2 2;simp at c0 c1 c2;have HB2 := Xi hb2;clear hf2 hb2;go_wp2_with fail;refine (H3.out _).mono ?_;rintro e w3 ⟨rfl,hf3⟩;have HF3 := Xf HF2 hf3;have hb3 := hf3.blk HB2.out (fun h => h);have c0 := Qaa hb3 0;have c1 := Qaa hb3 1;have c2 := Qaa hb3 2;have f0 := Qac hb3 0;have f1 := Qac hb3 1;have f2 := Qac hb3 2;simp at c0 c1 c2;have HB3 := Xi hb3;clear hf3 hb3;go_wp2_with fail;refine (H5.out _).mono ?_;rintro e w9 ⟨rfl,rfl⟩;go_wp2_with fail
 go_region_with (first
  | (go_at_call 115; refine (H3.out _).mono ?_; rintro e w7 ⟨rfl,hf7⟩; have hf8 := ff HF3.out (ff (Fr.drewN _ _ _) hf7); have hb7 := hf7.blk HB3.out (fun h => h); have d0 := Qaa hb7 0; have d1 := Qaa hb7 1; have d2 := Qaa hb7 2; have e0 := Qac hb7 0; have e1 := Qac hb7 1; have e2 := Qac hb7 2; simp at d0 d1 d2; have HF7 := Xi hf8; have HB7 := Xi hb7; clear hf7 hf8 hb7)
  | (go_at_call 114; refine (H5.out _).mono ?_; rintro e w9 ⟨rfl,rfl⟩))
 all_goals
  go_wp2_with fail;(try simp only [Exit.inBlock,Exit.then]);obtain ⟨hf9,hb9⟩ := QbJ (.int .i64 2) (.int .i64 n5) (.int .i64 z3) HF7.out HB7.out (Nat.le_refl _);exact bodyPost_ret (QaY hb9 _ rfl rfl) rfl ⟨rfl,hf9⟩
theorem rp_ce (s : ByteArray) (hs : s.size ≤ 999980) (w : World) (h0 : Qa2 s.data.toList = 0) (h7 : s.size = 7) (h4 : s.data.toList.take 4 = Qa4) (z4 : Int) (hz4 : QaT (s.data.toList.drop 4) = z4) (hz : z4 < 0) (_h5 : 5 < s.size) (z3 : Int) (hz3 : QaT (s.data.toList.take 3) = z3) (q3 : 0 ≤ z3) (n5 : Int) (hn5 : Qa2 (s.data.toList.drop 5) = n5) (q5 : 0 < n5) (m3 : (s.data.toList.drop 3).take 2 ≠ geL) (m4 : (s.data.toList.drop 3).take 2 = leL) : Calls Tryz.prog 79 #[.string s] w (Qcq 3 n5 z3 0 w) := by
 have hl := Qag s;have t7 : ((s.size : Int) == 7) = true := beq_iff_eq.2 (by omega);have t4 : ((s.extract 0 4).toList == [108,97,115,116]) = true := by rw [QbS s 0 4 _ _ (by omega) rfl]; exact beq_iff_eq.2 h4
 have g4 : (4 : Int) ≤ (s.size : Int) := by omega
 have H4 := Xi (fun W => QaZ s 4 s.size _ (Qbx s 4 _ rfl) z4 hz4 W);have g5 : (5 : Int) < (s.size : Int) := by omega
 have g3 : (3 : Int) ≤ (s.size : Int) := by omega
 have g6 : (5 : Int) ≤ (s.size : Int) := by omega
 have H3 := Xi (fun W => QaZ s 0 3 _ (QbQ s 0 3 _ (by omega) rfl) z3 hz3 W);have H5 := Xi (fun W => Qbm s 5 s.size _ (Qbx s 5 _ rfl) (by rw [List.length_drop]; omega) n5 hn5 W);have tg : ((s.extract 3 5).toList == [62,61]) = false := by rw [QbS s 3 5 _ _ (by omega) rfl]; exact beq_eq_false_iff_ne.2 m3
 have tl : ((s.extract 3 5).toList == [60,61]) = true := by rw [QbS s 3 5 _ _ (by omega) rfl]; exact beq_iff_eq.2 m4
 have HN := Xi (fun W => QaI s hs W);rw [h0] at HN;have hb := Blk.made w 61 #[.int .i64 0,.int .i64 0,.int .i64 0];have HB1 := Xi hb;have HF1 := Xi (Fr.new w day0 (fun _ => False));clear hb hl h0 h7 h4 hz4 _h5 hz3 hn5 m3 m4;go_enter func79,ntmps79;go_wp2_with fail;refine (HN.out _).mono ?_;rintro e w9 ⟨rfl,rfl⟩;go_wp2_with fail;refine (H4.out _).mono ?_;rintro e w2 ⟨rfl,hf2⟩;have HF2 := Xf HF1 hf2;have hb2 := hf2.blk HB1.out (fun h => h);have c0 := Qaa hb2 0;have c1 := Qaa hb2 1;have c2 := Qaa hb2 2;have f0 := Qac hb2 0;have f1 := Qac hb2 1;have f2 := Qac hb2 2;simp at c0 c1 c2;have HB2 := Xi hb2;clear hf2 hb2;go_wp2_with fail;refine (H3.out _).mono ?_;rintro e w3 ⟨rfl,hf3⟩;have HF3 := Xf HF2 hf3;have hb3 := hf3.blk HB2.out (fun h => h);have c0 := Qaa hb3 0;have c1 := Qaa hb3 1;have c2 := Qaa hb3 2;have f0 := Qac hb3 0;have f1 := Qac hb3 1;have f2 := Qac hb3 2;simp at c0 c1 c2;have HB3 := Xi hb3;clear hf3 hb3;go_wp2_with fail;refine (H5.out _).mono ?_;rintro e w9 ⟨rfl,rfl⟩;go_wp2_with fail
 go_region_with (first
  | (go_at_call 115; refine (H3.out _).mono ?_; rintro e w7 ⟨rfl,hf7⟩; have hf8 := ff HF3.out (ff (Fr.drewN _ _ _) hf7); have hb7 := hf7.blk HB3.out (fun h => h); have d0 := Qaa hb7 0; have d1 := Qaa hb7 1; have d2 := Qaa hb7 2; have e0 := Qac hb7 0; have e1 := Qac hb7 1; have e2 := Qac hb7 2; simp at d0 d1 d2; have HF7 := Xi hf8; have HB7 := Xi hb7; clear hf7 hf8 hb7)
  | (go_at_call 114; refine (H5.out _).mono ?_; rintro e w9 ⟨rfl,rfl⟩))
 all_goals
  go_wp2_with fail;(try simp only [Exit.inBlock,Exit.then]);obtain ⟨hf9,hb9⟩ := QbJ (.int .i64 3) (.int .i64 n5) (.int .i64 z3) HF7.out HB7.out (Nat.le_refl _);exact bodyPost_ret (QaY hb9 _ rfl rfl) rfl ⟨rfl,hf9⟩
theorem rp_cf (s : ByteArray) (hs : s.size ≤ 999980) (w : World) (h0 : Qa2 s.data.toList = 0) (h7 : s.size = 7) (h4 : s.data.toList.take 4 = Qa4) (z4 : Int) (hz4 : QaT (s.data.toList.drop 4) = z4) (hz : z4 < 0) (_h5 : 5 < s.size) (z3 : Int) (hz3 : QaT (s.data.toList.take 3) = z3) (q3 : 0 ≤ z3) (n5 : Int) (hn5 : Qa2 (s.data.toList.drop 5) = n5) (q5 : 0 < n5) (m3 : (s.data.toList.drop 3).take 2 ≠ geL) (m4 : (s.data.toList.drop 3).take 2 ≠ leL) : Calls Tryz.prog 79 #[.string s] w (Qcq 0 0 0 6 w) := by
 have hl := Qag s;have t7 : ((s.size : Int) == 7) = true := beq_iff_eq.2 (by omega);have t4 : ((s.extract 0 4).toList == [108,97,115,116]) = true := by rw [QbS s 0 4 _ _ (by omega) rfl]; exact beq_iff_eq.2 h4
 have g4 : (4 : Int) ≤ (s.size : Int) := by omega
 have H4 := Xi (fun W => QaZ s 4 s.size _ (Qbx s 4 _ rfl) z4 hz4 W);have g5 : (5 : Int) < (s.size : Int) := by omega
 have g3 : (3 : Int) ≤ (s.size : Int) := by omega
 have g6 : (5 : Int) ≤ (s.size : Int) := by omega
 have H3 := Xi (fun W => QaZ s 0 3 _ (QbQ s 0 3 _ (by omega) rfl) z3 hz3 W);have H5 := Xi (fun W => Qbm s 5 s.size _ (Qbx s 5 _ rfl) (by rw [List.length_drop]; omega) n5 hn5 W);have tg : ((s.extract 3 5).toList == [62,61]) = false := by rw [QbS s 3 5 _ _ (by omega) rfl]; exact beq_eq_false_iff_ne.2 m3
 have tl : ((s.extract 3 5).toList == [60,61]) = false := by rw [QbS s 3 5 _ _ (by omega) rfl]; exact beq_eq_false_iff_ne.2 m4
 have HN := Xi (fun W => QaI s hs W);rw [h0] at HN;have hb := Blk.made w 61 #[.int .i64 0,.int .i64 0,.int .i64 0];have HB1 := Xi hb;have HF1 := Xi (Fr.new w day0 (fun _ => False));clear hb hl h0 h7 h4 hz4 _h5 hz3 hn5 m3 m4;go_enter func79,ntmps79;go_wp2_with fail;refine (HN.out _).mono ?_;rintro e w9 ⟨rfl,rfl⟩;go_wp2_with fail;refine (H4.out _).mono ?_;rintro e w2 ⟨rfl,hf2⟩;have HF2 := Xf HF1 hf2;have hb2 := hf2.blk HB1.out (fun h => h);have c0 := Qaa hb2 0;have c1 := Qaa hb2 1;have c2 := Qaa hb2 2;have f0 := Qac hb2 0;have f1 := Qac hb2 1;have f2 := Qac hb2 2;simp at c0 c1 c2;have HB2 := Xi hb2;clear hf2 hb2;go_wp2_with fail;refine (H3.out _).mono ?_;rintro e w3 ⟨rfl,hf3⟩;have HF3 := Xf HF2 hf3;have hb3 := hf3.blk HB2.out (fun h => h);have c0 := Qaa hb3 0;have c1 := Qaa hb3 1;have c2 := Qaa hb3 2;have f0 := Qac hb3 0;have f1 := Qac hb3 1;have f2 := Qac hb3 2;simp at c0 c1 c2;have HB3 := Xi hb3;clear hf3 hb3;go_wp2_with fail;refine (H5.out _).mono ?_;rintro e w9 ⟨rfl,rfl⟩;go_wp2_with fail;(try simp only [Exit.inBlock,Exit.then]);obtain ⟨hf9,hb9⟩ := QbJ (.int .i64 0) (.int .i64 0) (.int .i64 0) HF3.out HB3.out (Nat.le_refl _);exact bodyPost_ret (QaY hb9 _ rfl rfl) rfl ⟨rfl,hf9⟩
theorem QcY (s : ByteArray) (hs : s.size ≤ 999980) (w : World) (k d q j : Int) (h : Qbf s.data.toList = (k,d,q,j)) : Calls Tryz.prog 79 #[.string s] w (Qcq k d q j w) := by
 have hl := Qag s;have hn := QfN s.data.toList;unfold Qbf at h;rw [hl] at h;by_cases h0 : 0 < Qa2 s.data.toList
 ·rw [if_pos h0] at h;injection h with e1 h;injection h with e2 h;injection h with e3 e4;subst e1 e2 e3 e4;exact rp_num s hs w _ rfl h0
 ·rw [if_neg h0] at h;have z0 : Qa2 s.data.toList = 0 := by omega
  by_cases hd : s.size = 7 ∧ s.data.toList.take 4 = Qa4 ∧ 0 ≤ QaT (s.data.toList.drop 4)
  ·rw [if_pos hd] at h;injection h with e1 h;injection h with e2 h;injection h with e3 e4;subst e1 e2 e3 e4;exact rp_last s hs w z0 hd.1 hd.2.1 _ rfl hd.2.2
  ·rw [if_neg hd] at h;have hv : s.size ≠ 7 ∨ (s.size = 7 ∧ s.data.toList.take 4 ≠ Qa4) ∨ (s.size = 7 ∧ s.data.toList.take 4 = Qa4 ∧ QaT (s.data.toList.drop 4) < 0) := by
    by_cases a : s.size = 7
    ·by_cases b : s.data.toList.take 4 = Qa4
     ·exact .inr (.inr ⟨a,b,Int.not_le.1 (fun c => hd ⟨a,b,c⟩)⟩)
     ·exact .inr (.inl ⟨a,b⟩)
    ·exact .inl a
   clear hd;by_cases h5 : 5 < s.size
   ·by_cases h3 : 0 ≤ QaT (s.data.toList.take 3)
    ·by_cases hm : 0 < Qa2 (s.data.toList.drop 5)
     ·rw [if_pos ⟨h5,h3,hm⟩] at h;by_cases m3 : (s.data.toList.drop 3).take 2 = geL
      ·rw [if_pos m3] at h;injection h with e1 h;injection h with e2 h;injection h with e3 e4;subst e1 e2 e3 e4;rcases hv with a | ⟨a,b⟩ | ⟨a,b,c⟩
       ·exact rp_ad s hs w z0 a h5 _ rfl h3 _ rfl hm m3
       ·exact rp_bd s hs w z0 a b h5 _ rfl h3 _ rfl hm m3
       ·exact rp_cd s hs w z0 a b _ rfl c h5 _ rfl h3 _ rfl hm m3
      ·rw [if_neg m3] at h;by_cases m4 : (s.data.toList.drop 3).take 2 = leL
       ·rw [if_pos m4] at h;injection h with e1 h;injection h with e2 h;injection h with e3 e4;subst e1 e2 e3 e4;rcases hv with a | ⟨a,b⟩ | ⟨a,b,c⟩
        ·exact rp_ae s hs w z0 a h5 _ rfl h3 _ rfl hm m3 m4
        ·exact rp_be s hs w z0 a b h5 _ rfl h3 _ rfl hm m3 m4
        ·exact rp_ce s hs w z0 a b _ rfl c h5 _ rfl h3 _ rfl hm m3 m4
       ·rw [if_neg m4] at h;injection h with e1 h;injection h with e2 h;injection h with e3 e4;subst e1 e2 e3 e4;rcases hv with a | ⟨a,b⟩ | ⟨a,b,c⟩
        ·exact rp_af s hs w z0 a h5 _ rfl h3 _ rfl hm m3 m4
        ·exact rp_bf s hs w z0 a b h5 _ rfl h3 _ rfl hm m3 m4
        ·exact rp_cf s hs w z0 a b _ rfl c h5 _ rfl h3 _ rfl hm m3 m4
     ·rw [if_neg (fun x => hm x.2.2)] at h;injection h with e1 h;injection h with e2 h;injection h with e3 e4;subst e1 e2 e3 e4;rcases hv with a | ⟨a,b⟩ | ⟨a,b,c⟩
      ·exact rp_ac s hs w z0 a h5 _ rfl h3 _ rfl (Int.not_lt.1 hm)
      ·exact rp_bc s hs w z0 a b h5 _ rfl h3 _ rfl (Int.not_lt.1 hm)
      ·exact rp_cc s hs w z0 a b _ rfl c h5 _ rfl h3 _ rfl (Int.not_lt.1 hm)
    ·rw [if_neg (fun x => h3 x.2.1)] at h;injection h with e1 h;injection h with e2 h;injection h with e3 e4;subst e1 e2 e3 e4;rcases hv with a | ⟨a,b⟩ | ⟨a,b,c⟩
     ·exact rp_ab s hs w z0 a h5 _ rfl (Int.not_le.1 h3)
     ·exact rp_bb s hs w z0 a b h5 _ rfl (Int.not_le.1 h3)
     ·exact rp_cb s hs w z0 a b _ rfl c h5 _ rfl (Int.not_le.1 h3)
   ·rw [if_neg (fun x => h5 x.1)] at h;injection h with e1 h;injection h with e2 h;injection h with e3 e4;subst e1 e2 e3 e4;rcases hv with a | ⟨a,b⟩ | ⟨a,b,c⟩
    ·exact rp_aa s hs w z0 a h5
    ·omega
    ·omega
end Go.Proofs.YtodcnbejnchmhaaGreatDoor.S6
