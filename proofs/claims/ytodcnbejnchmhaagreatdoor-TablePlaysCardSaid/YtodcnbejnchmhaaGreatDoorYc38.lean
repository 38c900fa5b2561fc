import Derived.Test.YtodcnbejnchmhaaGreatDoorYc37
set_option maxRecDepth 100000
set_option maxHeartbeats 1600000
namespace Go.Proofs.YtodcnbejnchmhaaGreatDoor
open _root_.Go.Proofs.Tryz
open Go.RowKit Go.Mem Go.Lin

theorem kindOf_s (s : ByteArray) (hs : s.size ≤ 1000000) (w : World) (k : Nat) (hk : QbR s.data.toList = k) : Calls Tryz.prog 158 #[.string s] w fun e w' => e = .returned (intV (k : Int)) ∧ Fr w w' (fun _ => False) := by
 have hb := S8.Qag s;obtain ⟨n,hn⟩ : ∃ n,Go.Kwd.headD s.data.toList = n := ⟨_,rfl⟩;have hh := head_any s.data.toList (by omega) w n hn;rw [show strV s.data.toList = Value.string s from (S8.QeU s).symm] at hh;have HH := Xi hh;unfold QbR at hk;rw [hn] at hk;have hcases : n = 1 ∨ n = 2 ∨ n = 3 ∨ (n ≠ 1 ∧ n ≠ 2 ∧ n ≠ 3) := by omega
 rcases hcases with rfl | rfl | rfl | ⟨g1,g2,g3⟩
 ·obtain rfl : 1 = k := by simpa using hk
  clear hk hn hh hb;go_enter func158,ntmps158;go_wp2_with fail;refine HH.out.mono ?_;rintro e w2 ⟨rfl,hf2⟩;have HF2 := Xi hf2;clear hf2;go_wp2_with fail;go_ret;exact ⟨rfl,HF2.out⟩
 ·obtain rfl : 2 = k := by simpa using hk
  clear hk hn hh hb;go_enter func158,ntmps158;go_wp2_with fail;refine HH.out.mono ?_;rintro e w2 ⟨rfl,hf2⟩;have HF2 := Xi hf2;clear hf2;go_wp2_with fail;go_ret;exact ⟨rfl,HF2.out⟩
 ·obtain rfl : 4 = k := by simpa using hk
  clear hk hn hh hb;go_enter func158,ntmps158;go_wp2_with fail;refine HH.out.mono ?_;rintro e w2 ⟨rfl,hf2⟩;have HF2 := Xi hf2;clear hf2;go_wp2_with fail;go_ret;exact ⟨rfl,HF2.out⟩
 ·have e1 : ((n : Int) == 1) = false := by simp; omega
  have e2 : ((n : Int) == 2) = false := by simp; omega
  have e3 : ((n : Int) == 3) = false := by simp; omega
  rw [if_neg g1,if_neg g2,if_neg g3] at hk;by_cases h0 : s.size = 0
  ·obtain ⟨he,h2⟩ := S8.Qic h0;rw [h2] at hk;obtain rfl : 0 = k := by simpa [QeM] using hk
   clear hk hn hh hb h2 g1 g2 g3;go_enter func158,ntmps158;go_wp2_with fail;refine HH.out.mono ?_;rintro e w2 ⟨rfl,hf2⟩;have HF2 := Xi hf2;clear hf2;go_wp2_with fail;go_ret;exact ⟨rfl,HF2.out⟩
  ·have hpos : 0 < s.size := by omega
   have he := (S8.Qej hpos).1;obtain ⟨c,r,hl⟩ : ∃ c r,s.data.toList = c :: r := by
    cases hl : s.data.toList with
    | nil => exact absurd hl (S8.Qej hpos).2
    | cons c r => exact ⟨c,r,rfl⟩
   obtain ⟨_,hc,-⟩ := S8.QaS (s := s) (a := 0) (by rw [List.drop_zero]; exact hl);obtain ⟨d,hd⟩ : ∃ d,((s[0].toNat : Int) == 45) = d := ⟨_,rfl⟩;obtain ⟨z,hz⟩ : ∃ z,Go.Kwd.Qbc s[0] = z := ⟨_,rfl⟩;have hk : k = if (d || z) = true then 3 else 0 := by
    rw [← hk,hl];show (if (c == 45 || Go.Kwd.Qbc c) = true then 3 else 0) = _;rw [← hc,S8.QbC];rw [← hz,← hd];rfl
   have HD := Xi (fun W => QdS s[0] W);have HD := Xi (fun W => (show Calls Tryz.prog 183 #[.int .u8 (s[0].toNat : Int)] W fun e w' => e = .returned (.bool z) ∧ W = w' by rw [← hz]; exact HD.out W));clear hn hh hb g1 g2 g3 hz hl hc h0;cases d with
   | true =>
    obtain rfl : k = 3 := by simpa using hk
    clear hk;go_enter func158,ntmps158;go_wp2_with fail;refine HH.out.mono ?_;rintro e w2 ⟨rfl,hf2⟩;have HF2 := Xi hf2;clear hf2;go_wp2_with fail;go_ret;exact ⟨rfl,HF2.out⟩
   | false =>
    have e45 : ((s[0].toNat : Int) == 45) = false := hd;cases z with
    | true =>
     obtain rfl : k = 3 := by simpa using hk
     clear hk;go_enter func158,ntmps158;go_wp2_with fail;refine HH.out.mono ?_;rintro e w2 ⟨rfl,hf2⟩;have HF2 := Xi hf2;clear hf2;go_wp2_with fail;refine (HD.out _).mono ?_;rintro e w3 ⟨rfl,rfl⟩;go_wp2_with fail;go_ret;exact ⟨rfl,HF2.out⟩
    | false =>
     obtain rfl : k = 0 := by simpa using hk
     clear hk;go_enter func158,ntmps158;go_wp2_with fail;refine HH.out.mono ?_;rintro e w2 ⟨rfl,hf2⟩;have HF2 := Xi hf2;clear hf2;go_wp2_with fail;refine (HD.out _).mono ?_;rintro e w3 ⟨rfl,rfl⟩;go_wp2_with fail;go_ret;exact ⟨rfl,HF2.out⟩
theorem Qbt (l : Bs) (hl : l.length ≤ 1000000) (w : World) (k : Nat) (hk : QbR l = k) : Calls Tryz.prog 158 #[strV l] w fun e w' => e = .returned (intV (k : Int)) ∧ Fr w w' (fun _ => False) := kindOf_s ⟨l.toArray⟩ (by rw [Qal]; exact hl) w k hk
/-- what begin answers -/
def Qe9 (fs : List Qat) (g b : Nat) (r : Except Er Nat) (w : World) (e : Ending) (w' : World) : Prop := match r with
 | .ok k => e = .returned (intV (k : Int)) ∧ LeftAt w' b g (fs.drop (if k = 3 then 0 else 1)) ∧ Fr w w' (· = b)
 | .error x => e = QcN (QaC x.2 (QbW fs x.1)) ∧ Fr w w' (· = b)
theorem Qn5 (x : Qat) (r : List Qat) (hz : x.1.length ≤ 100000) (w0 w : World) (b g : Nat) (ho : Ok w0 w b g) (h : LeftAt w b g (x :: r)) (hk : QbR x.1 = 0) :
  Calls Tryz.prog 140 #[.pointer (some ⟨b,0,none⟩)] w (Qe9 (x :: r) g b (.error (0,3)) w) := by
 have hbs := h.lt;obtain ⟨off,c,hb,hc,c0,c1,hL⟩ := h.open;have d0 := Qaj hb 0 _ rfl;have HL := Xi h;have HX := Xi hL;have HB := Xi hb;have HO := Xi ho;have HE := Xi (Blk.made w 172 #[strV x.1,intV (x.2 : Int)]);have HK := Xi (fun W => Qbt x.1 (by omega) W 0 hk);clear hL hb h ho hk;go_enter func140,ntmps140;go_wp2_with fail;refine (HK.out _).mono ?_;rintro e w2 ⟨rfl,hf2⟩;have hF2 := ff (Fr.new w _ _) hf2;have HF2 := Xi hF2;have HB2 := Xb hF2 HB;have d2 := Qaj HB2.out 0 _ rfl;have e1 := Qaj (hf2.blk HE.out (fun h => h)) 1 _ rfl;clear hF2 hf2 HK;go_wp2_with fail;refine (Qbv _ _ _).mono ?_;rintro e w3 ⟨rfl,hf3⟩;have HF3 := Xf HF2 hf3;clear hf3;go_wp2_with fail;exact ⟨rfl,rfl,fr_b HF3.out⟩
theorem Qn9 (x : Qat) (r : List Qat) (hz : x.1.length ≤ 100000) (w0 w : World) (b g : Nat) (ho : Ok w0 w b g) (h : LeftAt w b g (x :: r)) (hk : QbR x.1 = 1) (hn : (r.length : Int) + 1 < 10) :
  Calls Tryz.prog 140 #[.pointer (some ⟨b,0,none⟩)] w (Qe9 (x :: r) g b (.error (0,4)) w) := by
 have hbs := h.lt;obtain ⟨off,c,hb,hc,c0,c1,hL⟩ := h.open;have d0 := Qaj hb 0 _ rfl;have HL := Xi h;have HX := Xi hL;have HB := Xi hb;have HO := Xi ho;have HE := Xi (Blk.made w 172 #[strV x.1,intV (x.2 : Int)]);have HK := Xi (fun W => Qbt x.1 (by omega) W 1 hk);clear hL hb h ho hk;go_enter func140,ntmps140;go_wp2_with fail;refine (HK.out _).mono ?_;rintro e w2 ⟨rfl,hf2⟩;have hF2 := ff (Fr.new w _ _) hf2;have HF2 := Xi hF2;have HB2 := Xb hF2 HB;have d2 := Qaj HB2.out 0 _ rfl;have e1 := Qaj (hf2.blk HE.out (fun h => h)) 1 _ rfl;have k0 : w2.cell? ⟨1,2,none⟩ = some (intV 10) := (HO.out.at_ HF2.out).counts 2 (by omega);have k1 : w2.cell? ⟨1,3,none⟩ = some (intV 10) := (HO.out.at_ HF2.out).counts 3 (by omega);clear hF2 hf2 HK;go_wp2_with fail;refine (Qbv _ _ _).mono ?_;rintro e w3 ⟨rfl,hf3⟩;have HF3 := Xf HF2 hf3;clear hf3;go_wp2_with fail;exact ⟨rfl,rfl,fr_b HF3.out⟩
theorem QlI (x : Qat) (r : List Qat) (hz : x.1.length ≤ 100000) (w0 w : World) (b g : Nat) (ho : Ok w0 w b g) (h : LeftAt w b g (x :: r)) (hk : QbR x.1 = 1) (hn : 10 < (r.length : Int) + 1) :
  Calls Tryz.prog 140 #[.pointer (some ⟨b,0,none⟩)] w (Qe9 (x :: r) g b (.error (0,4)) w) := by
 have hbs := h.lt;obtain ⟨off,c,hb,hc,c0,c1,hL⟩ := h.open;have d0 := Qaj hb 0 _ rfl;have HL := Xi h;have HX := Xi hL;have HB := Xi hb;have HO := Xi ho;have HE := Xi (Blk.made w 172 #[strV x.1,intV (x.2 : Int)]);have HK := Xi (fun W => Qbt x.1 (by omega) W 1 hk);clear hL hb h ho hk;go_enter func140,ntmps140;go_wp2_with fail;refine (HK.out _).mono ?_;rintro e w2 ⟨rfl,hf2⟩;have hF2 := ff (Fr.new w _ _) hf2;have HF2 := Xi hF2;have HB2 := Xb hF2 HB;have d2 := Qaj HB2.out 0 _ rfl;have e1 := Qaj (hf2.blk HE.out (fun h => h)) 1 _ rfl;have k0 : w2.cell? ⟨1,2,none⟩ = some (intV 10) := (HO.out.at_ HF2.out).counts 2 (by omega);have k1 : w2.cell? ⟨1,3,none⟩ = some (intV 10) := (HO.out.at_ HF2.out).counts 3 (by omega);have hn2 : 10 ≤ (r.length : Int) + 1 := by omega
 clear hF2 hf2 HK;go_wp2_with fail;refine (Qbv _ _ _).mono ?_;rintro e w3 ⟨rfl,hf3⟩;have HF3 := Xf HF2 hf3;clear hf3;go_wp2_with fail;exact ⟨rfl,rfl,fr_b HF3.out⟩
theorem Qqm (x : Qat) (r : List Qat) (hz : x.1.length ≤ 100000) (w0 w : World) (b g : Nat) (ho : Ok w0 w b g) (h : LeftAt w b g (x :: r)) (hk : QbR x.1 = 1) (hn1 : 10 ≤ (r.length : Int) + 1) (hn2 : (r.length : Int) + 1 ≤ 10) :
  Calls Tryz.prog 140 #[.pointer (some ⟨b,0,none⟩)] w (Qe9 (x :: r) g b (.ok 1) w) := by
 have hbs := h.lt;obtain ⟨off,c,hb,hc,c0,c1,hL⟩ := h.open;have d0 := Qaj hb 0 _ rfl;have HL := Xi h;have HX := Xi hL;have HB := Xi hb;have HO := Xi ho;have HE := Xi (Blk.made w 172 #[strV x.1,intV (x.2 : Int)]);have HK := Xi (fun W => Qbt x.1 (by omega) W 1 hk);clear hL hb h ho hk;go_enter func140,ntmps140;go_wp2_with fail;refine (HK.out _).mono ?_;rintro e w2 ⟨rfl,hf2⟩;have hF2 := ff (Fr.new w _ _) hf2;have HF2 := Xi hF2;have HB2 := Xb hF2 HB;have d2 := Qaj HB2.out 0 _ rfl;have e1 := Qaj (hf2.blk HE.out (fun h => h)) 1 _ rfl;have k0 : w2.cell? ⟨1,2,none⟩ = some (intV 10) := (HO.out.at_ HF2.out).counts 2 (by omega);have k1 : w2.cell? ⟨1,3,none⟩ = some (intV 10) := (HO.out.at_ HF2.out).counts 3 (by omega);have hbg := HO.out.hg;have f2 := Qac HB2.out 0;have l1 : (1 : Int) ≤ (r.length + 1 : Int) := by omega
 have l2 : (r.length + 1 : Int) ≤ (c : Int) := by omega
 clear hF2 hf2 HK;go_wp2_with fail;go_ret;have hf3 := Qe5 HF2.out b 0 (.slice (some ⟨g,off + 2,none⟩) r.length (c - 1));have hcut : Mem.cutA (some ⟨g,off,none⟩) c 1 2 = some ⟨g,off + 2,none⟩ := by
  unfold Mem.cutA;rw [if_neg (by omega)];rfl
 rw [hcut] at HX;exact ⟨rfl,HX.out _ _ hf3 hbg (HB2.out.put' (cs' := #[.slice (some ⟨g,off + 2,none⟩) r.length (c - 1)]) 0 _ (by simp)),hf3⟩
theorem Qn8 (x : Qat) (r : List Qat) (hz : x.1.length ≤ 100000) (w0 w : World) (b g : Nat) (ho : Ok w0 w b g) (h : LeftAt w b g (x :: r)) (hk : QbR x.1 = 2) (hn : (r.length : Int) + 1 < 5) :
  Calls Tryz.prog 140 #[.pointer (some ⟨b,0,none⟩)] w (Qe9 (x :: r) g b (.error (0,4)) w) := by
 have hbs := h.lt;obtain ⟨off,c,hb,hc,c0,c1,hL⟩ := h.open;have d0 := Qaj hb 0 _ rfl;have HL := Xi h;have HX := Xi hL;have HB := Xi hb;have HO := Xi ho;have HE := Xi (Blk.made w 172 #[strV x.1,intV (x.2 : Int)]);have HK := Xi (fun W => Qbt x.1 (by omega) W 2 hk);clear hL hb h ho hk;go_enter func140,ntmps140;go_wp2_with fail;refine (HK.out _).mono ?_;rintro e w2 ⟨rfl,hf2⟩;have hF2 := ff (Fr.new w _ _) hf2;have HF2 := Xi hF2;have HB2 := Xb hF2 HB;have d2 := Qaj HB2.out 0 _ rfl;have e1 := Qaj (hf2.blk HE.out (fun h => h)) 1 _ rfl;have k0 : w2.cell? ⟨1,4,none⟩ = some (intV 5) := (HO.out.at_ HF2.out).counts 4 (by omega);have k1 : w2.cell? ⟨1,5,none⟩ = some (intV 9) := (HO.out.at_ HF2.out).counts 5 (by omega);clear hF2 hf2 HK;go_wp2_with fail;refine (Qbv _ _ _).mono ?_;rintro e w3 ⟨rfl,hf3⟩;have HF3 := Xf HF2 hf3;clear hf3;go_wp2_with fail;exact ⟨rfl,rfl,fr_b HF3.out⟩
theorem QlH (x : Qat) (r : List Qat) (hz : x.1.length ≤ 100000) (w0 w : World) (b g : Nat) (ho : Ok w0 w b g) (h : LeftAt w b g (x :: r)) (hk : QbR x.1 = 2) (hn : 9 < (r.length : Int) + 1) :
  Calls Tryz.prog 140 #[.pointer (some ⟨b,0,none⟩)] w (Qe9 (x :: r) g b (.error (0,4)) w) := by
 have hbs := h.lt;obtain ⟨off,c,hb,hc,c0,c1,hL⟩ := h.open;have d0 := Qaj hb 0 _ rfl;have HL := Xi h;have HX := Xi hL;have HB := Xi hb;have HO := Xi ho;have HE := Xi (Blk.made w 172 #[strV x.1,intV (x.2 : Int)]);have HK := Xi (fun W => Qbt x.1 (by omega) W 2 hk);clear hL hb h ho hk;go_enter func140,ntmps140;go_wp2_with fail;refine (HK.out _).mono ?_;rintro e w2 ⟨rfl,hf2⟩;have hF2 := ff (Fr.new w _ _) hf2;have HF2 := Xi hF2;have HB2 := Xb hF2 HB;have d2 := Qaj HB2.out 0 _ rfl;have e1 := Qaj (hf2.blk HE.out (fun h => h)) 1 _ rfl;have k0 : w2.cell? ⟨1,4,none⟩ = some (intV 5) := (HO.out.at_ HF2.out).counts 4 (by omega);have k1 : w2.cell? ⟨1,5,none⟩ = some (intV 9) := (HO.out.at_ HF2.out).counts 5 (by omega);have hn2 : 5 ≤ (r.length : Int) + 1 := by omega
 clear hF2 hf2 HK;go_wp2_with fail;refine (Qbv _ _ _).mono ?_;rintro e w3 ⟨rfl,hf3⟩;have HF3 := Xf HF2 hf3;clear hf3;go_wp2_with fail;exact ⟨rfl,rfl,fr_b HF3.out⟩
theorem Qql (x : Qat) (r : List Qat) (hz : x.1.length ≤ 100000) (w0 w : World) (b g : Nat) (ho : Ok w0 w b g) (h : LeftAt w b g (x :: r)) (hk : QbR x.1 = 2) (hn1 : 5 ≤ (r.length : Int) + 1) (hn2 : (r.length : Int) + 1 ≤ 9) :
  Calls Tryz.prog 140 #[.pointer (some ⟨b,0,none⟩)] w (Qe9 (x :: r) g b (.ok 2) w) := by
 have hbs := h.lt;obtain ⟨off,c,hb,hc,c0,c1,hL⟩ := h.open;have d0 := Qaj hb 0 _ rfl;have HL := Xi h;have HX := Xi hL;have HB := Xi hb;have HO := Xi ho;have HE := Xi (Blk.made w 172 #[strV x.1,intV (x.2 : Int)]);have HK := Xi (fun W => Qbt x.1 (by omega) W 2 hk);clear hL hb h ho hk;go_enter func140,ntmps140;go_wp2_with fail;refine (HK.out _).mono ?_;rintro e w2 ⟨rfl,hf2⟩;have hF2 := ff (Fr.new w _ _) hf2;have HF2 := Xi hF2;have HB2 := Xb hF2 HB;have d2 := Qaj HB2.out 0 _ rfl;have e1 := Qaj (hf2.blk HE.out (fun h => h)) 1 _ rfl;have k0 : w2.cell? ⟨1,4,none⟩ = some (intV 5) := (HO.out.at_ HF2.out).counts 4 (by omega);have k1 : w2.cell? ⟨1,5,none⟩ = some (intV 9) := (HO.out.at_ HF2.out).counts 5 (by omega);have hbg := HO.out.hg;have f2 := Qac HB2.out 0;have l1 : (1 : Int) ≤ (r.length + 1 : Int) := by omega
 have l2 : (r.length + 1 : Int) ≤ (c : Int) := by omega
 clear hF2 hf2 HK;go_wp2_with fail;go_ret;have hf3 := Qe5 HF2.out b 0 (.slice (some ⟨g,off + 2,none⟩) r.length (c - 1));have hcut : Mem.cutA (some ⟨g,off,none⟩) c 1 2 = some ⟨g,off + 2,none⟩ := by
  unfold Mem.cutA;rw [if_neg (by omega)];rfl
 rw [hcut] at HX;exact ⟨rfl,HX.out _ _ hf3 hbg (HB2.out.put' (cs' := #[.slice (some ⟨g,off + 2,none⟩) r.length (c - 1)]) 0 _ (by simp)),hf3⟩
theorem Qn7 (x : Qat) (r : List Qat) (hz : x.1.length ≤ 100000) (w0 w : World) (b g : Nat) (ho : Ok w0 w b g) (h : LeftAt w b g (x :: r)) (hk : QbR x.1 = 3) (hn : (r.length : Int) + 1 < 3) :
  Calls Tryz.prog 140 #[.pointer (some ⟨b,0,none⟩)] w (Qe9 (x :: r) g b (.error (0,4)) w) := by
 have hbs := h.lt;obtain ⟨off,c,hb,hc,c0,c1,hL⟩ := h.open;have d0 := Qaj hb 0 _ rfl;have HL := Xi h;have HX := Xi hL;have HB := Xi hb;have HO := Xi ho;have HE := Xi (Blk.made w 172 #[strV x.1,intV (x.2 : Int)]);have HK := Xi (fun W => Qbt x.1 (by omega) W 3 hk);clear hL hb h ho hk;go_enter func140,ntmps140;go_wp2_with fail;refine (HK.out _).mono ?_;rintro e w2 ⟨rfl,hf2⟩;have hF2 := ff (Fr.new w _ _) hf2;have HF2 := Xi hF2;have HB2 := Xb hF2 HB;have d2 := Qaj HB2.out 0 _ rfl;have e1 := Qaj (hf2.blk HE.out (fun h => h)) 1 _ rfl;have k0 : w2.cell? ⟨1,6,none⟩ = some (intV 3) := (HO.out.at_ HF2.out).counts 6 (by omega);have k1 : w2.cell? ⟨1,7,none⟩ = some (intV 7) := (HO.out.at_ HF2.out).counts 7 (by omega);clear hF2 hf2 HK;go_wp2_with fail;refine (Qbv _ _ _).mono ?_;rintro e w3 ⟨rfl,hf3⟩;have HF3 := Xf HF2 hf3;clear hf3;go_wp2_with fail;exact ⟨rfl,rfl,fr_b HF3.out⟩
theorem QlG (x : Qat) (r : List Qat) (hz : x.1.length ≤ 100000) (w0 w : World) (b g : Nat) (ho : Ok w0 w b g) (h : LeftAt w b g (x :: r)) (hk : QbR x.1 = 3) (hn : 7 < (r.length : Int) + 1) :
  Calls Tryz.prog 140 #[.pointer (some ⟨b,0,none⟩)] w (Qe9 (x :: r) g b (.error (0,4)) w) := by
 have hbs := h.lt;obtain ⟨off,c,hb,hc,c0,c1,hL⟩ := h.open;have d0 := Qaj hb 0 _ rfl;have HL := Xi h;have HX := Xi hL;have HB := Xi hb;have HO := Xi ho;have HE := Xi (Blk.made w 172 #[strV x.1,intV (x.2 : Int)]);have HK := Xi (fun W => Qbt x.1 (by omega) W 3 hk);clear hL hb h ho hk;go_enter func140,ntmps140;go_wp2_with fail;refine (HK.out _).mono ?_;rintro e w2 ⟨rfl,hf2⟩;have hF2 := ff (Fr.new w _ _) hf2;have HF2 := Xi hF2;have HB2 := Xb hF2 HB;have d2 := Qaj HB2.out 0 _ rfl;have e1 := Qaj (hf2.blk HE.out (fun h => h)) 1 _ rfl;have k0 : w2.cell? ⟨1,6,none⟩ = some (intV 3) := (HO.out.at_ HF2.out).counts 6 (by omega);have k1 : w2.cell? ⟨1,7,none⟩ = some (intV 7) := (HO.out.at_ HF2.out).counts 7 (by omega);have hn2 : 3 ≤ (r.length : Int) + 1 := by omega
 clear hF2 hf2 HK;go_wp2_with fail;refine (Qbv _ _ _).mono ?_;rintro e w3 ⟨rfl,hf3⟩;have HF3 := Xf HF2 hf3;clear hf3;go_wp2_with fail;exact ⟨rfl,rfl,fr_b HF3.out⟩
theorem Qqk (x : Qat) (r : List Qat) (hz : x.1.length ≤ 100000) (w0 w : World) (b g : Nat) (ho : Ok w0 w b g) (h : LeftAt w b g (x :: r)) (hk : QbR x.1 = 3) (hn1 : 3 ≤ (r.length : Int) + 1) (hn2 : (r.length : Int) + 1 ≤ 7) :
  Calls Tryz.prog 140 #[.pointer (some ⟨b,0,none⟩)] w (Qe9 (x :: r) g b (.ok 3) w) := by
 have hbs := h.lt;obtain ⟨off,c,hb,hc,c0,c1,hL⟩ := h.open;have d0 := Qaj hb 0 _ rfl;have HL := Xi h;have HX := Xi hL;have HB := Xi hb;have HO := Xi ho;have HE := Xi (Blk.made w 172 #[strV x.1,intV (x.2 : Int)]);have HK := Xi (fun W => Qbt x.1 (by omega) W 3 hk);clear hL hb h ho hk;go_enter func140,ntmps140;go_wp2_with fail;refine (HK.out _).mono ?_;rintro e w2 ⟨rfl,hf2⟩;have hF2 := ff (Fr.new w _ _) hf2;have HF2 := Xi hF2;have HB2 := Xb hF2 HB;have d2 := Qaj HB2.out 0 _ rfl;have e1 := Qaj (hf2.blk HE.out (fun h => h)) 1 _ rfl;have k0 : w2.cell? ⟨1,6,none⟩ = some (intV 3) := (HO.out.at_ HF2.out).counts 6 (by omega);have k1 : w2.cell? ⟨1,7,none⟩ = some (intV 7) := (HO.out.at_ HF2.out).counts 7 (by omega);have hbg := HO.out.hg;have f2 := Qac HB2.out 0;have l1 : (1 : Int) ≤ (r.length + 1 : Int) := by omega
 have l2 : (r.length + 1 : Int) ≤ (c : Int) := by omega
 clear hF2 hf2 HK;go_wp2_with fail;go_ret;exact ⟨rfl,HL.out.fr HF2.out (fun h => h) (fun h => h),fr_b HF2.out⟩
theorem Qn6 (x : Qat) (r : List Qat) (hz : x.1.length ≤ 100000) (w0 w : World) (b g : Nat) (ho : Ok w0 w b g) (h : LeftAt w b g (x :: r)) (hk : QbR x.1 = 4) (hn : (r.length : Int) + 1 < 3) :
  Calls Tryz.prog 140 #[.pointer (some ⟨b,0,none⟩)] w (Qe9 (x :: r) g b (.error (0,4)) w) := by
 have hbs := h.lt;obtain ⟨off,c,hb,hc,c0,c1,hL⟩ := h.open;have d0 := Qaj hb 0 _ rfl;have HL := Xi h;have HX := Xi hL;have HB := Xi hb;have HO := Xi ho;have HE := Xi (Blk.made w 172 #[strV x.1,intV (x.2 : Int)]);have HK := Xi (fun W => Qbt x.1 (by omega) W 4 hk);clear hL hb h ho hk;go_enter func140,ntmps140;go_wp2_with fail;refine (HK.out _).mono ?_;rintro e w2 ⟨rfl,hf2⟩;have hF2 := ff (Fr.new w _ _) hf2;have HF2 := Xi hF2;have HB2 := Xb hF2 HB;have d2 := Qaj HB2.out 0 _ rfl;have e1 := Qaj (hf2.blk HE.out (fun h => h)) 1 _ rfl;have k0 : w2.cell? ⟨1,8,none⟩ = some (intV 3) := (HO.out.at_ HF2.out).counts 8 (by omega);have k1 : w2.cell? ⟨1,9,none⟩ = some (intV 3) := (HO.out.at_ HF2.out).counts 9 (by omega);clear hF2 hf2 HK;go_wp2_with fail;refine (Qbv _ _ _).mono ?_;rintro e w3 ⟨rfl,hf3⟩;have HF3 := Xf HF2 hf3;clear hf3;go_wp2_with fail;exact ⟨rfl,rfl,fr_b HF3.out⟩
theorem QlF (x : Qat) (r : List Qat) (hz : x.1.length ≤ 100000) (w0 w : World) (b g : Nat) (ho : Ok w0 w b g) (h : LeftAt w b g (x :: r)) (hk : QbR x.1 = 4) (hn : 3 < (r.length : Int) + 1) :
  Calls Tryz.prog 140 #[.pointer (some ⟨b,0,none⟩)] w (Qe9 (x :: r) g b (.error (0,4)) w) := by
 have hbs := h.lt;obtain ⟨off,c,hb,hc,c0,c1,hL⟩ := h.open;have d0 := Qaj hb 0 _ rfl;have HL := Xi h;have HX := Xi hL;have HB := Xi hb;have HO := Xi ho;have HE := Xi (Blk.made w 172 #[strV x.1,intV (x.2 : Int)]);have HK := Xi (fun W => Qbt x.1 (by omega) W 4 hk);clear hL hb h ho hk;go_enter func140,ntmps140;go_wp2_with fail;refine (HK.out _).mono ?_;rintro e w2 ⟨rfl,hf2⟩;have hF2 := ff (Fr.new w _ _) hf2;have HF2 := Xi hF2;have HB2 := Xb hF2 HB;have d2 := Qaj HB2.out 0 _ rfl;have e1 := Qaj (hf2.blk HE.out (fun h => h)) 1 _ rfl;have k0 : w2.cell? ⟨1,8,none⟩ = some (intV 3) := (HO.out.at_ HF2.out).counts 8 (by omega);have k1 : w2.cell? ⟨1,9,none⟩ = some (intV 3) := (HO.out.at_ HF2.out).counts 9 (by omega);have hn2 : 3 ≤ (r.length : Int) + 1 := by omega
 clear hF2 hf2 HK;go_wp2_with fail;refine (Qbv _ _ _).mono ?_;rintro e w3 ⟨rfl,hf3⟩;have HF3 := Xf HF2 hf3;clear hf3;go_wp2_with fail;exact ⟨rfl,rfl,fr_b HF3.out⟩
theorem Qqj (x : Qat) (r : List Qat) (hz : x.1.length ≤ 100000) (w0 w : World) (b g : Nat) (ho : Ok w0 w b g) (h : LeftAt w b g (x :: r)) (hk : QbR x.1 = 4) (hn1 : 3 ≤ (r.length : Int) + 1) (hn2 : (r.length : Int) + 1 ≤ 3) :
  Calls Tryz.prog 140 #[.pointer (some ⟨b,0,none⟩)] w (Qe9 (x :: r) g b (.ok 4) w) := by
 have hbs := h.lt;obtain ⟨off,c,hb,hc,c0,c1,hL⟩ := h.open;have d0 := Qaj hb 0 _ rfl;have HL := Xi h;have HX := Xi hL;have HB := Xi hb;have HO := Xi ho;have HE := Xi (Blk.made w 172 #[strV x.1,intV (x.2 : Int)]);have HK := Xi (fun W => Qbt x.1 (by omega) W 4 hk);clear hL hb h ho hk;go_enter func140,ntmps140;go_wp2_with fail;refine (HK.out _).mono ?_;rintro e w2 ⟨rfl,hf2⟩;have hF2 := ff (Fr.new w _ _) hf2;have HF2 := Xi hF2;have HB2 := Xb hF2 HB;have d2 := Qaj HB2.out 0 _ rfl;have e1 := Qaj (hf2.blk HE.out (fun h => h)) 1 _ rfl;have k0 : w2.cell? ⟨1,8,none⟩ = some (intV 3) := (HO.out.at_ HF2.out).counts 8 (by omega);have k1 : w2.cell? ⟨1,9,none⟩ = some (intV 3) := (HO.out.at_ HF2.out).counts 9 (by omega);have hbg := HO.out.hg;have f2 := Qac HB2.out 0;have l1 : (1 : Int) ≤ (r.length + 1 : Int) := by omega
 have l2 : (r.length + 1 : Int) ≤ (c : Int) := by omega
 clear hF2 hf2 HK;go_wp2_with fail;go_ret;have hf3 := Qe5 HF2.out b 0 (.slice (some ⟨g,off + 2,none⟩) r.length (c - 1));have hcut : Mem.cutA (some ⟨g,off,none⟩) c 1 2 = some ⟨g,off + 2,none⟩ := by
  unfold Mem.cutA;rw [if_neg (by omega)];rfl
 rw [hcut] at HX;exact ⟨rfl,HX.out _ _ hf3 hbg (HB2.out.put' (cs' := #[.slice (some ⟨g,off + 2,none⟩) r.length (c - 1)]) 0 _ (by simp)),hf3⟩
theorem Qb6 (fs : List Qat) (hz : ∀ x ∈ fs,x.1.length ≤ 100000) (hne : fs ≠ []) (w0 w : World) (b g : Nat) (ho : Ok w0 w b g) (h : LeftAt w b g fs) :
  Calls Tryz.prog 140 #[.pointer (some ⟨b,0,none⟩)] w (Qe9 fs g b (Qd4 fs) w) := by
 cases fs with
 | nil => exact absurd rfl hne
 | cons x r =>
  have hx := hz x (by simp);unfold Qd4;show Calls Tryz.prog 140 _ w (Qe9 (x :: r) g b (if QbR x.1 = 0 then _ else if (r.length + 1) < Qef (QbR x.1) ∨ Qg8 (QbR x.1) < (r.length + 1) then _ else .ok (QbR x.1)) w);rcases Qh6 x.1 with hk | hk | hk | hk | hk
  ·rw [hk,if_pos rfl];exact Qn5 x r hx w0 w b g ho h hk
  ·rw [hk,if_neg (by decide),show Qef 1 = 10 from rfl,show Qg8 1 = 10 from rfl];by_cases hn : r.length + 1 < 10 ∨ 10 < r.length + 1
   ·rw [if_pos hn];rcases hn with hn | hn
    ·exact Qn9 x r hx w0 w b g ho h hk (by omega)
    ·exact QlI x r hx w0 w b g ho h hk (by omega)
   ·rw [if_neg hn];exact Qqm x r hx w0 w b g ho h hk (by omega) (by omega)
  ·rw [hk,if_neg (by decide),show Qef 2 = 5 from rfl,show Qg8 2 = 9 from rfl];by_cases hn : r.length + 1 < 5 ∨ 9 < r.length + 1
   ·rw [if_pos hn];rcases hn with hn | hn
    ·exact Qn8 x r hx w0 w b g ho h hk (by omega)
    ·exact QlH x r hx w0 w b g ho h hk (by omega)
   ·rw [if_neg hn];exact Qql x r hx w0 w b g ho h hk (by omega) (by omega)
  ·rw [hk,if_neg (by decide),show Qef 3 = 3 from rfl,show Qg8 3 = 7 from rfl];by_cases hn : r.length + 1 < 3 ∨ 7 < r.length + 1
   ·rw [if_pos hn];rcases hn with hn | hn
    ·exact Qn7 x r hx w0 w b g ho h hk (by omega)
    ·exact QlG x r hx w0 w b g ho h hk (by omega)
   ·rw [if_neg hn];exact Qqk x r hx w0 w b g ho h hk (by omega) (by omega)
  ·rw [hk,if_neg (by decide),show Qef 4 = 3 from rfl,show Qg8 4 = 3 from rfl];by_cases hn : r.length + 1 < 3 ∨ 3 < r.length + 1
   ·rw [if_pos hn];rcases hn with hn | hn
    ·exact Qn6 x r hx w0 w b g ho h hk (by omega)
    ·exact QlF x r hx w0 w b g ho h hk (by omega)
   ·rw [if_neg hn];exact Qqj x r hx w0 w b g ho h hk (by omega) (by omega)
end Go.Proofs.YtodcnbejnchmhaaGreatDoor
