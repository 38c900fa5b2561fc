import Derived.Test.YtffljhieijnakaaSek
import Derived.OwnWalk
namespace Go.Proofs.Ytffljhieijnakaa
open Go.RowKit Go.Mem Go.Rope

theorem take_app_r {a b : Bs} {n : Nat} (h : a.length ≤ n) : feeds ((a ++ b).take n) = feeds a + feeds (b.take (n - a.length)) := by
  rw [List.take_append, List.take_of_length_le h, feeds_app]
/-- how the search goes for a line feed, and for a byte -/
def BInv (l : Bs) (a0 : Nat) (s : Bs) (a d : Nat) : Prop := 1 ≤ a ∧ a ≤ feeds s ∧ behind l a0 = d + behind s a ∧ d + s.length ≤ l.length
def PInv (l : Bs) (a0 : Nat) (s : Bs) (a d : Nat) : Prop := a ≤ s.length ∧ feeds (l.take a0) = d + feeds (s.take a) ∧ d + feeds s ≤ feeds l ∧ s.length ≤ l.length
theorem BInv.left {l sc sd : Bs} {a0 a d : Nat} (h : BInv l a0 (sc ++ sd) a d) (hl : a ≤ feeds sc) : BInv l a0 sc a d := by
  obtain ⟨h1, h2, h3, h4⟩ := h
  rw [behind_left sd hl] at h3
  rw [List.length_append] at h4
  exact ⟨h1, hl, h3, by omega⟩
theorem BInv.right {l sc sd : Bs} {a0 a d : Nat} (h : BInv l a0 (sc ++ sd) a d) (hl : feeds sc < a) : BInv l a0 sd (a - feeds sc) (d + sc.length) := by
  obtain ⟨h1, h2, h3, h4⟩ := h
  rw [behind_right sd hl] at h3
  rw [feeds_app] at h2
  rw [List.length_append] at h4
  exact ⟨by omega, by omega, by omega, by omega⟩
theorem PInv.left {l sc sd : Bs} {a0 a d : Nat} (h : PInv l a0 (sc ++ sd) a d) (hl : a ≤ sc.length) : PInv l a0 sc a d := by
  obtain ⟨h1, h2, h3, h4⟩ := h
  rw [List.take_append_of_le_length hl] at h2
  rw [feeds_app] at h3
  rw [List.length_append] at h4
  exact ⟨hl, h2, by omega, by omega⟩
theorem PInv.right {l sc sd : Bs} {a0 a d : Nat} (h : PInv l a0 (sc ++ sd) a d) (hl : sc.length < a) : PInv l a0 sd (a - sc.length) (d + feeds sc) := by
  obtain ⟨h1, h2, h3, h4⟩ := h
  rw [take_app_r (by omega)] at h2
  rw [feeds_app] at h3
  rw [List.length_append] at h1 h4
  exact ⟨by omega, by omega, by omega, by omega⟩

def SB (w : World) (B : Nat) (l : Bs) (a0 g : Nat) (v0 v1 v10 : Value) (wr : World) : Prop := w = wr ∧ ∃ (s : Bs) (a d : Nat), NodeAt w B v0 s g ∧ v1 = .int .i64 (a : Int) ∧ v10 = .int .i64 (d : Int) ∧ BInv l a0 s a d
def SeekB (w : World) (B : Nat) (l : Bs) (a0 : Nat) (e : Ending) (w' : World) : Prop := ∃ (v : Value) (s : Bs) (a d g : Nat), e = .returned (.tuple #[v, .int .i64 (a : Int), .int .i64 (d : Int)]) ∧ NodeAt w B v s g ∧ g ≤ 1 ∧ BInv l a0 s a d ∧ w = w'
set_option maxHeartbeats 1000000 in
theorem seekB_any {w : World} {B : Nat} {v : Value} {l : Bs} {h : Nat} (n : NodeAt w B v l h) (hl : l.length ≤ 100000) (a0 : Nat) (hi : BInv l a0 l a0 0) :
    Calls Try.prog 36 #[v, .int .i64 (a0 : Int), .func (.func 33) #[] #[], .func (.func 29) #[] #[]] w (SeekB w B l a0) := by
  have HN := Lib.hid n
  have HI := Lib.hid hi
  have hfl := feeds_le l
  clear n hi
  go_enter Try.func36, Try.ntmps36
  go_wp2_with fail
  go_loopg [0, 1, 10] h (fun g v0 v1 v10 wr => SB w B l a0 g v0 v1 v10 wr)
  case atStart => exact ⟨rfl, l, a0, 0, HN.out, rfl, rfl, HI.out⟩
  case round =>
    obtain ⟨rfl, s, a, d, n, rfl, rfl, hinv⟩ := hrel
    have HH := Lib.hid (height_any n)
    by_cases hg : gk ≤ 1
    · have t1 : ¬ ((gk : Int) > 1) := by omega
      have HN1 := Lib.hid n
      have HV := Lib.hid hinv
      clear n hinv
      go_wp2_with fail
      refine HH.out.mono ?_
      rintro e w' ⟨rfl, rfl⟩
      go_wp2_with fail
      go_ret3
      exact ⟨_, s, a, d, gk, rfl, HN1.out, hg, HV.out, rfl⟩
    · obtain ⟨g, gc, gd, sc, sd, hc, hd, rfl, rfl, e4, kg, nc, nd, i1, i2, i3, i4, -⟩ := n.two (by omega)
      have c0 := cell_at kg 0
      have c1 := cell_at kg 1
      simp at c0 c1
      have t1 : ((gk : Int) > 1) := by omega
      have HB := Lib.hid (breaks_any nc)
      have HO := Lib.hid (bytes_any nc)
      have HC := Lib.hid nc
      have HD := Lib.hid nd
      have hb1 : feeds (sc ++ sd) ≤ 100000 ∧ feeds sc ≤ 100000 ∧ sc.length ≤ 100000 ∧ a ≤ 100000 ∧ d ≤ 100000 := by
        have x1 := feeds_le sc
        have x2 := feeds_le (sc ++ sd)
        have x3 := feeds_app sc sd
        have x4 := hinv
        unfold BInv at x4
        rw [List.length_append] at *
        omega
      obtain ⟨p, hp⟩ : ∃ p : Nat, p = feeds sc := ⟨_, rfl⟩
      obtain ⟨q, hq⟩ : ∃ q : Nat, q = sc.length := ⟨_, rfl⟩
      rw [← hp] at HB hb1
      rw [← hq] at HO hb1
      obtain ⟨y1, y2, y3, y4, y5⟩ := hb1
      have HE := Lib.hid e4
      by_cases hle : a ≤ p
      · have t2 : ((a : Int) ≤ (p : Int)) := by omega
        have HV := Lib.hid (hinv.left (hp ▸ hle))
        clear n hinv kg nc nd e4 hp hq hg y1 hle
        go_wp2_with fail
        refine HH.out.mono ?_
        rintro e w' ⟨rfl, rfl⟩
        go_wp2_with fail
        refine HB.out.mono ?_
        rintro e w' ⟨rfl, rfl⟩
        go_wp2_with fail
        go_roundg hc
        case rel => exact ⟨rfl, sc, a, d, HC.out, rfl, rfl, HV.out⟩
        case measure => have := HE.out; omega
      · have t2 : ¬ ((a : Int) ≤ (p : Int)) := by omega
        have HV := Lib.hid (hinv.right (hp ▸ (show p < a by omega)))
        rw [← hp, ← hq] at HV
        have w1 : ((a - p : Nat) : Int) = (a : Int) - (p : Int) := by omega
        have W1 := Lib.hid w1
        have b1 : (p : Int) ≤ 100000 := by omega
        have b2 : (q : Int) ≤ 100000 := by omega
        have b3 : (a : Int) ≤ 100000 := by omega
        have b4 : (d : Int) ≤ 100000 := by omega
        clear n hinv kg nc nd e4 hp hq hg hle w1
        go_wp2_with fail
        refine HH.out.mono ?_
        rintro e w' ⟨rfl, rfl⟩
        go_wp2_with fail
        refine HB.out.mono ?_
        rintro e w' ⟨rfl, rfl⟩
        go_wp2_with fail
        refine HB.out.mono ?_
        rintro e w' ⟨rfl, rfl⟩
        go_wp2_with fail
        refine HO.out.mono ?_
        rintro e w' ⟨rfl, rfl⟩
        go_wp2_with fail
        go_roundg hd
        case rel => exact ⟨rfl, sd, a - p, d + q, HD.out, by rw [W1.out], by push_cast; rfl, HV.out⟩
        case measure => have := HE.out; omega

def SP (w : World) (B : Nat) (l : Bs) (a0 g : Nat) (v0 v1 v10 : Value) (wr : World) : Prop := w = wr ∧ ∃ (s : Bs) (a d : Nat), NodeAt w B v0 s g ∧ v1 = .int .i64 (a : Int) ∧ v10 = .int .i64 (d : Int) ∧ PInv l a0 s a d
def SeekP (w : World) (B : Nat) (l : Bs) (a0 : Nat) (e : Ending) (w' : World) : Prop := ∃ (v : Value) (s : Bs) (a d g : Nat), e = .returned (.tuple #[v, .int .i64 (a : Int), .int .i64 (d : Int)]) ∧ NodeAt w B v s g ∧ g ≤ 1 ∧ PInv l a0 s a d ∧ w = w'
set_option maxHeartbeats 1000000 in
theorem seekP_any {w : World} {B : Nat} {v : Value} {l : Bs} {h : Nat} (n : NodeAt w B v l h) (hl : l.length ≤ 100000) (a0 : Nat) (hi : PInv l a0 l a0 0) :
    Calls Try.prog 36 #[v, .int .i64 (a0 : Int), .func (.func 29) #[] #[], .func (.func 33) #[] #[]] w (SeekP w B l a0) := by
  have HN := Lib.hid n
  have HI := Lib.hid hi
  have hfl := feeds_le l
  clear n hi
  go_enter Try.func36, Try.ntmps36
  go_wp2_with fail
  go_loopg [0, 1, 10] h (fun g v0 v1 v10 wr => SP w B l a0 g v0 v1 v10 wr)
  case atStart => exact ⟨rfl, l, a0, 0, HN.out, rfl, rfl, HI.out⟩
  case round =>
    obtain ⟨rfl, s, a, d, n, rfl, rfl, hinv⟩ := hrel
    have HH := Lib.hid (height_any n)
    by_cases hg : gk ≤ 1
    · have t1 : ¬ ((gk : Int) > 1) := by omega
      have HN1 := Lib.hid n
      have HV := Lib.hid hinv
      clear n hinv
      go_wp2_with fail
      refine HH.out.mono ?_
      rintro e w' ⟨rfl, rfl⟩
      go_wp2_with fail
      go_ret3
      exact ⟨_, s, a, d, gk, rfl, HN1.out, hg, HV.out, rfl⟩
    · obtain ⟨g, gc, gd, sc, sd, hc, hd, rfl, rfl, e4, kg, nc, nd, i1, i2, i3, i4, -⟩ := n.two (by omega)
      have c0 := cell_at kg 0
      have c1 := cell_at kg 1
      simp at c0 c1
      have t1 : ((gk : Int) > 1) := by omega
      have HB := Lib.hid (bytes_any nc)
      have HO := Lib.hid (breaks_any nc)
      have HC := Lib.hid nc
      have HD := Lib.hid nd
      have hb1 : (sc ++ sd).length ≤ 100000 ∧ sc.length ≤ 100000 ∧ feeds sc ≤ 100000 ∧ a ≤ 100000 ∧ d ≤ 100000 := by
        have x1 := feeds_le sc
        have x2 := feeds_le (sc ++ sd)
        have x3 := feeds_app sc sd
        have x4 := hinv
        unfold PInv at x4
        rw [List.length_append] at *
        omega
      obtain ⟨p, hp⟩ : ∃ p : Nat, p = sc.length := ⟨_, rfl⟩
      obtain ⟨q, hq⟩ : ∃ q : Nat, q = feeds sc := ⟨_, rfl⟩
      rw [← hp] at HB hb1
      rw [← hq] at HO hb1
      obtain ⟨y1, y2, y3, y4, y5⟩ := hb1
      have HE := Lib.hid e4
      by_cases hle : a ≤ p
      · have t2 : ((a : Int) ≤ (p : Int)) := by omega
        have HV := Lib.hid (hinv.left (hp ▸ hle))
        clear n hinv kg nc nd e4 hp hq hg y1 hle
        go_wp2_with fail
        refine HH.out.mono ?_
        rintro e w' ⟨rfl, rfl⟩
        go_wp2_with fail
        refine HB.out.mono ?_
        rintro e w' ⟨rfl, rfl⟩
        go_wp2_with fail
        go_roundg hc
        case rel => exact ⟨rfl, sc, a, d, HC.out, rfl, rfl, HV.out⟩
        case measure => have := HE.out; omega
      · have t2 : ¬ ((a : Int) ≤ (p : Int)) := by omega
        have HV := Lib.hid (hinv.right (hp ▸ (show p < a by omega)))
        rw [← hp, ← hq] at HV
        have w1 : ((a - p : Nat) : Int) = (a : Int) - (p : Int) := by omega
        have W1 := Lib.hid w1
        have b1 : (p : Int) ≤ 100000 := by omega
        have b2 : (q : Int) ≤ 100000 := by omega
        have b3 : (a : Int) ≤ 100000 := by omega
        have b4 : (d : Int) ≤ 100000 := by omega
        clear n hinv kg nc nd e4 hp hq hg hle w1
        go_wp2_with fail
        refine HH.out.mono ?_
        rintro e w' ⟨rfl, rfl⟩
        go_wp2_with fail
        refine HB.out.mono ?_
        rintro e w' ⟨rfl, rfl⟩
        go_wp2_with fail
        refine HB.out.mono ?_
        rintro e w' ⟨rfl, rfl⟩
        go_wp2_with fail
        refine HO.out.mono ?_
        rintro e w' ⟨rfl, rfl⟩
        go_wp2_with fail
        go_roundg hd
        case rel => exact ⟨rfl, sd, a - p, d + q, HD.out, by rw [W1.out], by push_cast; rfl, HV.out⟩
        case measure => have := HE.out; omega
end Go.Proofs.Ytffljhieijnakaa
