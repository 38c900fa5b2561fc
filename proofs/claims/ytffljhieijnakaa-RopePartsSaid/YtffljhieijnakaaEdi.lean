import Derived.Test.YtffljhieijnakaaPlc
import Derived.Deep.Slices
import Derived.ChangeArms
import Derived.OpenShut
namespace Go.Proofs.Ytffljhieijnakaa
open Go.RowKit Go.Mem Go.Rope

/-- an edit -/
structure Ed where
  f : Int
  t : Int
  s : Bs
instance : Inhabited Ed := ⟨⟨0, 0, []⟩⟩
/-- the slice at A with n elements holds these edits -/
def EdsAt (w : World) (A : Option Addr) (n : Nat) (es : List Ed) : Prop := es.length = n ∧ (0 < n → ∃ b off, A = some ⟨b, off, none⟩ ∧ ∀ (k : Nat) (e : Ed), es[k]? = some e →
  w.cell? ⟨b, off + k * 3, none⟩ = some (.int .i64 e.f) ∧ w.cell? ⟨b, off + k * 3 + 1, none⟩ = some (.int .i64 e.t) ∧ w.cell? ⟨b, off + k * 3 + 2, none⟩ = some (strV e.s))
theorem EdsAt.keep {w w' : World} {A : Option Addr} {n : Nat} {es : List Ed} (h : EdsAt w A n es) (hf : Fr w w' (fun _ => False)) : EdsAt w' A n es := by
  refine ⟨h.1, fun hn => ?_⟩
  obtain ⟨b, off, e, hc⟩ := h.2 hn
  exact ⟨b, off, e, fun k e hk => ⟨hf.cell0 (hc k e hk).1, hf.cell0 (hc k e hk).2.1, hf.cell0 (hc k e hk).2.2⟩⟩
theorem EdsAt.at_ {w : World} {A : Option Addr} {n : Nat} {es : List Ed} (h : EdsAt w A n es) {k : Nat} (hk : k < n) : ∃ b off e, A = some ⟨b, off, none⟩ ∧ es[k]? = some e ∧
    w.cell? ⟨b, off + k * 3, none⟩ = some (.int .i64 e.f) ∧ w.cell? ⟨b, off + k * 3 + 1, none⟩ = some (.int .i64 e.t) ∧ w.cell? ⟨b, off + k * 3 + 2, none⟩ = some (strV e.s) := by
  obtain ⟨b, off, hA, hc⟩ := h.2 (by omega)
  have he : es[k]? = some (es[k]'(by rw [h.1]; exact hk)) := List.getElem?_eq_getElem _
  exact ⟨b, off, _, hA, he, (hc k _ he).1, (hc k _ he).2.1, (hc k _ he).2.2⟩

theorem cellsEdit : Try.prog.cellsOf 32 = 3 := by kernel_rfl
theorem cellsInt : Try.prog.cellsOf 3 = 1 := by kernel_rfl
theorem cellsStr : Try.prog.cellsOf 9 = 1 := by kernel_rfl

/-- a slice of edits that came in -/
theorem edits_in {H : Type} {enc : TypeId × Value → H} {w : World} {base fuel : Nat} {spare : Nat → Bool} {held : Bool} {a : Option Addr} {len cap : Nat} {x : DataW H × List MemPlace}
    (h : DataW.trod enc Try.prog w base spare held fuel 22 [Value.slice a len cap] = some x) :
    ∃ es : List Ed, EdsAt w a len es ∧ len ≤ maxLen ∧ (∀ e ∈ es, e.s.length ≤ maxLen) := by
  rcases Go.Deep.open_slice Try.underlying22 h with ⟨hcs, -⟩ | ⟨ad, l, c, m, n, D, Pl, hcs, hb, hl, hm, hmm, hx, hi⟩
  · simp at hcs
    obtain ⟨rfl, rfl, rfl⟩ := hcs
    exact ⟨[], ⟨rfl, fun h => absurd h (by omega)⟩, Nat.zero_le _, by simp⟩
  · simp at hcs
    obtain ⟨rfl, rfl, rfl⟩ := hcs
    have hlm : len ≤ m := by rw [hmm]; split <;> omega
    rw [cellsEdit] at hi
    have each : ∀ i, i < len → ∃ e : Ed, w.cell? (ad.add (i * 3)) = some (.int .i64 e.f) ∧ w.cell? (ad.add (i * 3 + 1)) = some (.int .i64 e.t) ∧ w.cell? (ad.add (i * 3 + 2)) = some (strV e.s) ∧ e.s.length ≤ maxLen := by
      intro i hlt
      obtain ⟨cs, h1, h2⟩ := hi i (by omega)
      obtain ⟨-, hlen, hat⟩ := World.cells?_some h1
      obtain ⟨ys, q, -, -, -, hyl, hfs⟩ := DataW.trod_struct Try.underlying32 h2
      match cs, hlen, ys, hyl with
      | [v0, v1, v2], _, [y0, y1, y2], _ =>
        have g0 := hfs 0 _ rfl
        have g1 := hfs 1 _ rfl
        have g2 := hfs 2 _ rfl
        simp [cellsInt, cellsStr] at g0 g1 g2
        obtain ⟨n0, e0, -, -⟩ := DataW.trod_int Try.underlying3 g0
        obtain ⟨n1, e1, -, -⟩ := DataW.trod_int Try.underlying3 g1
        obtain ⟨s2, e2, -, hz⟩ := DataW.trod_string Try.underlying9 g2
        simp at e0 e1 e2
        subst e0 e1 e2
        have k0 := hat 0 (by omega)
        have k1 := hat 1 (by omega)
        have k2 := hat 2 (by omega)
        rw [Go.Deep.add_add] at k0 k1 k2
        refine ⟨⟨n0, n1, s2.data.toList⟩, by simpa using k0, by simpa using k1, ?_, ?_⟩
        · rw [k2]; simp
        · have : s2.data.toList.length = s2.size := by rw [Array.length_toList]; rfl
          rw [this]; exact hz
    obtain ⟨f, hf⟩ := Go.Deep.choose_lt each
    refine ⟨(List.range len).map f, ⟨by simp, fun hpos => ?_⟩, by omega, ?_⟩
    · have h0 := (hf 0 hpos).1
      obtain ⟨b, off, rfl⟩ : ∃ b off, ad = ⟨b, off, none⟩ := by
        obtain ⟨b, off, spot⟩ := ad
        cases spot with
        | none => exact ⟨b, off, rfl⟩
        | some s =>
          exfalso
          simp [Addr.add, World.cell?] at h0
          split at h0 <;> simp at h0
      have hadd : ∀ j, (⟨b, off, none⟩ : Addr).add j = ⟨b, off + j, none⟩ := fun j => by unfold Addr.add; split <;> simp_all
      refine ⟨b, off, rfl, fun k e hk => ?_⟩
      rw [List.getElem?_map] at hk
      obtain ⟨z, hz1, rfl⟩ := Option.map_eq_some_iff.1 hk
      obtain ⟨hk1, hk2⟩ := List.getElem?_eq_some_iff.1 hz1
      simp at hk1 hk2
      subst hk2
      obtain ⟨c0, c1, c2, -⟩ := hf k hk1
      rw [hadd] at c0 c1 c2
      exact ⟨c0, by rw [Nat.add_assoc]; exact c1, by rw [Nat.add_assoc]; exact c2⟩
    · intro e he
      obtain ⟨i, hi1, rfl⟩ := List.mem_map.1 he
      exact (hf i (List.mem_range.1 hi1)).2.2.2

/-- what light says -/
def LightE (s : Bs) (es : List Ed) : Prop := s.length ≤ 20100 ∧ es.length ≤ 40 ∧ ∀ e ∈ es, e.s.length ≤ 20100
instance (s : Bs) (es : List Ed) : Decidable (LightE s es) := by unfold LightE; infer_instance
theorem take_snoc' {α : Type} {ls : List α} {k : Nat} {x : α} (h : ls[k]? = some x) : ls.take (k + 1) = ls.take k ++ [x] := by
  obtain ⟨h1, h2⟩ := List.getElem?_eq_some_iff.1 h
  rw [List.take_succ_eq_append_getElem h1, h2]
theorem light_any (l : Bs) (A : Option Addr) (n cap : Nat) (es : List Ed) (w : World) (hr : EdsAt w A n es) (hl : l.length ≤ maxLen) (hn : n ≤ maxLen) (hs : ∀ e ∈ es, e.s.length ≤ maxLen) (x : Bool) (hx : x = true ↔ LightE l es) :
    Calls Try.prog 9 #[strV l, .slice A n cap] w fun e w' => e = .returned (.bool x) ∧ w = w' := by
  unfold maxLen at hl hn hs
  have hz := str_size l
  have hlen := hr.1
  have HX := Lib.hid hx
  have HR := Lib.hid hr
  have HS := Lib.hid hs
  clear hx hr hs
  by_cases h1 : 20100 < l.length
  · have hf : x = false := by
      rw [Bool.eq_false_iff]
      intro e
      have := (HX.out.1 e).1
      omega
    subst hf
    go_enter Try.func9, Try.ntmps9
    go_wp2_with fail
    go_ret
    exact ⟨rfl, rfl⟩
  · by_cases h2 : 40 < n
    · have hf : x = false := by
        rw [Bool.eq_false_iff]
        intro e
        have := (HX.out.1 e).2.1
        omega
      subst hf
      go_enter Try.func9, Try.ntmps9
      go_wp2_with fail
      go_ret
      exact ⟨rfl, rfl⟩
    · have h1' : l.length ≤ 20100 := by omega
      have h2' : n ≤ 40 := by omega
      clear h1 h2
      go_enter Try.func9, Try.ntmps9
      go_wp2_with fail
      go_loop [5] (fun v5 => ∃ k : Nat, k ≤ n ∧ v5 = .int .i64 (k : Int) ∧ ∀ e ∈ es.take k, e.s.length ≤ 20100) (fun v5 => n - (intOf v5).toNat)
      case atStart => exact ⟨0, Nat.zero_le _, rfl, by simp⟩
      case round =>
        obtain ⟨k, hk, rfl, hpre⟩ := hrel
        have HP := Lib.hid hpre
        clear hpre
        by_cases hlt : k < n
        · obtain ⟨b, off, ed, rfl, he, c0, c1, c2⟩ := HR.out.at_ hlt
          have hsz := str_size ed.s
          have hle := HS.out ed (List.mem_of_getElem? he)
          have HE := Lib.hid he
          clear he
          by_cases hbig : 20100 < ed.s.length
          · have hf : x = false := by
              rw [Bool.eq_false_iff]
              intro e
              have := (HX.out.1 e).2.2 ed (List.mem_of_getElem? HE.out)
              omega
            subst hf
            go_wp2_with fail
            go_ret
            exact ⟨rfl, rfl⟩
          · have hbig' : ed.s.length ≤ 20100 := by omega
            go_wp2_with fail
            go_round
            case rel => exact ⟨k + 1, by omega, by go_num, by
              rw [take_snoc' HE.out]
              intro y hy
              rcases List.mem_append.1 hy with hy | hy
              · exact HP.out y hy
              · simp at hy; rw [hy]; exact hbig'⟩
            case measure => simp [intOf]; omega
        · have hf : x = true := HX.out.2 ⟨h1', by omega, by
            have := HP.out
            rwa [List.take_of_length_le (by omega)] at this⟩
          subst hf
          go_wp2_with fail
          go_ret
          exact ⟨rfl, rfl⟩
end Go.Proofs.Ytffljhieijnakaa
