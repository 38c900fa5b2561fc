import Derived.Test.YtolmemdkklfdpaaFls
namespace Go.Proofs.Ytolmemdkklfdpaa
open Go.RowKit Go.Mem Go.Lxr

theorem flat_at : ∀ {fs : List FPair} {k : Nat} {x : FPair}, fs[k]? = some x → (fs.flatMap cellsF)[k * 2]? = some (strV x.1) ∧ (fs.flatMap cellsF)[k * 2 + 1]? = some (.int .i64 (x.2 : Int))
  | [], k, x, h => by simp at h
  | y :: fs, 0, x, h => by simp at h; subst h; exact ⟨rfl, rfl⟩
  | y :: fs, k + 1, x, h => by
    have ih := flat_at (fs := fs) (k := k) (x := x) (by simpa using h)
    rw [List.flatMap_cons, show (k + 1) * 2 = k * 2 + 2 by omega]
    exact ih
/-- the slice at A holds these fields -/
def FdAt (w : World) (A : Option Addr) (fs : List FPair) : Prop := Rd w 2 A fs.length (fs.flatMap cellsF)
theorem FdAt.at_ {w : World} {A : Option Addr} {fs : List FPair} (h : FdAt w A fs) {k : Nat} (hk : k < fs.length) : ∃ b off x, A = some ⟨b, off, none⟩ ∧ fs[k]? = some x ∧ w.cell? ⟨b, off + k * 2, none⟩ = some (strV x.1) ∧ w.cell? ⟨b, off + k * 2 + 1, none⟩ = some (.int .i64 (x.2 : Int)) := by
  obtain ⟨b, off, e, hc⟩ := h.2 (by omega)
  have hx := List.getElem?_eq_getElem hk
  obtain ⟨h1, h2⟩ := flat_at hx
  exact ⟨b, off, _, e, hx, hc _ _ h1, hc _ _ h2⟩
theorem FdAt.fr {w w' : World} {A : Option Addr} {fs : List FPair} (h : FdAt w A fs) (hf : Fr w w' (fun _ => False)) : FdAt w' A fs := Rd.fr h hf (fun _ _ _ _ h => h)
theorem Flds.rd {t : TypeId} {w : World} {base : Nat} {v : Value} {fs : List FPair} (h : Flds t w base v fs) : ∃ A c, v = .slice A fs.length c ∧ FdAt w A fs := by
  obtain ⟨A, c, h1, h2, h3, h4, -⟩ := own_rd h
  exact ⟨A, c, h1, h4⟩
theorem alive_f1 (r : Bs) : fieldD 0 (97 :: 32 :: r) = .ok ([97], 32 :: r) := by
  rw [field_one (by decide) (by decide), field_stop (by decide)]
  rfl
theorem alive_f2 (r : Bs) : fieldD 2 (34 :: 98 :: 32 :: 99 :: 34 :: 100 :: 32 :: r) = .ok ([98, 32, 99, 100], 32 :: r) := by
  rw [field_some (q := [98, 32, 99]) (r' := 100 :: 32 :: r) rfl, field_one (by decide) (by decide), field_stop (by decide)]
  rfl
theorem alive_fields : fieldsD 0 [97, 32, 34, 98, 32, 99, 34, 100, 32, 35, 32, 101] = .ok [([97], 0), ([98, 32, 99, 100], 2)] := by
  rw [fields_one (by decide) 0 _ _ _ (alive_f1 _)]
  show (fieldsD 1 (32 :: 34 :: [98, 32, 99, 34, 100, 32, 35, 32, 101])).map _ = _
  rw [fields_white (by decide), fields_one (by decide) 2 _ _ _ (alive_f2 _)]
  show ((fieldsD 8 (32 :: 35 :: [32, 101])).map _).map _ = _
  rw [fields_white (by decide), fields_note]
  rfl
set_option maxHeartbeats 1600000 in
theorem alive_any (w : World) : Calls Try.prog 9 #[] w fun e w' => e = .returned (.bool true) ∧ Fr w w' (fun _ => False) := by
  have HF := Lib.hid (Fields_short ⟨#[97, 32, 34, 98, 32, 99, 34, 100, 32, 35, 32, 101]⟩ _ w rfl (by decide))
  rw [show (⟨#[97, 32, 34, 98, 32, 99, 34, 100, 32, 35, 32, 101]⟩ : ByteArray).data.toList = [97, 32, 34, 98, 32, 99, 34, 100, 32, 35, 32, 101] from rfl, alive_fields] at HF
  go_enter Try.func9, Try.ntmps9
  go_wp2_with fail
  refine HF.out.mono ?_
  rintro e w2 ⟨v, rfl, hfl, hf2⟩
  obtain ⟨A, c, rfl, hrd⟩ := hfl.rd
  obtain ⟨b, off, x, rfl, hx, c0, c1⟩ := hrd.at_ (k := 0) (by decide)
  obtain ⟨b', off', y, e, hy, d0, d1⟩ := hrd.at_ (k := 1) (by decide)
  injection e with e
  injection e with e1 e2
  subst e1 e2
  injection hx with hx
  injection hy with hy
  subst hx hy
  simp at c0 c1 d0 d1
  have HF2 := Lib.hid hf2
  clear hfl hrd hf2
  go_wp2_with fail
  go_ret
  exact ⟨rfl, HF2.out⟩
end Go.Proofs.Ytolmemdkklfdpaa
