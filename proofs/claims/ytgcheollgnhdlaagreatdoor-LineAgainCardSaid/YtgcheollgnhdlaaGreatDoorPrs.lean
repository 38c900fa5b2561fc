import Derived.Test.YtgcheollgnhdlaaGreatDoorRdl
import Derived.Test.YtgcheollgnhdlaaGreatDoorLfd
namespace Go.Proofs.YtgcheollgnhdlaaGreatDoor
open Go.RowKit Go.Mem Go.Lin

def FOutC (o : List FPair × Int × Int) (w : World) (e : Ending) (w' : World) : Prop :=
  ∃ A c, e = .returned (.tuple #[.slice A o.1.length c, intV o.2.1, intV o.2.2]) ∧ S7.FdAt w' A o.1 ∧ o.1.length ≤ c ∧ Fr w w' (fun _ => False)
theorem FieldsC_any (l : Bs) (w : World) (hz : l.length ≤ 1000000) : Calls Tryz.prog 12 #[strV l] w (FOutC (S7.fieldsO l) w) := by
  have hs : (⟨l.toArray⟩ : ByteArray).size = l.length := str_size l
  by_cases h : 200 < l.length
  · refine (S7.Fields_long ⟨l.toArray⟩ w (by omega) (by omega)).mono ?_
    rintro e w' ⟨rfl, rfl⟩
    unfold S7.fieldsO
    rw [if_pos h]
    exact ⟨none, 0, rfl, Rd.zero _ _ _, Nat.le_refl _, Fr.refl _ _⟩
  · refine (S7.Fields_short ⟨l.toArray⟩ l w rfl (by omega)).mono ?_
    rintro e w' h2
    unfold S7.fieldsO
    rw [if_neg h]
    cases hf : Go.Lxr.fieldsD 0 l with
    | error k =>
      rw [hf] at h2
      obtain ⟨rfl, h3⟩ := h2
      exact ⟨none, 0, rfl, Rd.zero _ _ _, Nat.le_refl _, h3⟩
    | ok fs =>
      rw [hf] at h2
      obtain ⟨v, rfl, hv, h3⟩ := h2
      obtain ⟨A, c, rfl, h4, -, h5, -⟩ := own_rd hv
      exact ⟨A, c, rfl, h5, h4, h3⟩
theorem res_parse {w : World} {q : Nat} {v : LineL} (hb : Blk w q 34 (lineC v)) (tmps : Array Value) (hp : tmps.getD 2 undef = .pointer (some ⟨q, 0, none⟩)) : (results Tryz.f11 tmps).run Tryz.prog w = .ok (.agg (lineC v)) w :=
  results_cell_row (P := Tryz.prog) (fn := Tryz.f11) (p := 2) (ty := 34) rfl tmps _ q 34 (lineC v) (0, 0) _ hp hb Tryz.underlying34 rfl (infoL v)
set_option maxRecDepth 100000 in
set_option maxHeartbeats 3200000 in
theorem parse_holds : ParseC := by
  intro l x w hw hlen hx
  subst hx
  have hf1 := Fr.new w (.cells #[intV 0, .string ⟨#[]⟩, intV 0, intV 0, intV 0, intV 0, intV 0, intV 0, intV 0, intV 0, intV 0, .string ⟨#[]⟩, .string ⟨#[]⟩, .string ⟨#[]⟩, intV 0, intV 0, intV 0, .string ⟨#[]⟩, .string ⟨#[]⟩, .bool false, intV 0, intV 0, intV 0, intV 0, intV 0, intV 0, intV 0, intV 0, intV 0] 34) (fun _ => False)
  have HZ := Lib.hid (show Blk _ w.heap.size 34 (lineC lineZ) from Blk.made w 34 #[intV 0, .string ⟨#[]⟩, intV 0, intV 0, intV 0, intV 0, intV 0, intV 0, intV 0, intV 0, intV 0, .string ⟨#[]⟩, .string ⟨#[]⟩, .string ⟨#[]⟩, intV 0, intV 0, intV 0, .string ⟨#[]⟩, .string ⟨#[]⟩, .bool false, intV 0, intV 0, intV 0, intV 0, intV 0, intV 0, intV 0, intV 0, intV 0])
  have HF := Lib.hid hf1
  have HP := Lib.hid (FieldsC_any l (w.alloc (.cells #[intV 0, .string ⟨#[]⟩, intV 0, intV 0, intV 0, intV 0, intV 0, intV 0, intV 0, intV 0, intV 0, .string ⟨#[]⟩, .string ⟨#[]⟩, .string ⟨#[]⟩, intV 0, intV 0, intV 0, .string ⟨#[]⟩, .string ⟨#[]⟩, .bool false, intV 0, intV 0, intV 0, intV 0, intV 0, intV 0, intV 0, intV 0, intV 0] 34)) (by omega))
  have HT := Lib.hid (fieldsO_text l)
  have HW := Lib.hid (fun (W : World) (f : Fr w W (fun _ => False)) => hw.fr f)
  unfold parseL
  obtain ⟨⟨fs, c, k⟩, ho⟩ : ∃ o, S7.fieldsO l = o := ⟨_, rfl⟩
  rw [ho] at HP HT ⊢
  clear hf1 hw ho
  show Calls _ _ _ _ (fun e w' => e = .returned (lineV (if k ≠ 0 then wrongL k c else lineP fs)) ∧ _)
  by_cases hk : k = 0
  · subst hk
    rw [if_neg (by simp)]
    by_cases hne : fs = []
    · subst hne
      rw [show lineP [] = lineZ from rfl]
      go_enter Tryz.func11, Tryz.ntmps11
      go_wp2_with fail
      refine HP.out.mono ?_
      rintro e w2 ⟨A, cap, rfl, -, -, hf2⟩
      have HF2 := Lib.hid (ff HF.out hf2)
      have HZ2 := Lib.hid (hf2.blk HZ.out (fun h => h))
      clear hf2
      go_wp2_with (
      refine wpList_store_blk 34 _ _ w.heap.size 0 34 (lineC lineZ) (lineC lineZ) (lineC lineZ) (by rfl) rfl rfl rfl rfl HZ2.out (infoL _) (lineC_one _) (show 0 + 29 ≤ 29 by decide) (put_line _ _) ?_
      intro w9 hf9 hb9
      have HE := Lib.hid hb9
      have HFe := Lib.hid (HF2.out.fresh hf9 (fun i e => by omega))
      clear hf9 hb9)
      (try simp only [Exit.inBlock, Exit.then])
      exact bodyPost_ret (res_parse HE.out _ rfl) rfl ⟨rfl, HFe.out⟩
    · rw [line_code fs hne]
      obtain ⟨X, hX⟩ : ∃ X, outL fs (readP fs) id = X := ⟨_, rfl⟩
      rw [hX]
      obtain ⟨n, hn⟩ : ∃ n, fs.length = n + 1 := by
        cases fs with
        | nil => exact absurd rfl hne
        | cons y r => exact ⟨r.length, rfl⟩
      have n0 : ((fs.length : Int) == 0) = false := by simp; omega
      clear hn
      have HR := Lib.hid (fun (A : Option Addr) (cap : Nat) (W : World) (hW : LOk W) (hfd : S7.FdAt W A fs) (hc : fs.length ≤ cap) => (show Calls Tryz.prog 17 #[.slice A fs.length cap] W fun e w' => e = .returned (.agg (lineC X)) ∧ Fr W w' (fun _ => False) by rw [← hX]; exact read_any fs (fun y hy => Nat.le_trans (HT.out y hy) (by omega)) hne A cap W hW hfd hc))
      clear hX HT
      go_enter Tryz.func11, Tryz.ntmps11
      go_wp2_with fail
      refine HP.out.mono ?_
      rintro e w2 ⟨A, cap, rfl, hfd, hcap, hf2⟩
      have HF2 := Lib.hid (ff HF.out hf2)
      have HZ2 := Lib.hid (hf2.blk HZ.out (fun h => h))
      have HR2 := Lib.hid (HR.out A cap w2 (HW.out w2 HF2.out) hfd hcap)
      clear hf2 hfd
      go_wp2_with fail
      refine HR2.out.mono ?_
      rintro e w3 ⟨rfl, hf3⟩
      have HF3 := Lib.hid (ff HF2.out hf3)
      have HZ3 := Lib.hid (hf3.blk HZ2.out (fun h => h))
      clear hf3
      go_wp2_with (
      refine wpList_store_blk 34 _ _ w.heap.size 0 34 (lineC lineZ) (lineC X) (lineC X) (by rfl) rfl rfl rfl rfl HZ3.out (infoL _) (lineC_one _) (show 0 + 29 ≤ 29 by decide) (put_line _ _) ?_
      intro w9 hf9 hb9
      have HE := Lib.hid hb9
      have HFe := Lib.hid (HF3.out.fresh hf9 (fun i e => by omega))
      clear hf9 hb9)
      (try simp only [Exit.inBlock, Exit.then])
      exact bodyPost_ret (res_parse HE.out _ rfl) rfl ⟨rfl, HFe.out⟩
  · rw [if_pos hk]
    have k0 : (k == 0) = false := by simpa using hk
    obtain ⟨X, hX⟩ : ∃ X, wrongL k c = X := ⟨_, rfl⟩
    rw [hX]
    have HQ := Lib.hid (fun W => (show Calls Tryz.prog 16 #[intV k, intV c] W fun e w' => e = .returned (.agg (lineC X)) ∧ Fr W w' (fun _ => False) by rw [← hX]; exact fault_any k c W))
    clear hX
    go_enter Tryz.func11, Tryz.ntmps11
    go_wp2_with fail
    refine HP.out.mono ?_
    rintro e w2 ⟨A, cap, rfl, -, -, hf2⟩
    have HF2 := Lib.hid (ff HF.out hf2)
    have HZ2 := Lib.hid (hf2.blk HZ.out (fun h => h))
    clear hf2
    go_wp2_with fail
    refine (HQ.out _).mono ?_
    rintro e w3 ⟨rfl, hf3⟩
    have HF3 := Lib.hid (ff HF2.out hf3)
    have HZ3 := Lib.hid (hf3.blk HZ2.out (fun h => h))
    clear hf3
    go_wp2_with (
      refine wpList_store_blk 34 _ _ w.heap.size 0 34 (lineC lineZ) (lineC X) (lineC X) (by rfl) rfl rfl rfl rfl HZ3.out (infoL _) (lineC_one _) (show 0 + 29 ≤ 29 by decide) (put_line _ _) ?_
      intro w9 hf9 hb9
      have HE := Lib.hid hb9
      have HFe := Lib.hid (HF3.out.fresh hf9 (fun i e => by omega))
      clear hf9 hb9)
    (try simp only [Exit.inBlock, Exit.then])
    exact bodyPost_ret (res_parse HE.out _ rfl) rfl ⟨rfl, HFe.out⟩
end Go.Proofs.YtgcheollgnhdlaaGreatDoor
