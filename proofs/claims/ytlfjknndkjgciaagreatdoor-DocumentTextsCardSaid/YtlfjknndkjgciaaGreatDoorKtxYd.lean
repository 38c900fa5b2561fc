/-
  PROVED: the card of 'DocumentTexts' (first form): for every text the law DocumentTexts returns true, and the arguments read behind the call as they read before.
  Conditions: the row's own (the listed variables of the library start as the program's text lays them: the card ties them); none of ours.
-/
import Derived.Test.YtlfjknndkjgciaaGreatDoorYd28
import Derived.Test.YtlfjknndkjgciaaGreatDoorYd23
import Derived.Test.YtlfjknndkjgciaaGreatDoorYd50
set_option maxRecDepth 100000
/-
 PROVED: the card of 'DocumentTexts' (first form): for every text the law DocumentTexts returns true,and the arguments read behind the call as they read before.
 Conditions: the row's own (the listed variables of the library start as the program's text lays them: the card ties them); none of ours.
-/
namespace Go.Proofs.YtlfjknndkjgciaaGreatDoor.documentTexts
open _root_.Go.Proofs.Tryz
open Go.ChangeShapes Go.WideShapes Go.ChangeAt Go.RowKit Go.Mem

theorem reads (os : Os) {H : Type} (enc : TypeId × Value → H) : ∃ places,DataW.whole enc Tryz.prog ((World.laidAll Tryz.prog os QbS).forCall (fun _ _ => 0) ⟨#[],#[.string ⟨#[]⟩],[]⟩).memory f4.params.toList Rows.documentTextsSpec.vars false #[.string ⟨#[]⟩].toList 8 = some ([.lit (.string [])],[],places) :=
 ⟨[],by kernel_rfl⟩

theorem contract (H : Type) (enc : TypeId × Value → H) (W : World) (base : Nat) (args : Array Value) (ds gs : List (DataW H)) (before : List MemPlace)
  (hval : ∀ (j : Nat) t v,f4.params[j]? = some t → args[j]? = some v → Value.okWide Tryz.prog W .any base t v)
  (hW : DataW.Whole enc Tryz.prog f4.params.toList Rows.documentTextsSpec.vars false W args.toList ds gs before) (hL : laidMetH Tryz.prog Rows.documentTextsRow.laid W) (hsh : W.ShapedOpen Tryz.prog) :
  Calls Tryz.prog 4 args W fun e W' => ∃ v,e = .returned v ∧ Rows.documentTextsSpec.post enc Tryz.prog f4 false true false false W args v W' := by
 have hW' := hW;obtain ⟨p,q,hA0,hV,rfl,hfz,hnd⟩ := hW;have hA : DataW.TrodAll enc Tryz.prog W 0 (fun _ => true) true f4.params.toList args.toList ds p := hA0;rw [params4] at hA hval;obtain ⟨v0,vs0,d0,ds0,p0,q0,hargs,rfl,rfl,h0,r0⟩ := trodAll_cons hA;obtain ⟨rfl,rfl,rfl⟩ := trodAll_nil r0;obtain rfl : args = #[v0] := by cases args; simp_all
 obtain ⟨rfl,rfl⟩ := trodVars_none hV;have k0 := h0;have lt0 : ∀ x ∈ p0,x.block < W.heap.size := by obtain ⟨m,hm⟩ := k0; exact DataW.trod_lt m _ _ _ hm
 obtain ⟨s0,rfl,-,-,z0⟩ := Go.ChangeMaps.open_string underlying9 (hval 0 9 v0 rfl rfl) h0;clear hA0;rw [S8.Qfo s0];refine (Qn9 s0.data.toList W (wok hL hsh) (by simpa using z0)).mono fun e W' ⟨he,hf⟩ => ?_;have bel : Below W.heap.size W W' := hf.below (Nat.le_refl _) (fun _ h => h.elim);subst he;exact ⟨_,rfl,_,_,_,[],_,[],hW',trodAll_mk1 (shut_bool underlying4 _),(trodAll_cons_mk (Below.trod laidOut (by kernel_rfl) (of_decide_eq_true (by kernel_rfl)) k0 bel lt0) trodAll_mk0),rfl,bel.frame _,fun h => by cases h⟩

theorem lifted (os : Os) (started : os.Started) (H : Type) (enc : TypeId × Value → H) (F : Stop.Interp) :
  ReturnsInHanded {} Tryz.checked os 4 .any ((OpenSpec.ofChange Rows.documentTextsSpec).preRow enc Tryz.prog f4 Rows.documentTextsRow.domain false Rows.documentTextsRow.laid) (((OpenSpec.ofChange Rows.documentTextsSpec).at F).post enc Tryz.prog f4 false true false false) := by
 obtain ⟨places,hx⟩ := reads os enc;refine returnsInHanded_of_row (C := Tryz.checked) (s := OpenSpec.ofChange Rows.documentTextsSpec) own started (by kernel_rfl) func4
  (witness_row_atRef (enc := enc) (C := Tryz.checked) false (World.laidAll Tryz.prog os QbS) #[.string ⟨#[]⟩] (World.laidAll_os _ _ _) (by kernel_rfl) (by kernel_rfl) (by kernel_rfl)
   (OpenSpec.preRow_of_cond 8 hx (by kernel_rfl) (fun k hk => by cases hk) (by kernel_rfl) (laid_met os #[.string ⟨#[]⟩]))) ?_
 intro W base args ds gs before hval hW _ _ _ hL hsh _;exact contract H enc W base args ds gs before hval hW hL hsh

theorem said : Rows.DocumentTextsSaid :=
 OpenClaim.holds_of_cond 4 f4 rfl rfl rfl rfl rfl rfl rfl ⟨rfl,rfl,rfl,rfl,rfl⟩ rfl rfl rfl rfl rfl (by kernel_rfl) func4 (by kernel_rfl)
  (of_decide_eq_true (by kernel_rfl)) (by unfold Func.isWrapper; first | (rw [if_pos (by decide +kernel)]; kernel_rfl) | (rw [if_neg (by decide +kernel)]; exact ⟨rfl,rfl⟩))
  (fun os started H enc _ F => by rw [OpenClaim.pre_eq_preRow]; exact lifted os started H enc F)

theorem plain (f : FuncId) (fn : Func) (hf : Tryz.pinned.checked.prog.funcNamed "noonmark/noonmarklaw10.DocumentTexts" = some f) (hfn : Tryz.pinned.checked.prog.funcs[f]? = some fn) :
  true = Tryz.pinned.checked.prog.looks [] ∧ ∀ (j : Nat) t,fn.params[j]? = some t → Tryz.pinned.checked.prog.wantsStandIn t = false := by
 obtain rfl : f = 4 := Option.some.inj ((show Tryz.prog.funcNamed "noonmark/noonmarklaw10.DocumentTexts" = some 4 by kernel_rfl).symm.trans hf) |>.symm;obtain rfl : fn = f4 := (Option.some.inj (func4.symm.trans hfn)).symm;refine ⟨by kernel_rfl, fun j t ht => ?_⟩;rw [params4] at ht;have hm : t = 9 := by simpa using Array.mem_of_getElem? ht
 obtain rfl := hm;exact (show Tryz.prog.wantsStandIn 9 = false by kernel_rfl)

theorem card : Rows.DocumentTextsCardSaid :=
 Claim7.holds_tied_plain_at .later [] _ _ _ _ said (fun _ h => by cases h) (by kernel_rfl) (fun _ h => by cases h) documentTexts_row_tie rfl ⟨rfl,rfl⟩ (by kernel_rfl) rfl plain (by kernel_rfl)
#print axioms card
end Go.Proofs.YtlfjknndkjgciaaGreatDoor.documentTexts
