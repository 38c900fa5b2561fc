/-
  PROVED: the card of 'TablePlays' (first form): for every text and every list of edits the law TablePlays returns true, and the arguments read behind the call as they read before.
  Conditions: the row's own (the listed variables of the library start as the program's text lays them: the card ties them); none of ours.
-/
import Derived.Test.YtodcnbejnchmhaaGreatDoorYc31
import Derived.Test.YtodcnbejnchmhaaGreatDoorYc33
import Derived.Test.YtodcnbejnchmhaaGreatDoorYc50
set_option maxRecDepth 100000
/-
 PROVED: the card of 'TablePlays' (first form): for every text and every list of edits the law TablePlays returns true,and the arguments read Qak the call as they read before.
 Conditions: the row's own (the listed variables of the library start as the program's text lays them: the card ties them); none of ours.
-/
namespace Go.Proofs.YtodcnbejnchmhaaGreatDoor.tablePlays
open _root_.Go.Proofs.Tryz
open Go.ChangeShapes Go.WideShapes Go.ChangeAt Go.RowKit Go.Mem

theorem reads (os : Os) {H : Type} (enc : TypeId × Value → H) : ∃ places,DataW.whole enc Tryz.prog ((World.laidAll Tryz.prog os Qby).forCall (fun _ _ => 0) ⟨#[],#[.string ⟨#[]⟩,.slice none 0 0],[]⟩).memory f3.params.toList Rows.tablePlaysSpec.vars false #[.string ⟨#[]⟩,.slice none 0 0].toList 8 = some ([.lit (.string []),.nil],[],places) :=
 ⟨[],by kernel_rfl⟩

theorem contract (H : Type) (enc : TypeId × Value → H) (W : World) (base : Nat) (args : Array Value) (ds gs : List (DataW H)) (before : List MemPlace)
  (hval : ∀ (j : Nat) t v,f3.params[j]? = some t → args[j]? = some v → Value.okWide Tryz.prog W .any base t v)
  (hW : DataW.Whole enc Tryz.prog f3.params.toList Rows.tablePlaysSpec.vars false W args.toList ds gs before) (hL : laidMetH Tryz.prog Rows.tablePlaysRow.laid W) (hsh : W.ShapedOpen Tryz.prog) :
  Calls Tryz.prog 3 args W fun e W' => ∃ v,e = .returned v ∧ Rows.tablePlaysSpec.post enc Tryz.prog f3 false true false false W args v W' := by
 have hW' := hW;obtain ⟨p,q,hA0,hV,rfl,hfz,hnd⟩ := hW;have hA : DataW.TrodAll enc Tryz.prog W 0 (fun _ => true) true f3.params.toList args.toList ds p := hA0;rw [params3] at hA hval;obtain ⟨v0,vs0,d0,ds0,p0,q0,hargs,rfl,rfl,h0,r0⟩ := trodAll_cons hA;obtain ⟨v1,vs1,d1,ds1,p1,q1,rfl,rfl,rfl,h1,r1⟩ := trodAll_cons r0;obtain ⟨rfl,rfl,rfl⟩ := trodAll_nil r1;obtain rfl : args = #[v0,v1] := by cases args; simp_all
 obtain ⟨rfl,rfl⟩ := trodVars_none hV;have k0 := h0;have lt0 : ∀ x ∈ p0,x.block < W.heap.size := by obtain ⟨m,hm⟩ := k0; exact DataW.trod_lt m _ _ _ hm
 have k1 := h1;have lt1 : ∀ x ∈ p1,x.block < W.heap.size := by obtain ⟨m,hm⟩ := k1; exact DataW.trod_lt m _ _ _ hm
 obtain ⟨s0,rfl,-,-,z0⟩ := Go.ChangeMaps.open_string underlying9 (hval 0 9 v0 rfl rfl) h0;obtain ⟨sa1,len1,cap1,rfl⟩ := okWide_slice underlying22 (hval 1 22 v1 rfl rfl);obtain ⟨l1,hl1,rfl,hm1,hr1⟩ : ∃ l : List EdL,EdsAt W sa1 l ∧ l.length = len1 ∧ len1 ≤ maxLen ∧ ∀ e ∈ l,EdR e := by
  obtain ⟨fuel,hf⟩ := h1;exact eds_in hf
 clear hA0;rw [S8.QeU s0];refine (Qpq s0.data.toList l1 sa1 cap1 W hl1 hm1 hr1 (wok hL hsh) (by simpa using z0)).mono fun e W' ⟨he,hf⟩ => ?_;have bel : Below W.heap.size W W' := hf.below (Nat.le_refl _) (fun _ h => h.elim);subst he;exact ⟨_,rfl,_,_,_,[],_,[],hW',trodAll_mk1 (shut_bool underlying4 _),(trodAll_cons_mk (Below.trod QpN (by kernel_rfl) (of_decide_eq_true (by kernel_rfl)) k0 bel lt0) (trodAll_cons_mk (Below.trod QpN (by kernel_rfl) (of_decide_eq_true (by kernel_rfl)) k1 bel lt1) trodAll_mk0)),rfl,bel.frame _,fun h => by cases h⟩

theorem lifted (os : Os) (started : os.Started) (H : Type) (enc : TypeId × Value → H) (F : Stop.Interp) :
  ReturnsInHanded {} Tryz.checked os 3 .any ((OpenSpec.ofChange Rows.tablePlaysSpec).preRow enc Tryz.prog f3 Rows.tablePlaysRow.domain false Rows.tablePlaysRow.laid) (((OpenSpec.ofChange Rows.tablePlaysSpec).at F).post enc Tryz.prog f3 false true false false) := by
 obtain ⟨places,hx⟩ := reads os enc;refine returnsInHanded_of_row (C := Tryz.checked) (s := OpenSpec.ofChange Rows.tablePlaysSpec) own started (by kernel_rfl) func3
  (witness_row_atRef (enc := enc) (C := Tryz.checked) false (World.laidAll Tryz.prog os Qby) #[.string ⟨#[]⟩,.slice none 0 0] (World.laidAll_os _ _ _) (by kernel_rfl) (by kernel_rfl) (by kernel_rfl)
   (OpenSpec.preRow_of_cond 8 hx (by kernel_rfl) (fun k hk => by cases hk) (by kernel_rfl) (laid_met os #[.string ⟨#[]⟩,.slice none 0 0]))) ?_
 intro W base args ds gs before hval hW _ _ _ hL hsh _;exact contract H enc W base args ds gs before hval hW hL hsh

theorem said : Rows.TablePlaysSaid :=
 OpenClaim.holds_of_cond 3 f3 rfl rfl rfl rfl rfl rfl rfl ⟨rfl,rfl,rfl,rfl,rfl⟩ rfl rfl rfl rfl rfl (by kernel_rfl) func3 (by kernel_rfl)
  (of_decide_eq_true (by kernel_rfl)) (by unfold Func.isWrapper; first | (rw [if_pos (by decide +kernel)]; kernel_rfl) | (rw [if_neg (by decide +kernel)]; exact ⟨rfl,rfl⟩))
  (fun os started H enc _ F => by rw [OpenClaim.pre_eq_preRow]; exact lifted os started H enc F)

theorem plain (f : FuncId) (fn : Func) (hf : Tryz.pinned.checked.prog.funcNamed "noonmark/noonmarklaw11.TablePlays" = some f) (hfn : Tryz.pinned.checked.prog.funcs[f]? = some fn) :
  true = Tryz.pinned.checked.prog.looks [] ∧ ∀ (j : Nat) t,fn.params[j]? = some t → Tryz.pinned.checked.prog.wantsStandIn t = false := by
 obtain rfl : f = 3 := Option.some.inj ((show Tryz.prog.funcNamed "noonmark/noonmarklaw11.TablePlays" = some 3 by kernel_rfl).symm.trans hf) |>.symm;obtain rfl : fn = f3 := (Option.some.inj (func3.symm.trans hfn)).symm;refine ⟨by kernel_rfl, fun j t ht => ?_⟩;rw [params3] at ht;have hm : t = 9 ∨ t = 22 := by simpa using Array.mem_of_getElem? ht
 rcases hm with rfl | rfl
 ·exact (show Tryz.prog.wantsStandIn 9 = false by kernel_rfl)
 ·exact (show Tryz.prog.wantsStandIn 22 = false by kernel_rfl)

theorem card : Rows.TablePlaysCardSaid :=
 Claim7.holds_tied_plain_at .later [] _ _ _ _ said (fun _ h => by cases h) (by kernel_rfl) (fun _ h => by cases h) tablePlays_row_tie rfl ⟨rfl,rfl⟩ (by kernel_rfl) rfl plain (by kernel_rfl)
#print axioms card
end Go.Proofs.YtodcnbejnchmhaaGreatDoor.tablePlays
