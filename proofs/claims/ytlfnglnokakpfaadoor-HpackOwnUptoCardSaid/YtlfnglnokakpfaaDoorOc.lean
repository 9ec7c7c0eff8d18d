/-
  THE LAW HpackOwn: its row and its card (the second form). Written by gen_card.py.
-/
import Derived.Test.YtlfnglnokakpfaaDoorOa
import Derived.Test.YtlfnglnokakpfaaDoorOh
import Derived.Test.YtlfnglnokakpfaaDoorEv
namespace Go.Proofs.YtlfnglnokakpfaaDoor
open Go.ChangeShapes Go.WideShapes Go.ChangeAt Go.RowKit

theorem hpackOwn_reads (os : Os) {H : Type} (enc : TypeId × Value → H) : ∃ places, DataW.whole enc Tryd.prog ((World.doorLaid Tryd.prog 579 os).forCall (fun _ _ => 0) ⟨#[], #[.slice none 0 0], []⟩).memory Tryd.f10.params.toList Rows.hpackOwnSpec.vars false #[Value.slice none 0 0].toList 8 = some ([.nil], [], places) :=
  ⟨[], by kernel_rfl⟩

set_option maxRecDepth 100000 in
theorem hpackOwn_lifted (os : Os) (started : os.Started) (H : Type) (enc : TypeId × Value → H) (F : Stop.Interp) :
    ReturnsInHanded {} Tryd.checked os 10 .any ((Rows.OpenSpec.upto Rows.hpackOwnSpec).preRow enc Tryd.prog Tryd.f10 Rows.hpackOwnUptoRow.domain false Rows.hpackOwnUptoRow.laid) (((Rows.OpenSpec.upto Rows.hpackOwnSpec).at F).post enc Tryd.prog Tryd.f10 false true false false) := by
  obtain ⟨places, hx⟩ := hpackOwn_reads os enc
  refine returnsInHanded_of_row (C := Tryd.checked) (s := Rows.OpenSpec.upto Rows.hpackOwnSpec) own started (by kernel_rfl) Tryd.func10
    (witness_row_atRef (enc := enc) (C := Tryd.checked) false (World.doorLaid Tryd.prog 579 os) #[.slice none 0 0] rfl (by kernel_rfl) (by kernel_rfl) (by kernel_rfl)
      (OpenSpec.preRow_of_cond 8 hx (by kernel_rfl) (fun k hk => by cases hk; kernel_rfl) (by kernel_rfl) (seven_met os _))) ?_
  intro W base args ds gs before hval hW _ _ hw3 hL _ _
  have hW' : DataW.Whole enc Tryd.prog Tryd.f10.params.toList Rows.hpackOwnSpec.vars false W args.toList ds gs before := hW
  obtain ⟨p, q, hA0, hV, rfl, hfz, hnd⟩ := hW
  have hA : DataW.TrodAll enc Tryd.prog W 0 (fun _ => true) true Tryd.f10.params.toList args.toList ds p := hA0
  have hval' : ∀ (j : Nat) t v, Tryd.f10.params[j]? = some t → args[j]? = some v → Value.okWide Tryd.prog W .any base t v := hval
  clear hA0 hval
  rw [Tryd.params10] at hA hval'
  obtain ⟨v0, vs0, d0, ds0, p0, q0, hargs0, rfl, rfl, h0, r0⟩ := trodAll_cons hA
  obtain ⟨rfl, rfl, rfl⟩ := trodAll_nil r0
  obtain rfl : args = #[v0] := by cases args; simp_all
  obtain ⟨rfl, rfl⟩ := trodVars_none hV
  have hwt0 : ∀ x ∈ DataW.weights Tryd.prog 50 d0, x ≤ 140737488351232 := by
    intro x hx
    have h := List.all_eq_true.1 hw3 x (by
      simp only [Tryd.params10, List.append_nil]
      simp only [DataW.weightsEach, List.cons_append, List.mem_append]
      exact Or.inl hx)
    exact of_decide_eq_true h
  obtain ⟨a0, n0, c0, L0, rfl, s0, z0⟩ := open_hdrs (hval' 0 50 v0 rfl rfl) h0 hwt0
  obtain ⟨es, hE⟩ := env_of_seven hL
  refine (own_law es a0 n0 c0 L0 W hE s0 z0).mono fun e W' ⟨he, hb⟩ => ?_
  subst he
  exact ⟨_, rfl, post_yes hW' rfl (by kernel_rfl) (by rw [Tryd.params10]; decide +kernel) rfl hb⟩

theorem hpackOwn_said : Rows.HpackOwnUptoSaid :=
  OpenClaim.holds_of_cond 10 Tryd.f10 rfl rfl rfl rfl rfl rfl rfl ⟨rfl, rfl, rfl, rfl, rfl⟩ rfl rfl rfl rfl rfl (by kernel_rfl) Tryd.func10 (by kernel_rfl)
    (of_decide_eq_true (by kernel_rfl)) (by unfold Func.isWrapper; first | (rw [if_pos (by decide +kernel)]; kernel_rfl) | (rw [if_neg (by decide +kernel)]; exact ⟨rfl, rfl⟩))
    (fun os started H enc _ F => by rw [OpenClaim.pre_eq_preRow]; exact hpackOwn_lifted os started H enc F)

theorem hpackOwn_plain (f : FuncId) (fn : Func) (hf : Tryd.pinned.checked.prog.funcNamed "parley/parleylaw4.HpackOwn" = some f) (hfn : Tryd.pinned.checked.prog.funcs[f]? = some fn) :
    true = Tryd.pinned.checked.prog.looks [] ∧ ∀ (j : Nat) t, fn.params[j]? = some t → Tryd.pinned.checked.prog.wantsStandIn t = false := by
  obtain rfl : f = 10 := Option.some.inj ((show Tryd.prog.funcNamed "parley/parleylaw4.HpackOwn" = some 10 by kernel_rfl).symm.trans hf) |>.symm
  obtain rfl : fn = Tryd.f10 := (Option.some.inj (Tryd.func10.symm.trans hfn)).symm
  refine ⟨by kernel_rfl, fun j t ht => ?_⟩
  have hall : ∀ t ∈ Tryd.f10.params.toList, Tryd.prog.wantsStandIn t = false := by rw [Tryd.params10]; decide +kernel
  exact hall t (by simpa using Array.mem_of_getElem? ht)

/-- THE CARD. -/
theorem hpackOwn_card : Rows.HpackOwnUptoCardSaid :=
  Claim7.holds_tied_plain_at .later [] _ _ _ _ hpackOwn_said (fun _ h => by cases h) (by kernel_rfl) (fun _ h => by cases h) hpackOwnUpto_row_tie rfl ⟨rfl, rfl⟩ (by kernel_rfl) rfl hpackOwn_plain (by kernel_rfl)
#print axioms hpackOwn_card
end Go.Proofs.YtlfnglnokakpfaaDoor
