/-
  THE LAW HeadMore: its row and its card (the second form). Written by gen_card.py.
-/
import Derived.Test.YtecnnidgnnfpgaaDoorMo
import Derived.Test.YtecnnidgnnfpgaaDoorOh
namespace Go.Proofs.YtecnnidgnnfpgaaDoor
open Go.ChangeShapes Go.WideShapes Go.ChangeAt Go.RowKit

theorem headMore_reads (os : Os) {H : Type} (enc : TypeId × Value → H) : ∃ places, DataW.whole enc Tryd.prog ((World.laidAll Tryd.prog os Rows.headMoreUptoRow.laid).forCall (fun _ _ => 0) ⟨#[], #[.slice none 0 0, .agg #[.string ⟨#[]⟩, .string ⟨#[]⟩, .bool false]], []⟩).memory Tryd.f7.params.toList Rows.headMoreSpec.vars false #[Value.slice none 0 0, Value.agg #[.string ⟨#[]⟩, .string ⟨#[]⟩, .bool false]].toList 8 = some ([.nil, .agg [.lit (.string []), .lit (.string []), .lit (.bool false)]], [], places) :=
  ⟨[], by kernel_rfl⟩

set_option maxRecDepth 100000 in
theorem headMore_lifted (os : Os) (started : os.Started) (H : Type) (enc : TypeId × Value → H) (F : Stop.Interp) :
    ReturnsInHanded {} Tryd.checked os 7 .any ((Rows.OpenSpec.upto Rows.headMoreSpec).preRow enc Tryd.prog Tryd.f7 Rows.headMoreUptoRow.domain false Rows.headMoreUptoRow.laid) (((Rows.OpenSpec.upto Rows.headMoreSpec).at F).post enc Tryd.prog Tryd.f7 false true false false) := by
  obtain ⟨places, hx⟩ := headMore_reads os enc
  refine returnsInHanded_of_row (C := Tryd.checked) (s := Rows.OpenSpec.upto Rows.headMoreSpec) own started (by kernel_rfl) Tryd.func7
    (witness_row_atRef (enc := enc) (C := Tryd.checked) false (World.laidAll Tryd.prog os Rows.headMoreUptoRow.laid) #[.slice none 0 0, .agg #[.string ⟨#[]⟩, .string ⟨#[]⟩, .bool false]] (World.laidAll_os _ _ _) (by kernel_rfl) (by kernel_rfl) (by kernel_rfl)
      (OpenSpec.preRow_of_cond 8 hx (by kernel_rfl) (fun k hk => by cases hk; kernel_rfl) (by kernel_rfl) (ints_met os _))) ?_
  intro W base args ds gs before hval hW _ _ hw3 hL _ _
  have hW' : DataW.Whole enc Tryd.prog Tryd.f7.params.toList Rows.headMoreSpec.vars false W args.toList ds gs before := hW
  obtain ⟨p, q, hA0, hV, rfl, hfz, hnd⟩ := hW
  have hA : DataW.TrodAll enc Tryd.prog W 0 (fun _ => true) true Tryd.f7.params.toList args.toList ds p := hA0
  have hval' : ∀ (j : Nat) t v, Tryd.f7.params[j]? = some t → args[j]? = some v → Value.okWide Tryd.prog W .any base t v := hval
  clear hA0 hval
  rw [Tryd.params7] at hA hval'
  obtain ⟨v0, vs0, d0, ds0, p0, q0, hargs0, rfl, rfl, h0, r0⟩ := trodAll_cons hA
  obtain ⟨v1, vs1, d1, ds1, p1, q1, hargs1, rfl, rfl, h1, r1⟩ := trodAll_cons r0
  obtain ⟨rfl, rfl, rfl⟩ := trodAll_nil r1
  subst hargs1
  obtain rfl : args = #[v0, v1] := by cases args; simp_all
  obtain ⟨rfl, rfl⟩ := trodVars_none hV
  have hwt0 : ∀ x ∈ DataW.weights Tryd.prog 22 d0, x ≤ 140737488351232 := by
    intro x hx
    have h := List.all_eq_true.1 hw3 x (by
      simp only [Tryd.params7, List.append_nil]
      simp only [DataW.weightsEach, List.cons_append, List.mem_append]
      exact Or.inl hx)
    exact of_decide_eq_true h
  have hwt1 : ∀ x ∈ DataW.weights Tryd.prog 54 d1, x ≤ 140737488351232 := by
    intro x hx
    have h := List.all_eq_true.1 hw3 x (by
      simp only [Tryd.params7, List.append_nil]
      simp only [DataW.weightsEach, List.cons_append, List.mem_append]
      exact Or.inr (Or.inl hx))
    exact of_decide_eq_true h
  obtain ⟨a0, n0, c0, L0, rfl, s0, z0⟩ := open_hdrs (hval' 0 22 v0 rfl rfl) h0 hwt0
  obtain ⟨x1, b1, rfl, e1, rfl⟩ := open_header (hval' 1 54 v1 rfl rfl) h1
  have hu1 : Tryd.prog.underlying 54 = _ := Tryd.underlying54
  rw [e1] at hwt1
  simp [DataW.weights, DataW.weightsEach, hu1] at hwt1
  obtain ⟨ea, hE⟩ := sent_of_numbers hL
  refine (more_any a0 n0 c0 L0 x1.1 x1.2 b1 W s0 z0 (by omega) (by omega) ea hE.cell).mono fun e W' ⟨he, hb⟩ => ?_
  subst he
  exact ⟨_, rfl, post_yes hW' rfl (by kernel_rfl) (by rw [Tryd.params7]; decide +kernel) rfl hb⟩

theorem headMore_said : Rows.HeadMoreUptoSaid :=
  OpenClaim.holds_of_cond 7 Tryd.f7 rfl rfl rfl rfl rfl rfl rfl ⟨rfl, rfl, rfl, rfl, rfl⟩ rfl rfl rfl rfl rfl (by kernel_rfl) Tryd.func7 (by kernel_rfl)
    (of_decide_eq_true (by kernel_rfl)) (by unfold Func.isWrapper; first | (rw [if_pos (by decide +kernel)]; kernel_rfl) | (rw [if_neg (by decide +kernel)]; exact ⟨rfl, rfl⟩))
    (fun os started H enc _ F => by rw [OpenClaim.pre_eq_preRow]; exact headMore_lifted os started H enc F)

theorem headMore_plain (f : FuncId) (fn : Func) (hf : Tryd.pinned.checked.prog.funcNamed "parley/parleylaw6.HeadMore" = some f) (hfn : Tryd.pinned.checked.prog.funcs[f]? = some fn) :
    true = Tryd.pinned.checked.prog.looks [] ∧ ∀ (j : Nat) t, fn.params[j]? = some t → Tryd.pinned.checked.prog.wantsStandIn t = false := by
  obtain rfl : f = 7 := Option.some.inj ((show Tryd.prog.funcNamed "parley/parleylaw6.HeadMore" = some 7 by kernel_rfl).symm.trans hf) |>.symm
  obtain rfl : fn = Tryd.f7 := (Option.some.inj (Tryd.func7.symm.trans hfn)).symm
  refine ⟨by kernel_rfl, fun j t ht => ?_⟩
  have hall : ∀ t ∈ Tryd.f7.params.toList, Tryd.prog.wantsStandIn t = false := by rw [Tryd.params7]; decide +kernel
  exact hall t (by simpa using Array.mem_of_getElem? ht)

/-- THE CARD. -/
theorem headMore_card : Rows.HeadMoreUptoCardSaid :=
  Claim7.holds_tied_plain_at .later [] _ _ _ _ headMore_said (fun _ h => by cases h) (by kernel_rfl) (fun _ h => by cases h) headMoreUpto_row_tie rfl ⟨rfl, rfl⟩ (by kernel_rfl) rfl headMore_plain (by kernel_rfl)
#print axioms headMore_card
end Go.Proofs.YtecnnidgnnfpgaaDoor
