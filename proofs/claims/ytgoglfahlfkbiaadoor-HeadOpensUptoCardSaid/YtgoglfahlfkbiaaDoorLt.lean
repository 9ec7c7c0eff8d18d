/-
  A REGION THAT DRAWS ITS ORDER, BY ONE INVARIANT: what holds of those operations that have come up, whatever their order.
-/
import Derived.Test.YtgoglfahlfkbiaaDoorJ
import Derived.Orders
import Derived.RegionTactic
namespace Go.Proofs.YtgoglfahlfkbiaaDoor
open Go.RowKit

/-- How many have not come up yet. -/
def left (ls : Array Bool) : Nat := ls.toList.countP fun b => !b
theorem countP_set : ∀ (l : List Bool) (i : Nat), l[i]? = some false → (l.set i true).countP (fun b => !b) + 1 = l.countP fun b => !b
  | [], i, h => by simp at h
  | b :: l, 0, h => by
    simp at h
    subst h
    simp
  | b :: l, i + 1, h => by
    have := countP_set l i (by simpa using h)
    simp only [List.set_cons_succ, List.countP_cons]
    omega
theorem left_set {ls : Array Bool} {i : Nat} (h : ls.getD i true = false) : left (ls.setIfInBounds i true) + 1 = left ls := by
  have hi : ls.toList[i]? = some false := by
    rw [Array.getElem?_toList]
    rw [Array.getD_eq_getD_getElem?] at h
    cases hx : ls[i]? with
    | none => rw [hx] at h; cases h
    | some b => rw [hx] at h; simp at h; rw [h]
  unfold left
  rw [Array.toList_setIfInBounds]
  exact countP_set _ _ hi
theorem left_zero {ls : Array Bool} (h : left ls = 0) (md : Region.Mode) (ops : Array Oper) : Region.ready md ops ls = [] := by
  rw [List.eq_nil_iff_forall_not_mem]
  intro i hi
  have := left_set (mem_ready.1 hi).1
  omega
/-- The law. -/
theorem wpAny_lat {P : Program} {md : Region.Mode} {ops : Array Oper} {Q : Exit → Act → World → Prop} (I : Array Bool → Act → World → Prop)
    (hend : ∀ ls a w, I ls a w → Region.ready md ops ls = [] → Q .normal a w)
    (hstep : ∀ ls a w i, I ls a w → i ∈ Region.ready md ops ls → wpOp P ops Q i (fun a' w' => I (ls.setIfInBounds i true) a' w') a w) :
    ∀ fuel ls a w, I ls a w → left ls ≤ fuel → wpAny P md ops Q fuel ls a w
  | 0, ls, a, w, h, hl => ⟨left_zero (by omega) md ops, hend ls a w h (left_zero (by omega) md ops)⟩
  | fuel + 1, ls, a, w, h, hl => ⟨hend ls a w h, fun i hi => wpOp_mono (fun a' w' h' => wpAny_lat I hend hstep fuel _ a' w' h' (by have := left_set (mem_ready.1 hi).1; omega)) (hstep ls a w i h hi)⟩
theorem wp_region_lat {P : Program} {ops : Array Oper} {Q : Exit → Act → World → Prop} {id : Nat} {a : Act} {w : World} (hm : P.follows .mixedOrders = true) (I : Array Bool → Act → World → Prop) (h0 : I (Array.replicate ops.size false) a w.drew)
    (hend : ∀ ls a w, I ls a w → Region.ready .any ops ls = [] → Q .normal a w)
    (hstep : ∀ ls a w i, I ls a w → i ∈ Region.ready .any ops ls → wpOp P ops Q i (fun a' w' => I (ls.setIfInBounds i true) a' w') a w) : (Code.region id ops true).wp P Q a w := by
  refine wp_region_any hm (wpAny_lat I hend hstep _ _ _ _ h0 ?_)
  unfold left
  have := List.countP_le_length (p := fun b : Bool => !b) (l := (Array.replicate ops.size false).toList)
  simpa using this
/-- Each operation waits for earlier ones alone. -/
def fwd (ops : Array Oper) : Bool := (List.range ops.size).all fun i => match ops[i]? with
  | some o => o.after.all fun e => decide (e.on < i)
  | none => true
/-- Where nothing more may come up, all have come up. -/
theorem all_on {ops : Array Oper} {md : Region.Mode} {ls : Array Bool} (hf : fwd ops = true) (hs : ls.size = ops.size) (hr : Region.ready md ops ls = []) : ∀ i, i < ops.size → ls.getD i false = true := by
  intro i
  induction i using Nat.strongRecOn with
  | ind i ih =>
    intro hi
    have ho : ops[i]? = some ops[i] := Array.getElem?_eq_getElem hi
    have hc := List.all_eq_true.1 hf i (List.mem_range.2 hi)
    rw [ho] at hc
    simp only [Array.all_eq_true'] at hc
    cases hb : ls.getD i false with
    | true => rfl
    | false =>
      exfalso
      have hmem : i ∈ Region.ready md ops ls := mem_ready.2 ⟨by
        have hi' : i < ls.size := by omega
        simp [hi'] at hb ⊢
        exact hb, _, ho, fun e he _ => ih e.on (of_decide_eq_true (hc e he)) (by have := of_decide_eq_true (hc e he); omega)⟩
      rw [hr] at hmem
      cases hmem
end Go.Proofs.YtgoglfahlfkbiaaDoor
