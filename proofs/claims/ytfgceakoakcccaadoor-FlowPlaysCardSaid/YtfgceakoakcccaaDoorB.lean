/-
  THE KIT OF PAIRS: rows of bound calls of the call's own; append; a pair in memory.
-/
import Derived.Test.YtfgceakoakcccaaDoorA
import Derived.Laws.AppendOwnNone
import Derived.Laws.EntriesVeiled
namespace Go.Proofs.YtfgceakoakcccaaDoor
open Go.RowKit

/-- What was ahead, but for the row v, is as it was, and the new row v' lies in none of it. -/
def Apart (v : Value) (w : World) (v' : Value) (w' : World) : Prop := ∀ x, x < w.heap.size → v.ownBlock ≠ some x → w'.heap[x]? = w.heap[x]? ∧ v'.ownBlock ≠ some x
theorem Apart.grown {v v' : Value} {w w' : World} (h : w.grownBy w' v.ownBlock) (hv : v'.ownBlock = v.ownBlock ∨ v'.ownBlock = some w.heap.size) : Apart v w v' w' := fun x hx hn => by
  refine ⟨h.block x hx (Ne.symm hn), ?_⟩
  rcases hv with e | e
  · rw [e]; exact hn
  · rw [e]; intro h; cases h; omega
theorem info_of {e : TypeId} (h : (Tryd.prog.info? e).map (fun i => (i.zero, i.size, i.bytes)) = some (some .nilFunc, 1, 8)) : ∃ i, Tryd.prog.info? e = some i ∧ i.zero = some .nilFunc ∧ i.size = 1 ∧ i.bytes = 8 := by
  obtain ⟨i, hi, he⟩ := Option.map_eq_some_iff.1 h
  simp only [Prod.mk.injEq] at he
  exact ⟨i, hi, he.1, he.2.1, he.2.2⟩
theorem row_blk {w w' : World} {B n : Nat} {e : TypeId} {v : Value} {xs : List Value} (h : w.ownsRow B e 1 v n xs) (hb : ∀ g, v.ownBlock = some g → w'.heap[g]? = w.heap[g]?) : w'.ownsRow B e 1 v n xs := by
  obtain ⟨h1, h2⟩ := h
  refine ⟨h1, ?_⟩
  rcases h2 with h2 | ⟨g, cap, cur, hv, hg, hh, q⟩
  · exact Or.inl h2
  · refine Or.inr ⟨g, cap, cur, hv, hg, ?_, q⟩
    rw [hb g (by rw [hv]; rfl)]
    exact hh
/-- How a row reads. -/
theorem row_at {w : World} {B n : Nat} {e : TypeId} {v : Value} {xs : List Value} (h : w.ownsRow B e 1 v n xs) (hn : n = xs.length) : ∃ a c, v = .slice a n c ∧ ∀ i (hi : i < xs.length), ∃ g, a = some ⟨g, 0, none⟩ ∧ B ≤ g ∧ w.cell? ⟨g, i, none⟩ = some xs[i] := by
  obtain ⟨h1, h2⟩ := h
  rcases h2 with ⟨rfl, h0⟩ | ⟨g, cap, cur, rfl, hg, hh, hnn, hm, hs, ht⟩
  · refine ⟨none, 0, by rw [h0], fun i hi => by omega⟩
  · refine ⟨_, _, rfl, fun i hi => ⟨g, rfl, hg, ?_⟩⟩
    have e : xs[i]? = cur[i]? := by
      rw [← ht, List.getElem?_take_of_lt (by omega)]
      simp
    rw [List.getElem?_eq_getElem hi] at e
    simp [World.cell?, hh, ← e]

/-- 'append(s, f)', s of the call's own, f a function. -/
theorem wp_append_f {w : World} {ops : Array Oper} {rest : List Oper} {o : Oper} {a : Act} {Q : Exit → Act → World → Prop} (e sl : TypeId) (hu : Tryd.prog.underlying sl = some (.slice e))
    (hinf : (Tryd.prog.info? e).map (fun i => (i.zero, i.size, i.bytes)) = some (some .nilFunc, 1, 8))
    (hgd : o.guard = none) (s x : Operand) (ho : o.op = .call { callee := .builtin .append, args := #[s, x], argTypes := #[sl, sl] })
    (v : Value) (fs : List Value) (hs : a.eval s = v) (B : Nat) (hown : w.ownsRow B e 1 v fs.length fs) (g : Nat) (f : Value) (hx : a.eval x = .slice (some ⟨g, 0, none⟩) 1 1) (hc : w.cell? ⟨g, 0, none⟩ = some f) (hf : f.oneCell' = true)
    (hlen : fs.length ≤ 100) (hbase : B ≤ w.heap.size)
    (hK : ∀ w' a' c', w'.ownsRow B e 1 (.slice a' (fs.length + 1) c') (fs.length + 1) (fs ++ [f]) → Below B w w' → Apart v w (.slice a' (fs.length + 1) c') w' → wpList Tryd.prog ops Q rest (a.put o.dst (.slice a' (fs.length + 1) c')) w') :
    wpList Tryd.prog ops Q (o :: rest) a w := by
  obtain ⟨i0, hi, hz0, hz1, hz2⟩ := info_of hinf
  refine wpList_append_own_at w hgd s x _ ho B _ i0 .nilFunc 1 8 hu hi hz0 hz1 hz2 rfl (by decide) v fs.length fs hs hown ⟨g, 0, none⟩ 1 1 [f] hx rfl ?_ ?_ (by unfold maxLen; omega) (by omega) hbase ?_
  · intro j u hj
    cases j with
    | zero => cases hj; exact hc
    | succ j => simp at hj
  · intro u hu
    simp at hu
    subst hu
    exact hf
  · intro v' w' h1 h2 _ h4
    obtain ⟨a', c', rfl, _⟩ := row_at h1 (by simp)
    exact hK w' a' c' h1 ((Below.refl B w).grown h2 hbase (fun k hk => (World.ownsRow.lt hown k hk).1)) (Apart.grown h2 h4)
/-- The calls bound to a window. -/
abbrev rf (b : Nat) : Value := .func (.func 20) #[.pointer (some ⟨b, 0, none⟩)] #[]
abbrev tf (b : Nat) : Value := .func (.func 11) #[.pointer (some ⟨b, 0, none⟩)] #[]
/-- The pair at block p is of the windows ws. -/
structure Pr (w : World) (p : Nat) (ws : List Nat) (vr vt : Value) : Prop where
  c0 : w.cell? ⟨p, 0, none⟩ = some vr
  c1 : w.cell? ⟨p, 1, none⟩ = some vt
  z : ∀ i, w.frozen? ⟨p, i, none⟩ = false
  r : w.ownsRow (p + 1) 41 1 vr ws.length (ws.map rf)
  t : w.ownsRow (p + 1) 37 1 vt ws.length (ws.map tf)
  ap : ∀ x, vr.ownBlock = some x → vt.ownBlock ≠ some x
theorem Pr.lt {w : World} {p : Nat} {ws : List Nat} {vr vt : Value} (h : Pr w p ws vr vt) : p < w.heap.size := cell_lt h.c0
theorem Pr.kp {w w' : World} {p : Nat} {ws S : List Nat} {vr vt : Value} (h : Pr w p ws vr vt) (hk : Kp S w w') (hS : ∀ b ∈ S, b < p) : Pr w' p ws vr vt := by
  have hp := hk.block p h.lt (fun hm => by have := hS p hm; omega)
  refine ⟨(World.cell?_of_block hp).trans h.c0, (World.cell?_of_block hp).trans h.c1, fun i => (World.frozen?_of_block hp).trans (h.z i), row_blk h.r fun g hg => ?_, row_blk h.t fun g hg => ?_, h.ap⟩
  · have := World.ownsRow.lt h.r g hg
    exact hk.block g this.2 (fun hm => by have := hS g hm; omega)
  · have := World.ownsRow.lt h.t g hg
    exact hk.block g this.2 (fun hm => by have := hS g hm; omega)
theorem Pr.below {w w' : World} {p : Nat} {ws : List Nat} {vr vt : Value} (h : Pr w p ws vr vt) (hb : Below w.heap.size w w') : Pr w' p ws vr vt := h.kp (S := []) (Kp.of_below hb) (fun _ hm => by cases hm)
theorem infoR : (Tryd.prog.info? 41).map (fun i => (i.zero, i.size, i.bytes)) = some (some .nilFunc, 1, 8) := by kernel_rfl
theorem infoE : (Tryd.prog.info? 37).map (fun i => (i.zero, i.size, i.bytes)) = some (some .nilFunc, 1, 8) := by kernel_rfl
end Go.Proofs.YtfgceakoakcccaaDoor
