/-
  CONTRACTS: OpenAnswer.
-/
import Derived.Test.YtgoglfahlfkbiaaDoorR
namespace Go.Proofs.YtgoglfahlfkbiaaDoor
open Go.RowKit Tt

/-- A store into the map of keepers. -/
theorem wp_insertS {w : World} {ops : Array Oper} {rest : List Oper} {o : Oper} {a : Act} {Q : Exit → Act → World → Prop}
    (hg : o.guard = none) (m x v : Operand) (hop : o.op = Op.insert 70 m x v) (b n : Nat) (D : DataW Value)
    (hm : a.eval m = .map (some b)) (hown : w.ownsMap Tryd.prog 9 fnR b n D) (hn : n < 20) (k : ByteArray) (val : Value) (hx : a.eval x = .string k) (hv : a.eval v = val) (hk : k.size ≤ maxLen)
    (hK : ∀ w', w'.ownsMap Tryd.prog 9 fnR b (n + 1) (D.put (.string k.data.toList) (.held val)) → w.grownBy w' (some b) → wpList Tryd.prog ops Q rest (a.put o.dst undef) w') :
    wpList Tryd.prog ops Q (o :: rest) a w := by
  refine wpList_plain hg fun K' hK' => ?_
  obtain ⟨w', hrun, r1, r2⟩ := hown.update (Maps.string_keyed Tryd.underlying9) Tryd.underlying70 (by unfold maxLen; omega) (val := val) (Go.WideMaps.keyOf_string_mk (P := Tryd.prog) Tryd.underlying9 hk) (d := .held val) (ps := []) rfl
  unfold Oper.wp
  simp [execOp, hop, hm, hx, hv, hrun, Result.andThen]
  exact hK' _ _ (hK w' r1 r2)
set_option maxRecDepth 100000 in
set_option maxHeartbeats 2000000 in
theorem ofAns_any (r : Nat) (w : World) (hr : AB w r 0) : Calls Tryd.prog 38 #[.pointer (some ⟨r, 0, none⟩)] w (OfAnsPost r w) := by
  have hb0 : Below w.heap.size w (w.alloc (.cells #[.pointer (some ⟨r, 0, none⟩)] 76)) := (Below.refl _ w).alloc (Nat.le_refl _) _
  have hbc : (w.alloc (.cells #[.pointer (some ⟨r, 0, none⟩)] 76)).cell? ⟨w.heap.size, 0, none⟩ = some (.pointer (some ⟨r, 0, none⟩)) := by simp
  have hq0 := hr.blk (hb0.block r (cell_lt hr.c0))
  have hz0 : (w.alloc (.cells #[.pointer (some ⟨r, 0, none⟩)] 76)).heap.size = w.heap.size + 1 := by simp
  generalize hw0 : w.alloc (.cells #[.pointer (some ⟨r, 0, none⟩)] 76) = w0 at hb0 hbc hq0 hz0
  have HW0 := Lib.hid hw0
  have hm0 := World.ownsMap_made w0 Tryd.prog 9 fnR
  have hb1 : Below w0.heap.size w0 (w0.alloc (.map #[] 0)) := (Below.refl _ w0).alloc (Nat.le_refl _) _
  have hbc1 := (hb1.cell (cell_lt hbc)).trans hbc
  have hq1 := hq0.blk (hb1.block r (cell_lt hq0.c0))
  have hz1 : (w0.alloc (.map #[] 0)).heap.size = w0.heap.size + 1 := by simp
  generalize hw1 : w0.alloc (.map #[] 0) = w1 at hm0 hb1 hbc1 hq1 hz1
  have HW1 := Lib.hid hw1
  have HM0 := Lib.hid hm0
  have HB1 := Lib.hid (hb0.trans (hb1.mono (by omega)))
  have HBC := Lib.hid hbc1
  have HQ := Lib.hid hq1
  have HZ0 := Lib.hid hz0
  have HZ1 := Lib.hid hz1
  clear hw0 hw1 hm0 hb0 hb1 hbc hbc1 hq0 hq1 hz0 hz1 hr
  have hmm := @run_makeMap Tryd.prog
  go_enter Tryd.func38, Tryd.ntmps38
  go_upto_region 1 with fail
  rw [HW0.out]
  go_wp2_with (refine wp_insertS rfl _ _ _ rfl w0.heap.size 0 (.map []) rfl (by rw [HW1.out]; exact HM0.out) (by omega) ⟨#[58, 115, 116, 97, 116, 117, 115]⟩ (fnC 55 w.heap.size) rfl rfl (by unfold maxLen; decide) ?_; intro w2 hown2 hg2; (have HO2 := Lib.hid hown2); (have HG2 := Lib.hid hg2); clear hown2 hg2)
  go_ret
  have hg := HG2.out
  rw [HW1.out] at hg
  have hD : Maps.IsMap (.map [] : DataW Value) := Maps.isMap_empty
  have hk : WideAt.IsKeyLit (Lit.string stL) := by first | trivial | exact rfl | decide
  have hz0 := HZ0.out
  have hz1 := HZ1.out
  refine ⟨HB1.out.grown hg (by omega) (fun k e => by have : w0.heap.size = k := Option.some.inj e; omega), w0.heap.size, w.heap.size, _, rfl, ⟨HO2.out.mono (by omega), fun l => ?_, fun z => Maps.atKey_put_same hD hk _ z, by omega, ?_, ?_⟩, Nat.le_refl _⟩
  · by_cases hl : l = stL
    · subst hl
      show Maps.has ((DataW.map []).put (Lit.string stL) (.held (fnC 55 w.heap.size))) _ = _
      rw [Maps.has_put_same hD hk]
      simp
    · show Maps.has ((DataW.map []).put (Lit.string stL) (.held (fnC 55 w.heap.size))) _ = _
      rw [Maps.has_put_other (lit_ne hl), decide_eq_false hl]
      rfl
  · exact (World.cell?_of_block (a := ⟨w.heap.size, 0, none⟩) (cell_grown HM0.out hg HBC.out)).trans HBC.out
  · exact HQ.out.blk (cell_grown HM0.out hg HQ.out.c0)
end Go.Proofs.YtgoglfahlfkbiaaDoor
