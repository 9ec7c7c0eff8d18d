/-
  WHAT THE ROWS' LISTS GIVE: the two errors; a slice of calls; the verdict's form.
-/
import Derived.Test.YtfgceakoakcccaaDoorE
import Derived.Test.YtfgceakoakcccaaDoorCards
import Derived.Test.YtfgceakoakcccaaDoorTie
import Derived.LaidLaws
import Derived.OpenShut
import Derived.LaidMore
import Derived.Deep.Slices
import Derived.Deep.Strs
import Derived.Lib.SmallJoins
import Derived.Lay
import Derived.Stop.LaidErr
import Derived.Stop.Joined
import Derived.Deep.DeepHandedRow
import Derived.Deep.DeepWitnessRowRef
import Derived.Laws.Bits128
namespace Go.Proofs.YtfgceakoakcccaaDoor
open Go.ChangeShapes Go.WideShapes Go.ChangeAt Go.RowKit Go.Joins Go.Deep

theorem own : ownKnob Tryd.prog.godebug = none := by kernel_rfl
theorem rowErrU (u : TypeId) (h : Tryd.prog.typeName? 3 u = some "*errors.errorString") : u = 74 :=
  typeName_ptr_named (nm := "errors.errorString") (by kernel_rfl) (by kernel_rfl) (by decide) u h

/-- One listed error: its cell, the pointer's block. -/
structure One (W : World) (g : Nat) (text : List UInt8) (a : Addr) : Prop where
  cell : W.cell? ⟨g, 0, none⟩ = some (.iface 74 (.pointer (some a)))
  str : ∃ s : ByteArray, W.cell? a = some (.string s) ∧ s.data.toList = text
  blk : ∃ (ca : Array Value) (ta : TypeId), W.heap[a.block]? = some (.cells ca ta (0, 0))
set_option maxRecDepth 100000 in
theorem one_of_laid {n : String} {text : List UInt8} {r : List (String × DataW Unit)} {W : World} {g : Nat} (h : laidMet Tryd.prog ((n, .iface "*errors.errorString" (.ptr (.agg [.lit (.string text)]))) :: r) W)
    (hg : Tryd.prog.globalNamed n = some g) (ht : (Tryd.prog.globals[g]?).map (·.type) = some 26) : ∃ a : Addr, One W g text a := by
  obtain ⟨ps, ⟨g0, t0, cs0, f0, p0, q0, hg0, ht0, hv0, hd0, _, e0⟩, _, hrows⟩ := h
  obtain rfl := Option.some.inj (hg.symm.trans hg0)
  obtain rfl := Option.some.inj (ht.symm.trans ht0)
  subst e0
  obtain ⟨l0⟩ := cs0
  have ok0 : ∀ u v, l0 = [.iface u v] → Value.okWide Tryd.prog W .any 0 u v := fun u v e => by
    subst e
    exact (hrows g 0 (by simp [MemPlace.row])).2 u v (by simpa using World.var?_cell hg0 hv0 0)
  obtain ⟨a0, s0, rfl, hc0, hs0, hz0, hp⟩ := errorString_of_trod Tryd.underlying26 rowErrU Tryd.underlying74 Tryd.underlying91 rfl rfl Tryd.underlying9 (by kernel_rfl) (by kernel_rfl) hd0 ok0
  refine ⟨a0, by simpa using World.var?_cell hg0 hv0 0, ⟨s0, hc0, hs0⟩, ?_⟩
  have hb := (hrows a0.block a0.off (by rw [hp]; simp [MemPlace.row])).1
  exact hb

/-- The two errors of this chapter, where the list has no more. -/
theorem sent_of_two {W : World} (h : laidMetH Tryd.prog Rows.flowSumRow.laid W) : ∃ en ew, Er W en ew := by
  rw [MakeChecks.laidMetH_plain _ _ _ (by kernel_rfl)] at h
  obtain ⟨ew, ow⟩ := one_of_laid h (g := 1) (by kernel_rfl) (by kernel_rfl)
  obtain ⟨en, on⟩ := one_of_laid (laidMet.tail h) (g := 0) (by kernel_rfl) (by kernel_rfl)
  exact ⟨en, ew, on.cell, ow.cell⟩
theorem laidOutP : laidOutB Tryd.prog = true := by kernel_rfl

/-- Arguments read as they did. -/
theorem trodAll_below {H : Type} {enc : TypeId × Value → H} {W W' : World} (hb : Below W.heap.size W W') : ∀ (ts : List TypeId) (vs : List Value) (ds : List (DataW H)) (ps : List MemPlace),
    (∀ t ∈ ts, Tryd.prog.readableRec t = true ∧ t < Tryd.prog.types.size) → DataW.TrodAll enc Tryd.prog W 0 (fun _ => true) true ts vs ds ps → (∀ x ∈ ps, x.block < W.heap.size) →
    DataW.TrodAll enc Tryd.prog W' 0 (fun b => decide (b < W.heap.size)) true ts vs ds ps
  | [], vs, ds, ps, _, h, _ => by
    obtain ⟨rfl, rfl, rfl⟩ := trodAll_nil h
    exact trodAll_mk0
  | t :: ts, vs, ds, ps, ht, h, hlt => by
    obtain ⟨v, vs', d, ds', p, q, rfl, rfl, rfl, h1, h2⟩ := trodAll_cons h
    exact ⟨p, q, Below.trod laidOutP (ht t (by simp)).1 (ht t (by simp)).2 h1 hb (fun x hx => hlt x (by simp [hx])), trodAll_below hb ts vs' ds' q (fun t h => ht t (by simp [h])) h2 (fun x hx => hlt x (by simp [hx])), rfl⟩

/-- True, and nothing that was there has turned. -/
theorem post_yes {H : Type} {enc : TypeId × Value → H} {f : Func} {s : ChangeSpec} {W W' : World} {args : Array Value} {ds gs : List (DataW H)} {before : List MemPlace}
    (hW : DataW.Whole enc Tryd.prog f.params.toList s.vars false W args.toList ds gs before) (hv : s.vars = []) (hr : f.resultTypes = #[4])
    (ht : ∀ t ∈ f.params.toList, Tryd.prog.readableRec t = true ∧ t < Tryd.prog.types.size)
    (hf : s.fn H ds = { results := [.lit (.bool true)], args := ds }) (hb : Below W.heap.size W W') :
    s.post enc Tryd.prog f false true false false W args (.bool true) W' := by
  have hW' := hW
  obtain ⟨p, q, hA, hV, rfl, hfz, hnd⟩ := hW
  rw [hv] at hV
  obtain ⟨rfl, rfl⟩ := trodVars_none hV
  have hlt : ∀ x ∈ p, x.block < W.heap.size := fun x hx => by simpa using hW'.lt x (by simp [hx])
  refine ⟨ds, [], p ++ [], [], p, [], hW', ?_, ?_, ?_, hb.frame _, fun h => by cases h⟩
  · rw [List.append_nil, hf, hr]
    exact trodAll_mk1 (shut_bool Tryd.underlying4 true)
  · rw [List.append_nil, hf]
    exact trodAll_below hb _ _ _ _ ht hA hlt
  · rw [List.append_nil, hf, hv]
    rfl
/-- What the list lays is met. -/
theorem two_met (os : Os) (args : Array Value) : laidMetH Tryd.prog Rows.flowSumRow.laid ((World.laidAll Tryd.prog os Rows.flowSumRow.laid).forCall (fun _ _ => 0) ⟨#[], args, []⟩).memory := by
  rw [MakeChecks.laidMetH_plain _ _ _ (by kernel_rfl)]
  exact laidMet_laidAll _ (by kernel_rfl) (by kernel_rfl)

theorem cellsC : Tryd.prog.cellsOf 34 = 3 := by kernel_rfl
theorem cellsI : Tryd.prog.cellsOf 3 = 1 := by kernel_rfl
theorem cellsB : Tryd.prog.cellsOf 4 = 1 := by kernel_rfl
/-- One call out of its cells. -/
theorem call_of {H : Type} {enc : TypeId × Value → H} {W : World} {n : Nat} {cs : List Value} {x : DataW H × List MemPlace} (h : DataW.trod enc Tryd.prog W 0 (fun _ => true) true n 34 cs = some x) :
    ∃ C : Cal, cs = [.int .i64 C.kind, .int .i64 C.num, .bool C.two] := by
  obtain ⟨y0, y1, y2, n', rfl, hl, h0, h1, h2⟩ := trod_struct3 Tryd.underlying34 h
  rw [cellsC] at hl
  simp only [cellsI] at h0 h1 h2
  match cs, hl with
  | [c0, c1, c2], _ =>
    simp only [List.drop_zero, List.drop_succ_cons, List.take_succ_cons, List.take_zero] at h0 h1 h2
    obtain ⟨k, e0, rfl, _⟩ := DataW.trod_int Tryd.underlying3 h0
    obtain ⟨m, e1, rfl, _⟩ := DataW.trod_int Tryd.underlying3 h1
    obtain ⟨c, e2, rfl⟩ := DataW.trod_bool Tryd.underlying4 h2
    cases e0
    cases e1
    cases e2
    exact ⟨⟨k, m, c⟩, rfl⟩
set_option maxRecDepth 100000 in
theorem open_calls {H : Type} {enc : TypeId × Value → H} {W : World} {r : Reach} {b0 : Nat} {v : Value} {d : DataW H} {ps : List MemPlace} (hval : Value.okWide Tryd.prog W r b0 22 v)
    (hd : DataW.Trod enc Tryd.prog W 0 (fun _ => true) true 22 v d ps) : ∃ a n c L, v = .slice a n c ∧ Cs W a n L := by
  obtain ⟨a0, len, cap, rfl⟩ := okWide_slice Tryd.underlying22 hval
  obtain ⟨fuel, hf⟩ := hd
  rcases open_slice Tryd.underlying22 hf with ⟨hcs, _⟩ | ⟨a, len', cap', m, n, D, Pl, hcs, _, hle, hmax, hmm, hx, hi⟩
  · simp [Value.cells] at hcs
    obtain ⟨rfl, rfl, rfl⟩ := hcs
    exact ⟨none, 0, 0, [], rfl, ⟨rfl, fun i hi => by simp at hi⟩⟩
  · simp [Value.cells] at hcs
    obtain ⟨rfl, rfl, rfl⟩ := hcs
    have hlm : len ≤ m := by rw [hmm]; simp; omega
    have hspot : 0 < len → ∃ b o, a = ⟨b, o, none⟩ := by
      intro hl
      obtain ⟨cs', hc, ht⟩ := hi 0 (by omega)
      rw [cellsC] at hc
      obtain ⟨C, rfl⟩ := call_of ht
      obtain ⟨_, _, hat⟩ := World.cells?_some hc
      have h0 := hat 0 (by omega)
      obtain ⟨b, o, z⟩ := a
      have hz : z = none := by simpa [Addr.add] using World.cell?_spot h0
      subst hz
      exact ⟨b, o, rfl⟩
    have key : ∀ i, ∃ C : Cal, i < len → ∃ b o, a = ⟨b, o, none⟩ ∧ W.cell? ⟨b, o + i * 3, none⟩ = some (.int .i64 C.kind) ∧ W.cell? ⟨b, o + i * 3 + 1, none⟩ = some (.int .i64 C.num) ∧ W.cell? ⟨b, o + i * 3 + 2, none⟩ = some (.bool C.two) := by
      intro i
      by_cases hil : i < len
      · obtain ⟨cs', hc, ht⟩ := hi i (by omega)
        rw [cellsC] at hc
        obtain ⟨C, rfl⟩ := call_of ht
        obtain ⟨_, hcl, hat⟩ := World.cells?_some hc
        have h0 := hat 0 (by omega)
        have h1 := hat 1 (by omega)
        have h2 := hat 2 (by omega)
        obtain ⟨b, o, rfl⟩ := hspot (by omega)
        simp only [Addr.add_mid, Nat.add_zero] at h0 h1 h2
        exact ⟨C, fun _ => ⟨b, o, rfl, h0, h1, h2⟩⟩
      · exact ⟨⟨0, 0, false⟩, fun h => absurd h hil⟩
    refine ⟨some a, len, cap, (List.range len).map fun i => Classical.choose (key i), rfl, ⟨by simp, fun i hi => ?_⟩⟩
    simp only [List.length_map, List.length_range] at hi
    simp only [List.getElem_map, List.getElem_range]
    obtain ⟨b, o, e, hc⟩ := Classical.choose_spec (key i) hi
    exact ⟨b, o, by rw [e], hc⟩
theorem i64_bound {n : Int} (h : (Lit.int .i64 n).wf = true) : -9223372036854775808 ≤ n ∧ n ≤ 9223372036854775807 := by
  have h1 : IntKind.i64.min = -9223372036854775808 := by decide
  have h2 : IntKind.i64.max = 9223372036854775807 := by decide
  simp [Lit.wf, h1, h2] at h
  omega
end Go.Proofs.YtfgceakoakcccaaDoor
