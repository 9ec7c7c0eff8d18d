/-
  ARGUMENTS: a slice of calls.
-/
import Derived.Test.YtbdpeioafelolaaDoorO
import Derived.Test.YtbdpeioafelolaaDoorP
import Derived.Deep.Slices
import Derived.Deep.Strs
namespace Go.Proofs.YtbdpeioafelolaaDoor
open Go.Joins Go.ChangeShapes Go.WideShapes Go.ChangeAt Go.RowKit Go.Deep

theorem cells36 : Tryd.prog.cellsOf 36 = 5 := by kernel_rfl
theorem cells3 : Tryd.prog.cellsOf 3 = 1 := by kernel_rfl
theorem cells9 : Tryd.prog.cellsOf 9 = 1 := by kernel_rfl
theorem cells4 : Tryd.prog.cellsOf 4 = 1 := by kernel_rfl
theorem bytes36 : Tryd.prog.bytesOf 36 = 56 := by kernel_rfl
theorem weights_in {H : Type} {P : Program} {e : TypeId} {d : DataW H} : ∀ {l : List (DataW H)}, d ∈ l → ∀ x ∈ DataW.weights P e d, x ∈ DataW.weightsAll P e l
  | [], h, _, _ => by cases h
  | y :: l, h, x, hx => by
    rw [DataW.weightsAll]
    rcases List.mem_cons.1 h with rfl | h
    · exact List.mem_append_left _ hx
    · exact List.mem_append_right _ (weights_in h x hx)
/-- One call out of its cells. -/
theorem call_of {H : Type} {enc : TypeId × Value → H} {W : World} {n : Nat} {cs : List Value} {x : DataW H × List MemPlace} (h : DataW.trod enc Tryd.prog W 0 (fun _ => true) true n 36 cs = some x) :
    ∃ C : Cal, cs = [.int .i64 C.kind, .int .i64 C.num, .string C.h.1, .string C.h.2, .bool C.nev] ∧ (-9223372036854775808 ≤ C.num ∧ C.num ≤ 9223372036854775807) ∧
      x.1 = .agg [.lit (.int .i64 C.kind), .lit (.int .i64 C.num), .agg [.lit (.string C.h.1.data.toList), .lit (.string C.h.2.data.toList), .lit (.bool C.nev)]] := by
  obtain ⟨y0, y1, y2, n', rfl, hl, h0, h1, h2⟩ := trod_struct3 Tryd.underlying36 h
  rw [cells36] at hl
  simp only [cells3, cells34] at h0 h1 h2
  match cs, hl with
  | [c0, c1, c2, c3, c4], _ =>
    simp only [List.drop_zero, List.drop_succ_cons, List.take_succ_cons, List.take_zero] at h0 h1 h2
    obtain ⟨k, e0, rfl, _⟩ := DataW.trod_int Tryd.underlying3 h0
    obtain ⟨m, e1, rfl, hwf⟩ := DataW.trod_int Tryd.underlying3 h1
    obtain ⟨z0, z1, z2, n'', rfl, _, g0, g1, g2⟩ := trod_struct3 Tryd.underlying34 h2
    simp only [cells9, cells4, List.drop_zero, List.drop_succ_cons, List.take_succ_cons, List.take_zero] at g0 g1 g2
    obtain ⟨a, e2, rfl, _⟩ := DataW.trod_string Tryd.underlying9 g0
    obtain ⟨b, e3, rfl, _⟩ := DataW.trod_string Tryd.underlying9 g1
    obtain ⟨c, e4, rfl⟩ := DataW.trod_bool Tryd.underlying4 g2
    cases e0
    cases e1
    cases e2
    cases e3
    cases e4
    exact ⟨⟨k, m, (a, b), c⟩, rfl, i64_bound hwf, rfl⟩
set_option maxRecDepth 100000 in
theorem open_calls {H : Type} {enc : TypeId × Value → H} {W : World} {r : Reach} {b0 : Nat} {v : Value} {d : DataW H} {ps : List MemPlace} (hval : Value.okWide Tryd.prog W r b0 22 v)
    (hd : DataW.Trod enc Tryd.prog W 0 (fun _ => true) true 22 v d ps) (hw : ∀ x ∈ DataW.weights Tryd.prog 22 d, x ≤ 140737488351232) : ∃ a n c L, v = .slice a n c ∧ Cl W a n c L := by
  obtain ⟨a0, len, cap, rfl⟩ := okWide_slice Tryd.underlying22 hval
  obtain ⟨fuel, hf⟩ := hd
  rcases open_slice Tryd.underlying22 hf with ⟨hcs, _⟩ | ⟨a, len', cap', m, n, D, Pl, hcs, _, hle, hmax, hmm, hx, hi⟩
  · simp [Value.cells] at hcs
    obtain ⟨rfl, rfl, rfl⟩ := hcs
    exact ⟨none, 0, 0, [], rfl, ⟨rfl, Nat.le_refl _, by omega, fun _ => rfl, fun i hi => by simp at hi, fun i hi => by simp at hi, fun i hi => by simp at hi⟩⟩
  · simp [Value.cells] at hcs
    obtain ⟨rfl, rfl, rfl⟩ := hcs
    have hdx : d = .slice ((List.range len).map D) ((List.range (m - len)).map fun j => D (len + j)) := by
      have := congrArg Prod.fst hx
      simpa using this
    subst hdx
    simp only [DataW.weights, Tryd.underlying22, bytes36, List.length_map, List.length_range] at hw
    have hlm : len ≤ m := by rw [hmm]; simp; omega
    have hn : len ≤ 140737488351232 := by
      have := hw _ (List.mem_cons_self)
      omega
    have hspot : 0 < len → ∃ b o, a = ⟨b, o, none⟩ := by
      intro hl
      obtain ⟨cs', hc, ht⟩ := hi 0 (by omega)
      rw [cells36] at hc
      obtain ⟨C, rfl, _, _⟩ := call_of ht
      obtain ⟨_, _, hat⟩ := World.cells?_some hc
      have h0 := hat 0 (by omega)
      obtain ⟨b, o, z⟩ := a
      have hz : z = none := by simpa [Addr.add] using World.cell?_spot h0
      subst hz
      exact ⟨b, o, rfl⟩
    have key : ∀ i, ∃ C : Cal, i < len → (∃ b o, a = ⟨b, o, none⟩ ∧ W.cell? ⟨b, o + i * 5, none⟩ = some (.int .i64 C.kind) ∧ W.cell? ⟨b, o + i * 5 + 1, none⟩ = some (.int .i64 C.num) ∧
        W.cell? ⟨b, o + i * 5 + 2, none⟩ = some (.string C.h.1) ∧ W.cell? ⟨b, o + i * 5 + 3, none⟩ = some (.string C.h.2) ∧ W.cell? ⟨b, o + i * 5 + 4, none⟩ = some (.bool C.nev)) ∧
        (C.h.1.size ≤ 140737488351232 ∧ C.h.2.size ≤ 140737488351232) ∧ (-9223372036854775808 ≤ C.num ∧ C.num ≤ 9223372036854775807) := by
      intro i
      by_cases hil : i < len
      · obtain ⟨cs', hc, ht⟩ := hi i (by omega)
        rw [cells36] at hc
        obtain ⟨C, rfl, hnum, hD⟩ := call_of ht
        obtain ⟨_, hcl, hat⟩ := World.cells?_some hc
        refine ⟨C, fun _ => ⟨?_, ?_, hnum⟩⟩
        · obtain ⟨b, o, rfl⟩ := hspot (by omega)
          have h0 := hat 0 (by omega)
          have h1 := hat 1 (by omega)
          have h2 := hat 2 (by omega)
          have h3 := hat 3 (by omega)
          have h4 := hat 4 (by omega)
          simp only [Addr.add_mid, Nat.add_zero] at h0 h1 h2 h3 h4
          exact ⟨b, o, rfl, h0, h1, h2, h3, h4⟩
        · have hmem : D i ∈ (List.range len).map D := List.mem_map.2 ⟨i, List.mem_range.2 hil, rfl⟩
          have hwi := fun x hx => hw x (List.mem_cons_of_mem _ (List.mem_append_left _ (weights_in (e := 36) hmem x hx)))
          simp only at hD
          rw [hD] at hwi
          simp [DataW.weights, DataW.weightsEach, Tryd.underlying36, Tryd.underlying34] at hwi
          exact hwi
      · exact ⟨⟨0, 0, (⟨#[]⟩, ⟨#[]⟩), false⟩, fun h => absurd h hil⟩
    refine ⟨some a, len, cap, (List.range len).map fun i => Classical.choose (key i), rfl, ⟨by simp, hle, hn, (fun h => by cases h), fun i hi => ?_, fun i hi => ?_, fun i hi => ?_⟩⟩
    all_goals simp only [List.length_map, List.length_range] at hi
    all_goals simp only [List.getElem_map, List.getElem_range]
    all_goals obtain ⟨⟨b, o, e, hc⟩, hs, hm⟩ := Classical.choose_spec (key i) hi
    · exact ⟨b, o, by rw [e], hc⟩
    · exact hs
    · exact hm
end Go.Proofs.YtbdpeioafelolaaDoor
