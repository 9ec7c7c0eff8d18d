/-
  ARGUMENTS: a slice of headers.
-/
import Derived.Test.YtlkieeindnpidaaDoorRb
import Derived.Test.YtlkieeindnpidaaDoorU
import Derived.Deep.Slices
import Derived.Deep.Strs
import Derived.Lib.SmallJoins
namespace Go.Proofs.YtlkieeindnpidaaDoor
open Go.Joins Go.ChangeShapes Go.WideShapes Go.ChangeAt Go.RowKit Go.Deep Tt Hu Hu.Hf

theorem cellsH : Tryd.prog.cellsOf 77 = 3 := by kernel_rfl
theorem cellsStr : Tryd.prog.cellsOf 9 = 1 := by kernel_rfl
theorem cellsBool : Tryd.prog.cellsOf 4 = 1 := by kernel_rfl
theorem bytesH : Tryd.prog.bytesOf 77 = 40 := by kernel_rfl
theorem weights_in {H : Type} {P : Program} {e : TypeId} {d : DataW H} : ∀ {l : List (DataW H)}, d ∈ l → ∀ x ∈ DataW.weights P e d, x ∈ DataW.weightsAll P e l
  | [], h, _, _ => by cases h
  | y :: l, h, x, hx => by
    rw [DataW.weightsAll]
    rcases List.mem_cons.1 h with rfl | h
    · exact List.mem_append_left _ hx
    · exact List.mem_append_right _ (weights_in h x hx)
/-- One header out of its cells. -/
theorem hdr_of {H : Type} {enc : TypeId × Value → H} {W : World} {n : Nat} {cs : List Value} {x : DataW H × List MemPlace} (h : DataW.trod enc Tryd.prog W 0 (fun _ => true) true n 77 cs = some x) :
    ∃ C : Hn, cs = [.string C.1.1, .string C.1.2, .bool C.2] ∧ x.1 = .agg [.lit (.string C.1.1.data.toList), .lit (.string C.1.2.data.toList), .lit (.bool C.2)] := by
  obtain ⟨y0, y1, y2, n', rfl, hl, h0, h1, h2⟩ := trod_struct3 Tryd.underlying77 h
  rw [cellsH] at hl
  simp only [cellsStr, cellsBool] at h0 h1 h2
  match cs, hl with
  | [c0, c1, c2], _ =>
    simp only [List.drop_zero, List.drop_succ_cons, List.take_succ_cons, List.take_zero] at h0 h1 h2
    obtain ⟨a, e0, rfl, _⟩ := DataW.trod_string Tryd.underlying9 h0
    obtain ⟨b, e1, rfl, _⟩ := DataW.trod_string Tryd.underlying9 h1
    obtain ⟨c, e2, rfl⟩ := DataW.trod_bool Tryd.underlying4 h2
    cases e0
    cases e1
    cases e2
    exact ⟨((a, b), c), rfl, rfl⟩
set_option maxRecDepth 100000 in
theorem hdrs_of {H : Type} {enc : TypeId × Value → H} {W : World} {fuel : Nat} {cs : List Value} {x : DataW H × List MemPlace} (hf : DataW.trod enc Tryd.prog W 0 (fun _ => true) true fuel 50 cs = some x)
    (hw : ∀ y ∈ DataW.weights Tryd.prog 50 x.1, y ≤ 140737488351232) : ∃ a n c L, cs = [.slice a n c] ∧ Ns W a n c L ∧ Sz47 L := by
  rcases open_slice Tryd.underlying50 hf with ⟨hcs, _⟩ | ⟨a, len, cap, m, n, D, Pl, hcs, _, hle, hmax, hmm, hx, hi⟩
  · exact ⟨none, 0, 0, [], hcs, ⟨rfl, Nat.le_refl _, by unfold maxLen; omega, fun _ => rfl, fun i hi => by simp at hi⟩, fun i hi => by simp at hi⟩
  · have hdx : x.1 = .slice ((List.range len).map D) ((List.range (m - len)).map fun j => D (len + j)) := by rw [hx]
    rw [hdx] at hw
    simp only [DataW.weights, Tryd.underlying50, bytesH, List.length_map, List.length_range] at hw
    have hlm : len ≤ m := by rw [hmm]; simp; omega
    have hspot : 0 < len → ∃ b o, a = ⟨b, o, none⟩ := by
      intro hl
      obtain ⟨cs', hc, ht⟩ := hi 0 (by omega)
      rw [cellsH] at hc
      obtain ⟨C, rfl, _⟩ := hdr_of ht
      obtain ⟨_, _, hat⟩ := World.cells?_some hc
      have h0 := hat 0 (by omega)
      obtain ⟨b, o, z⟩ := a
      have hz : z = none := by simpa [Addr.add] using World.cell?_spot h0
      subst hz
      exact ⟨b, o, rfl⟩
    have key : ∀ i, ∃ C : Hn, i < len → (∃ b o, a = ⟨b, o, none⟩ ∧ W.cell? ⟨b, o + i * 3, none⟩ = some (.string C.1.1) ∧ W.cell? ⟨b, o + i * 3 + 1, none⟩ = some (.string C.1.2) ∧ W.cell? ⟨b, o + i * 3 + 2, none⟩ = some (.bool C.2)) ∧
        (C.1.1.size ≤ 140737488355328 ∧ C.1.2.size ≤ 140737488355328) := by
      intro i
      by_cases hil : i < len
      · obtain ⟨cs', hc, ht⟩ := hi i (by omega)
        rw [cellsH] at hc
        obtain ⟨C, rfl, hD⟩ := hdr_of ht
        obtain ⟨_, hcl, hat⟩ := World.cells?_some hc
        refine ⟨C, fun _ => ⟨?_, ?_⟩⟩
        · obtain ⟨b, o, rfl⟩ := hspot (by omega)
          have h0 := hat 0 (by omega)
          have h1 := hat 1 (by omega)
          have h2 := hat 2 (by omega)
          simp only [Addr.add_mid, Nat.add_zero] at h0 h1 h2
          exact ⟨b, o, rfl, h0, h1, h2⟩
        · have hmem : D i ∈ (List.range len).map D := List.mem_map.2 ⟨i, List.mem_range.2 hil, rfl⟩
          have hwi := fun x hx => hw x (List.mem_cons_of_mem _ (List.mem_append_left _ (weights_in (e := 77) hmem x hx)))
          simp only at hD
          rw [hD] at hwi
          simp [DataW.weights, DataW.weightsEach, Tryd.underlying77] at hwi
          omega
      · exact ⟨((⟨#[]⟩, ⟨#[]⟩), false), fun h => absurd h hil⟩
    refine ⟨some a, len, cap, (List.range len).map fun i => Classical.choose (key i), hcs, ⟨by simp, hle, hmax, (fun h => by cases h), fun i hi => ?_⟩, fun i hi => ?_⟩
    all_goals simp only [List.length_map, List.length_range] at hi
    all_goals simp only [List.getElem_map, List.getElem_range]
    all_goals obtain ⟨⟨b, o, e, hc⟩, hs⟩ := Classical.choose_spec (key i) hi
    · exact ⟨b, o, by rw [e], hc⟩
    · exact hs
set_option maxRecDepth 100000 in
theorem open_hdrs {H : Type} {enc : TypeId × Value → H} {W : World} {r : Reach} {b0 : Nat} {v : Value} {d : DataW H} {ps : List MemPlace} (hval : Value.okWide Tryd.prog W r b0 50 v)
    (hd : DataW.Trod enc Tryd.prog W 0 (fun _ => true) true 50 v d ps) (hw : ∀ x ∈ DataW.weights Tryd.prog 50 d, x ≤ 140737488351232) : ∃ a n c L, v = .slice a n c ∧ Ns W a n c L ∧ Sz47 L := by
  obtain ⟨a0, len, cap, rfl⟩ := okWide_slice Tryd.underlying50 hval
  obtain ⟨fuel, hf⟩ := hd
  obtain ⟨a, n, c, L, hcs, h1, h2⟩ := hdrs_of hf hw
  simp [Value.cells] at hcs
  obtain ⟨rfl, rfl, rfl⟩ := hcs
  exact ⟨_, _, _, L, rfl, h1, h2⟩
end Go.Proofs.YtlkieeindnpidaaDoor
