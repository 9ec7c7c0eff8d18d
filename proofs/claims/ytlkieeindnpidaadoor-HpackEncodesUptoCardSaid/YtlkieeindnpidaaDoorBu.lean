/-
  ARGUMENTS: blocks whose texts are no longer than their bulk.
-/
import Derived.Test.YtlkieeindnpidaaDoorOb
namespace Go.Proofs.YtlkieeindnpidaaDoor
open Go.Joins Go.ChangeShapes Go.WideShapes Go.ChangeAt Go.RowKit Go.Deep Tt Hu Hu.Hf

theorem bulk_in {H : Type} {d : DataW H} : ∀ {l : List (DataW H)}, d ∈ l → Rows.uptoBulk d ≤ Rows.uptoBulkAll l
  | [], h => by cases h
  | y :: l, h => by
    rw [Rows.uptoBulkAll]
    rcases List.mem_cons.1 h with rfl | h
    · omega
    · have := bulk_in h
      omega
/-- Headers whose texts are of at most K bytes. -/
def SmK (K : Nat) (L : List Hn) : Prop := ∀ i (h : i < L.length), (L[i]).1.1.size ≤ K ∧ (L[i]).1.2.size ≤ K
set_option maxRecDepth 100000 in
theorem hdrs_bulk {H : Type} {enc : TypeId × Value → H} {W : World} {fuel : Nat} {cs : List Value} {x : DataW H × List MemPlace} (hf : DataW.trod enc Tryd.prog W 0 (fun _ => true) true fuel 50 cs = some x)
    {K : Nat} (hw : Rows.uptoBulk x.1 ≤ K) : ∃ a n c L, cs = [.slice a n c] ∧ Ns W a n c L ∧ SmK K L := by
  rcases open_slice Tryd.underlying50 hf with ⟨hcs, _⟩ | ⟨a, len, cap, m, n, D, Pl, hcs, _, hle, hmax, hmm, hx, hi⟩
  · exact ⟨none, 0, 0, [], hcs, ⟨rfl, Nat.le_refl _, by unfold maxLen; omega, fun _ => rfl, fun i hi => by simp at hi⟩, fun i hi => by simp at hi⟩
  · have hdx : x.1 = .slice ((List.range len).map D) ((List.range (m - len)).map fun j => D (len + j)) := by rw [hx]
    rw [hdx] at hw
    simp only [Rows.uptoBulk] at hw
    have hlm : len ≤ m := by rw [hmm]; simp; omega
    have hspot : 0 < len → ∃ b o, a = ⟨b, o, none⟩ := by
      intro hl
      obtain ⟨cs', hc, ht⟩ := hi 0 (by omega)
      rw [cellsH] at hc
      obtain ⟨C, rfl, _⟩ := hdr_of ht
      obtain ⟨_, _, hat⟩ := World.cells?_some hc
      have h0 := hat 0 (by omega)
      obtain ⟨b, o, z⟩ := a
      have hz : z = none := by simpa [Addr.add] using World.cell?_spot h0
      subst hz
      exact ⟨b, o, rfl⟩
    have key : ∀ i, ∃ C : Hn, i < len → (∃ b o, a = ⟨b, o, none⟩ ∧ W.cell? ⟨b, o + i * 3, none⟩ = some (.string C.1.1) ∧ W.cell? ⟨b, o + i * 3 + 1, none⟩ = some (.string C.1.2) ∧ W.cell? ⟨b, o + i * 3 + 2, none⟩ = some (.bool C.2)) ∧
        (C.1.1.size ≤ K ∧ C.1.2.size ≤ K) := by
      intro i
      by_cases hil : i < len
      · obtain ⟨cs', hc, ht⟩ := hi i (by omega)
        rw [cellsH] at hc
        obtain ⟨C, rfl, hD⟩ := hdr_of ht
        obtain ⟨_, hcl, hat⟩ := World.cells?_some hc
        refine ⟨C, fun _ => ⟨?_, ?_⟩⟩
        · obtain ⟨b, o, rfl⟩ := hspot (by omega)
          have h0 := hat 0 (by omega)
          have h1 := hat 1 (by omega)
          have h2 := hat 2 (by omega)
          simp only [Addr.add_mid, Nat.add_zero] at h0 h1 h2
          exact ⟨b, o, rfl, h0, h1, h2⟩
        · have hmem : D i ∈ (List.range len).map D := List.mem_map.2 ⟨i, List.mem_range.2 hil, rfl⟩
          have hwi := bulk_in hmem
          simp only at hD
          rw [hD] at hwi
          simp [Rows.uptoBulk, Rows.uptoBulkAll] at hwi
          omega
      · exact ⟨((⟨#[]⟩, ⟨#[]⟩), false), fun h => absurd h hil⟩
    refine ⟨some a, len, cap, (List.range len).map fun i => Classical.choose (key i), hcs, ⟨by simp, hle, hmax, (fun h => by cases h), fun i hi => ?_⟩, fun i hi => ?_⟩
    all_goals simp only [List.length_map, List.length_range] at hi
    all_goals simp only [List.getElem_map, List.getElem_range]
    all_goals obtain ⟨⟨b, o, e, hc⟩, hs⟩ := Classical.choose_spec (key i) hi
    · exact ⟨b, o, by rw [e], hc⟩
    · exact hs
set_option maxRecDepth 100000 in
theorem open_blocksK {H : Type} {enc : TypeId × Value → H} {W : World} {r : Reach} {b0 : Nat} {v : Value} {d : DataW H} {ps : List MemPlace} (hval : Value.okWide Tryd.prog W r b0 43 v)
    (hd : DataW.Trod enc Tryd.prog W 0 (fun _ => true) true 43 v d ps) {K : Nat} (hw : Rows.uptoBulk d ≤ K) (hK : K ≤ 140737488355328) : ∃ a n c L, v = .slice a n c ∧ Bs W a n c L ∧ ∀ i (h : i < L.length), SmK K (L[i]).L := by
  obtain ⟨a0, len, cap, rfl⟩ := okWide_slice Tryd.underlying43 hval
  obtain ⟨fuel, hf⟩ := hd
  rcases open_slice Tryd.underlying43 hf with ⟨hcs, _⟩ | ⟨a, len', cap', m, n, D, Pl, hcs, _, hle, hmax, hmm, hx, hi⟩
  · simp [Value.cells] at hcs
    obtain ⟨rfl, rfl, rfl⟩ := hcs
    exact ⟨none, 0, 0, [], rfl, ⟨rfl, Nat.le_refl _, by unfold maxLen; omega, fun i hi => by simp at hi⟩, fun i hi => by simp at hi⟩
  · simp [Value.cells] at hcs
    obtain ⟨rfl, rfl, rfl⟩ := hcs
    have hdx : d = .slice ((List.range len).map D) ((List.range (m - len)).map fun j => D (len + j)) := by
      have := congrArg Prod.fst hx
      simpa using this
    subst hdx
    simp only [Rows.uptoBulk] at hw
    have hlm : len ≤ m := by rw [hmm]; simp; omega
    have hspot : 0 < len → ∃ b o, a = ⟨b, o, none⟩ := by
      intro hl
      obtain ⟨cs', hc, ht⟩ := hi 0 (by omega)
      rw [cellsBk] at hc
      obtain ⟨s, c1, y, k, rfl, _⟩ := blk_of ht
      obtain ⟨_, _, hat⟩ := World.cells?_some hc
      have h0 := hat 0 (by omega)
      obtain ⟨b, o, z⟩ := a
      have hz : z = none := by simpa [Addr.add] using World.cell?_spot h0
      subst hz
      exact ⟨b, o, rfl⟩
    have key : ∀ i, ∃ C : Bk, i < len → (∃ b o, a = ⟨b, o, none⟩ ∧ W.cell? ⟨b, o + i * 2, none⟩ = some (.int .i64 C.size) ∧ W.cell? ⟨b, o + i * 2 + 1, none⟩ = some (.slice C.a C.n C.c)) ∧
        Ns W C.a C.n C.c C.L ∧ SmK K C.L ∧ (-9223372036854775808 ≤ C.size ∧ C.size ≤ 9223372036854775807) := by
      intro i
      by_cases hil : i < len
      · obtain ⟨cs', hc, ht⟩ := hi i (by omega)
        rw [cellsBk] at hc
        obtain ⟨s, c1, y, k, rfl, hsb, hD, hy⟩ := blk_of ht
        obtain ⟨_, hcl, hat⟩ := World.cells?_some hc
        have hmem : D i ∈ (List.range len).map D := List.mem_map.2 ⟨i, List.mem_range.2 hil, rfl⟩
        have hwi := bulk_in hmem
        simp only at hD
        rw [hD] at hwi
        simp only [Rows.uptoBulk, Rows.uptoBulkAll] at hwi
        obtain ⟨ax, nx, cx, Lx, hcx, hns, hsz⟩ := hdrs_bulk (K := K) hy (by omega)
        obtain rfl := List.head_eq_of_cons_eq hcx
        refine ⟨⟨s, ax, nx, cx, Lx⟩, fun _ => ⟨?_, hns, hsz, hsb⟩⟩
        obtain ⟨b, o, rfl⟩ := hspot (by omega)
        have h0 := hat 0 (by omega)
        have h1 := hat 1 (by omega)
        simp only [Addr.add_mid, Nat.add_zero] at h0 h1
        exact ⟨b, o, rfl, h0, h1⟩
      · exact ⟨⟨0, none, 0, 0, []⟩, fun h => absurd h hil⟩
    refine ⟨some a, len, cap, (List.range len).map fun i => Classical.choose (key i), rfl, ⟨by simp, hle, hmax, fun i hi => ?_⟩, fun i hi => ?_⟩
    all_goals simp only [List.length_map, List.length_range] at hi
    all_goals simp only [List.getElem_map, List.getElem_range]
    all_goals obtain ⟨⟨b, o, e, hc⟩, hs⟩ := Classical.choose_spec (key i) hi
    · exact ⟨⟨b, o, by rw [e], hc⟩, hs.1, (fun j hj => ⟨by have := (hs.2.1 j hj).1; omega, by have := (hs.2.1 j hj).2; omega⟩), hs.2.2⟩
    · exact hs.2.1
end Go.Proofs.YtlkieeindnpidaaDoor
