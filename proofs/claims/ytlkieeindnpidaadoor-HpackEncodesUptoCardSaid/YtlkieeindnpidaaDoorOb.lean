/-
  ARGUMENTS: a slice of blocks (a size, a list of headers).
-/
import Derived.Test.YtlkieeindnpidaaDoorOh
namespace Go.Proofs.YtlkieeindnpidaaDoor
open Go.Joins Go.ChangeShapes Go.WideShapes Go.ChangeAt Go.RowKit Go.Deep Tt Hu Hu.Hf

theorem cellsBk : Tryd.prog.cellsOf 52 = 2 := by kernel_rfl
theorem cellsInt : Tryd.prog.cellsOf 3 = 1 := by kernel_rfl
theorem cellsHs : Tryd.prog.cellsOf 50 = 1 := by kernel_rfl
theorem bytesBk : Tryd.prog.bytesOf 52 = 32 := by kernel_rfl
/-- One of the blocks, and what it reads as. -/
structure Bk where
  size : Int
  a : Option Addr
  n : Nat
  c : Nat
  L : List Hn
/-- A slice reads as these blocks. -/
structure Bs (w : World) (a : Option Addr) (n c : Nat) (L : List Bk) : Prop where
  len : L.length = n
  le : n ≤ c
  max : c ≤ maxLen
  row : ∀ i (h : i < L.length), (∃ b o, a = some ⟨b, o, none⟩ ∧ w.cell? ⟨b, o + i * 2, none⟩ = some (.int .i64 (L[i]).size) ∧ w.cell? ⟨b, o + i * 2 + 1, none⟩ = some (.slice (L[i]).a (L[i]).n (L[i]).c)) ∧
    Ns w (L[i]).a (L[i]).n (L[i]).c (L[i]).L ∧ Sz47 (L[i]).L ∧ (-9223372036854775808 ≤ (L[i]).size ∧ (L[i]).size ≤ 9223372036854775807)
theorem Bs.kept {w w' : World} {a : Option Addr} {n c : Nat} {L : List Bk} (h : Bs w a n c L) (hb : Below w.heap.size w w') : Bs w' a n c L :=
  ⟨h.len, h.le, h.max, fun i hi => by
    obtain ⟨⟨b, o, e, h0, h1⟩, hs, hz⟩ := h.row i hi
    exact ⟨⟨b, o, e, (hb.cell (p := ⟨b, o + i * 2, none⟩) (Hu.cell_lt h0)).trans h0, (hb.cell (p := ⟨b, o + i * 2 + 1, none⟩) (Hu.cell_lt h1)).trans h1⟩, hs.kept hb, hz⟩⟩
/-- One block out of its cells. -/
theorem blk_of {H : Type} {enc : TypeId × Value → H} {W : World} {n : Nat} {cs : List Value} {x : DataW H × List MemPlace} (h : DataW.trod enc Tryd.prog W 0 (fun _ => true) true n 52 cs = some x) :
    ∃ (s : Int) (c1 : Value) (y : DataW H × List MemPlace) (m : Nat), cs = [.int .i64 s, c1] ∧ (-9223372036854775808 ≤ s ∧ s ≤ 9223372036854775807) ∧ x.1 = .agg [.lit (.int .i64 s), y.1] ∧ DataW.trod enc Tryd.prog W 0 (fun _ => true) true m 50 [c1] = some y := by
  obtain ⟨y0, y1, n', rfl, hl, h0, h1⟩ := trod_struct2 Tryd.underlying52 h
  rw [cellsBk] at hl
  simp only [cellsInt, cellsHs] at h0 h1
  match cs, hl with
  | [c0, c1], _ =>
    simp only [List.drop_zero, List.drop_succ_cons, List.take_succ_cons, List.take_zero] at h0 h1
    obtain ⟨s, e0, rfl, hwf⟩ := DataW.trod_int Tryd.underlying3 h0
    cases e0
    exact ⟨s, c1, y1, n', rfl, i64_bound hwf, rfl, h1⟩
set_option maxRecDepth 100000 in
theorem open_blocks {H : Type} {enc : TypeId × Value → H} {W : World} {r : Reach} {b0 : Nat} {v : Value} {d : DataW H} {ps : List MemPlace} (hval : Value.okWide Tryd.prog W r b0 43 v)
    (hd : DataW.Trod enc Tryd.prog W 0 (fun _ => true) true 43 v d ps) (hw : ∀ x ∈ DataW.weights Tryd.prog 43 d, x ≤ 140737488351232) : ∃ a n c L, v = .slice a n c ∧ Bs W a n c L := by
  obtain ⟨a0, len, cap, rfl⟩ := okWide_slice Tryd.underlying43 hval
  obtain ⟨fuel, hf⟩ := hd
  rcases open_slice Tryd.underlying43 hf with ⟨hcs, _⟩ | ⟨a, len', cap', m, n, D, Pl, hcs, _, hle, hmax, hmm, hx, hi⟩
  · simp [Value.cells] at hcs
    obtain ⟨rfl, rfl, rfl⟩ := hcs
    exact ⟨none, 0, 0, [], rfl, ⟨rfl, Nat.le_refl _, by unfold maxLen; omega, fun i hi => by simp at hi⟩⟩
  · simp [Value.cells] at hcs
    obtain ⟨rfl, rfl, rfl⟩ := hcs
    have hdx : d = .slice ((List.range len).map D) ((List.range (m - len)).map fun j => D (len + j)) := by
      have := congrArg Prod.fst hx
      simpa using this
    subst hdx
    simp only [DataW.weights, Tryd.underlying43, bytesBk, List.length_map, List.length_range] at hw
    have hlm : len ≤ m := by rw [hmm]; simp; omega
    have hspot : 0 < len → ∃ b o, a = ⟨b, o, none⟩ := by
      intro hl
      obtain ⟨cs', hc, ht⟩ := hi 0 (by omega)
      rw [cellsBk] at hc
      obtain ⟨s, c1, y, k, rfl, _⟩ := blk_of ht
      obtain ⟨_, _, hat⟩ := World.cells?_some hc
      have h0 := hat 0 (by omega)
      obtain ⟨b, o, z⟩ := a
      have hz : z = none := by simpa [Addr.add] using World.cell?_spot h0
      subst hz
      exact ⟨b, o, rfl⟩
    have key : ∀ i, ∃ C : Bk, i < len → (∃ b o, a = ⟨b, o, none⟩ ∧ W.cell? ⟨b, o + i * 2, none⟩ = some (.int .i64 C.size) ∧ W.cell? ⟨b, o + i * 2 + 1, none⟩ = some (.slice C.a C.n C.c)) ∧
        Ns W C.a C.n C.c C.L ∧ Sz47 C.L ∧ (-9223372036854775808 ≤ C.size ∧ C.size ≤ 9223372036854775807) := by
      intro i
      by_cases hil : i < len
      · obtain ⟨cs', hc, ht⟩ := hi i (by omega)
        rw [cellsBk] at hc
        obtain ⟨s, c1, y, k, rfl, hsb, hD, hy⟩ := blk_of ht
        obtain ⟨_, hcl, hat⟩ := World.cells?_some hc
        have hmem : D i ∈ (List.range len).map D := List.mem_map.2 ⟨i, List.mem_range.2 hil, rfl⟩
        have hwi := fun x hx => hw x (List.mem_cons_of_mem _ (List.mem_append_left _ (weights_in (e := 52) hmem x hx)))
        simp only at hD
        rw [hD] at hwi
        simp [DataW.weights, DataW.weightsEach, Tryd.underlying52] at hwi
        obtain ⟨ax, nx, cx, Lx, hcx, hns, hsz⟩ := hdrs_of hy hwi
        obtain rfl := List.head_eq_of_cons_eq hcx
        refine ⟨⟨s, ax, nx, cx, Lx⟩, fun _ => ⟨?_, hns, hsz, hsb⟩⟩
        obtain ⟨b, o, rfl⟩ := hspot (by omega)
        have h0 := hat 0 (by omega)
        have h1 := hat 1 (by omega)
        simp only [Addr.add_mid, Nat.add_zero] at h0 h1
        exact ⟨b, o, rfl, h0, h1⟩
      · exact ⟨⟨0, none, 0, 0, []⟩, fun h => absurd h hil⟩
    refine ⟨some a, len, cap, (List.range len).map fun i => Classical.choose (key i), rfl, ⟨by simp, hle, hmax, fun i hi => ?_⟩⟩
    simp only [List.length_map, List.length_range] at hi
    simp only [List.getElem_map, List.getElem_range]
    obtain ⟨⟨b, o, e, hc⟩, hs⟩ := Classical.choose_spec (key i) hi
    exact ⟨⟨b, o, by rw [e], hc⟩, hs⟩
end Go.Proofs.YtlkieeindnpidaaDoor
