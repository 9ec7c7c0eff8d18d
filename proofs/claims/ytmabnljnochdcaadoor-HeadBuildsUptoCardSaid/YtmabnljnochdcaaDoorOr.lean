/-
  ARGUMENTS of HeadBack: a request, an answer by value; what its row lists.
-/
import Derived.Test.YtmabnljnochdcaaDoorOh
import Derived.Test.YtmabnljnochdcaaDoorBk
import Derived.Lib.LaidTab
namespace Go.Proofs.YtmabnljnochdcaaDoor
open Go.Joins Go.ChangeShapes Go.WideShapes Go.ChangeAt Go.RowKit Go.Deep Tt

section
variable {H : Type} {enc : TypeId × Value → H} {P : Program} {w : World} {base : Nat} {spare : Nat → Bool} {held : Bool}
theorem array5 {α : Type} {cs : Array α} (h : cs.size = 5) : ∃ c0 c1 c2 c3 c4, cs = #[c0, c1, c2, c3, c4] := by
  obtain ⟨l⟩ := cs
  match l, h with
  | [c0, c1, c2, c3, c4], _ => exact ⟨c0, c1, c2, c3, c4, rfl⟩
theorem trod_struct5 {t : TypeId} {f0 f1 f2 f3 f4 : Field} {fuel : Nat} {cs : List Value} {x : DataW H × List MemPlace} (ht : P.underlying t = some (.struct #[f0, f1, f2, f3, f4])) (h : DataW.trod enc P w base spare held fuel t cs = some x) :
    ∃ y0 y1 y2 y3 y4 n, x.1 = .agg [y0.1, y1.1, y2.1, y3.1, y4.1] ∧ cs.length = P.cellsOf t ∧ DataW.trod enc P w base spare held n f0.type ((cs.drop f0.offset).take (P.cellsOf f0.type)) = some y0 ∧
      DataW.trod enc P w base spare held n f1.type ((cs.drop f1.offset).take (P.cellsOf f1.type)) = some y1 ∧ DataW.trod enc P w base spare held n f2.type ((cs.drop f2.offset).take (P.cellsOf f2.type)) = some y2 ∧
      DataW.trod enc P w base spare held n f3.type ((cs.drop f3.offset).take (P.cellsOf f3.type)) = some y3 ∧ DataW.trod enc P w base spare held n f4.type ((cs.drop f4.offset).take (P.cellsOf f4.type)) = some y4 := by
  obtain ⟨xs, n, _, rfl, hl, hlen, hf⟩ := DataW.trod_struct ht h
  match xs, hlen with
  | [y0, y1, y2, y3, y4], _ => exact ⟨y0, y1, y2, y3, y4, n, by simp, hl, by simpa using hf 0 f0 rfl, by simpa using hf 1 f1 rfl, by simpa using hf 2 f2 rfl, by simpa using hf 3 f3 rfl, by simpa using hf 4 f4 rfl⟩
theorem open_agg5 {r : Reach} {b0 : Nat} {t : TypeId} {f0 f1 f2 f3 f4 : Field} {v : Value} {d : DataW H} {p : List MemPlace} (hs : P.underlying t = some (.struct #[f0, f1, f2, f3, f4])) (hone : oneCellFields P #[f0, f1, f2, f3, f4] = true) (hC : P.cellsOf t = 5)
    (hv : Value.okWide P w r b0 t v) (h : DataW.Trod enc P w base spare held t v d p) :
    ∃ (v0 v1 v2 v3 v4 : Value) (y0 y1 y2 y3 y4 : DataW H × List MemPlace) (n : Nat), v = .agg #[v0, v1, v2, v3, v4] ∧ d = .agg [y0.1, y1.1, y2.1, y3.1, y4.1] ∧
      DataW.trod enc P w base spare held n f0.type [v0] = some y0 ∧ DataW.trod enc P w base spare held n f1.type [v1] = some y1 ∧ DataW.trod enc P w base spare held n f2.type [v2] = some y2 ∧ DataW.trod enc P w base spare held n f3.type [v3] = some y3 ∧ DataW.trod enc P w base spare held n f4.type [v4] = some y4 := by
  obtain ⟨cs, rfl, hsz⟩ := okWide_struct hs hv
  obtain ⟨c0, c1, c2, c3, c4, rfl⟩ := array5 (hsz.trans hC)
  obtain ⟨fuel, hf⟩ := h
  obtain ⟨y0, y1, y2, y3, y4, n, hx, _, h0, h1, h2, h3, h4⟩ := trod_struct5 hs hf
  obtain ⟨o0, k0⟩ := hone_of hone 0 f0 rfl
  obtain ⟨o1, k1⟩ := hone_of hone 1 f1 rfl
  obtain ⟨o2, k2⟩ := hone_of hone 2 f2 rfl
  obtain ⟨o3, k3⟩ := hone_of hone 3 f3 rfl
  obtain ⟨o4, k4⟩ := hone_of hone 4 f4 rfl
  exact ⟨c0, c1, c2, c3, c4, y0, y1, y2, y3, y4, n, rfl, hx, by simpa [Value.cells, o0, k0] using h0, by simpa [Value.cells, o1, k1] using h1, by simpa [Value.cells, o2, k2] using h2, by simpa [Value.cells, o3, k3] using h3, by simpa [Value.cells, o4, k4] using h4⟩
end
theorem cells_rq : Tryd.prog.cellsOf 32 = 5 := by kernel_rfl
theorem cells_rp : Tryd.prog.cellsOf 39 = 2 := by kernel_rfl
set_option maxRecDepth 100000 in
theorem open_req {H : Type} {enc : TypeId × Value → H} {W : World} {r : Reach} {b0 : Nat} {v : Value} {d : DataW H} {ps : List MemPlace} (hval : Value.okWide Tryd.prog W r b0 32 v)
    (hd : DataW.Trod enc Tryd.prog W 0 (fun _ => true) true 32 v d ps) (hw : ∀ x ∈ DataW.weights Tryd.prog 32 d, x ≤ 140737488351232) :
    ∃ (q : RQ) (a : Option Addr) (n c : Nat) (L : List Hn), v = .agg #[.string q.m, .string q.s, .string q.a, .string q.p, .slice a n c] ∧ Ns W a n c L ∧ Sm L ∧ q.m.size ≤ 140737488355328 ∧ q.s.size ≤ 140737488355328 ∧ q.a.size ≤ 140737488355328 ∧ q.p.size ≤ 140737488355328 := by
  obtain ⟨v0, v1, v2, v3, v4, y0, y1, y2, y3, y4, n, rfl, rfl, h0, h1, h2, h3, h4⟩ := open_agg5 Tryd.underlying32 (by kernel_rfl) cells_rq hval hd
  obtain ⟨s0, e0, d0, _⟩ := DataW.trod_string Tryd.underlying9 h0
  obtain ⟨s1, e1, d1, _⟩ := DataW.trod_string Tryd.underlying9 h1
  obtain ⟨s2, e2, d2, _⟩ := DataW.trod_string Tryd.underlying9 h2
  obtain ⟨s3, e3, d3, _⟩ := DataW.trod_string Tryd.underlying9 h3
  cases e0
  cases e1
  cases e2
  cases e3
  have hu : Tryd.prog.underlying 32 = _ := Tryd.underlying32
  rw [d0, d1, d2, d3] at hw
  simp only [DataW.weights, DataW.weightsEach, hu, Array.toList, List.map, List.mem_append, List.mem_cons, List.not_mem_nil, or_false] at hw
  obtain ⟨a, m, c, L, e4, hns, hsm⟩ := hdrs_of h4 (fun y hy => hw y (by simp [hy]))
  cases e4
  refine ⟨⟨s0, s1, s2, s3⟩, a, m, c, L, rfl, hns, hsm, ?_, ?_, ?_, ?_⟩
  · have := hw s0.data.toList.length (by simp); simp at this; show s0.size ≤ _; omega
  · have := hw s1.data.toList.length (by simp); simp at this; show s1.size ≤ _; omega
  · have := hw s2.data.toList.length (by simp); simp at this; show s2.size ≤ _; omega
  · have := hw s3.data.toList.length (by simp); simp at this; show s3.size ≤ _; omega
set_option maxRecDepth 100000 in
theorem open_ans {H : Type} {enc : TypeId × Value → H} {W : World} {r : Reach} {b0 : Nat} {v : Value} {d : DataW H} {ps : List MemPlace} (hval : Value.okWide Tryd.prog W r b0 39 v)
    (hd : DataW.Trod enc Tryd.prog W 0 (fun _ => true) true 39 v d ps) (hw : ∀ x ∈ DataW.weights Tryd.prog 39 d, x ≤ 140737488351232) :
    ∃ (st : Int) (a : Option Addr) (n c : Nat) (L : List Hn), v = .agg #[.int .i64 st, .slice a n c] ∧ Ns W a n c L ∧ Sm L ∧ -9223372036854775808 ≤ st ∧ st ≤ 9223372036854775807 := by
  obtain ⟨v0, v1, y0, y1, n, rfl, rfl, _, h0, h1⟩ := open_agg2 Tryd.underlying39 (by kernel_rfl) cells_rp hval hd
  obtain ⟨st, e0, d0, hwf⟩ := DataW.trod_int Tryd.underlying3 h0
  cases e0
  have hu : Tryd.prog.underlying 39 = _ := Tryd.underlying39
  rw [d0] at hw
  simp only [DataW.weights, DataW.weightsEach, hu, Array.toList, List.map, List.mem_append, List.mem_cons, List.not_mem_nil, or_false] at hw
  obtain ⟨a, m, c, L, e4, hns, hsm⟩ := hdrs_of h1 (fun y hy => hw y (by simp [hy]))
  cases e4
  have h1 : IntKind.i64.min = -9223372036854775808 := by decide
  have h2 : IntKind.i64.max = 9223372036854775807 := by decide
  simp [Lit.wf, h1, h2] at hwf
  exact ⟨st, a, m, c, L, rfl, hns, hsm, hwf.1, hwf.2⟩
/-- What HeadBack's row lists. -/
theorem sent_of_back {W : World} (h : laidMetH Tryd.prog Rows.headBackUptoRow.laid W) : (∃ a, One W 0 [110, 111, 32, 104, 101, 97, 100, 101, 114, 32, 108, 105, 115, 116, 32, 111, 102, 32, 116, 104, 97, 116, 32, 107, 105, 110, 100] a) ∧ ∀ w', Below W.heap.size W w' → Tab w' := by
  rw [MakeChecks.laidMetH_plain _ _ _ (by kernel_rfl)] at h
  have t2 := laidMet.tail (laidMet.tail h)
  have t4 := laidMet.tail (laidMet.tail t2)
  refine ⟨one_of_laid t4 (by kernel_rfl) (by kernel_rfl), ?_⟩
  have ht : Tab W := Lib.tabIs_of_head (g := 4) (t := 141) (e := 128) (n := 20) (by kernel_rfl) (by kernel_rfl) Tryd.underlying141 Tryd.underlying128 (by kernel_rfl) (by kernel_rfl) t2
  exact Lib.tabBelow_of_tabIs ht
theorem back_met (os : Os) (args : Array Value) : laidMetH Tryd.prog Rows.headBackUptoRow.laid ((World.laidAll Tryd.prog os Rows.headBackUptoRow.laid).forCall (fun _ _ => 0) ⟨#[], args, []⟩).memory := by
  rw [MakeChecks.laidMetH_plain _ _ _ (by kernel_rfl)]
  exact laidMet_laidAll _ (by kernel_rfl) (by kernel_rfl)
end Go.Proofs.YtmabnljnochdcaaDoor
