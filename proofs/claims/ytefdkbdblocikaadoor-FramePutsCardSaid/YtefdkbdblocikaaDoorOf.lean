/-
  ARGUMENTS: a frame by value.
-/
import Derived.Test.YtefdkbdblocikaaDoorU
import Derived.Test.YtefdkbdblocikaaDoorB
import Derived.Lib.SmallJoins
import Derived.Deep.Strs
namespace Go.Proofs.YtefdkbdblocikaaDoor
open Go.Joins Go.ChangeShapes Go.WideShapes Go.ChangeAt Go.RowKit Go.Deep Hu

theorem cellsF : Tryd.prog.cellsOf 24 = 4 := by kernel_rfl
set_option maxRecDepth 100000 in
theorem bytes_of {H : Type} {enc : TypeId × Value → H} {W : World} {fuel : Nat} {v : Value} {x : DataW H × List MemPlace} (hf : DataW.trod enc Tryd.prog W 0 (fun _ => true) true fuel 22 [v] = some x) :
    ∃ a n c l, v = .slice a n c ∧ Sl W a n c l := by
  rcases open_ints Tryd.underlying22 Tryd.underlying5 cells8 hf with ⟨hcs, _⟩ | ⟨a, len, cap, zs, hcs, _, hle, hmax, hlen, _, hcell, hwf⟩
  · simp at hcs
    subst hcs
    exact ⟨none, 0, 0, [], rfl, ⟨rfl, Nat.le_refl _, by unfold maxLen; omega, fun _ => rfl, fun i hi => by simp at hi⟩⟩
  · simp at hcs
    subst hcs
    have hz : len ≤ zs.length := by rw [hlen]; split <;> omega
    refine ⟨some a, len, cap, (zs.take len).map fun z => UInt8.ofNat z.toNat, rfl, by simp; omega, hle, hmax, (fun h => by cases h), fun i hi => ?_⟩
    simp at hi
    obtain ⟨b, off, rfl, hc⟩ := ints_at hcell (by omega)
    refine ⟨b, off, rfl, ?_⟩
    rw [hc i (by omega)]
    have hil : i < zs.length := by omega
    have hzi : zs.getD i 0 = zs[i] := by simp [List.getD, hil]
    have hb := u8_bound (hwf zs[i] (List.getElem_mem _))
    have e : (((UInt8.ofNat (zs[i]).toNat).toNat : Nat) : Int) = zs[i] := by
      rw [ofNat_toNat (by omega)]
      omega
    simp only [List.getElem_map, List.getElem_take]
    rw [hzi, e]
set_option maxRecDepth 100000 in
theorem open_frame {H : Type} {enc : TypeId × Value → H} {W : World} {r : Reach} {b0 : Nat} {v : Value} {d : DataW H} {ps : List MemPlace} (hval : Value.okWide Tryd.prog W r b0 24 v)
    (hd : DataW.Trod enc Tryd.prog W 0 (fun _ => true) true 24 v d ps) : ∃ ty fl st a n c l, v = frV ty fl st a n c ∧ Sl W a n c l ∧ (Lit.int .i64 ty).wf = true ∧ (Lit.int .i64 fl).wf = true ∧ (Lit.int .i64 st).wf = true := by
  obtain ⟨v0, v1, v2, v3, y0, y1, y2, y3, n, rfl, rfl, rfl, h0, h1, h2, h3⟩ := open_agg4 Tryd.underlying24 (by kernel_rfl) cellsF hval hd
  obtain ⟨x0, e0, _, w0⟩ := DataW.trod_int Tryd.underlying3 h0
  obtain ⟨x1, e1, _, w1⟩ := DataW.trod_int Tryd.underlying3 h1
  obtain ⟨x2, e2, _, w2⟩ := DataW.trod_int Tryd.underlying3 h2
  obtain ⟨a, m, c, l, rfl, hs⟩ := bytes_of h3
  cases e0
  cases e1
  cases e2
  exact ⟨_, _, _, _, _, _, l, rfl, hs, w0, w1, w2⟩
end Go.Proofs.YtefdkbdblocikaaDoor
