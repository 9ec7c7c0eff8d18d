/-
  AN ARGUMENT OF TYPE []byte READS AS BYTES.
-/
import Derived.Test.YtdkmnblfmmmfkaaDoorV
import Derived.Test.YtdkmnblfmmmfkaaDoorMe
namespace Go.Proofs.YtdkmnblfmmmfkaaDoor
open Go.ChangeShapes Go.WideShapes Go.ChangeAt Go.RowKit

theorem u8_bound {n : Int} (h : (Lit.int .u8 n).wf = true) : 0 ≤ n ∧ n ≤ 255 := by
  have h1 : IntKind.u8.min = 0 := by decide
  have h2 : IntKind.u8.max = 255 := by decide
  simp [Lit.wf, h1, h2] at h
  omega
theorem cells8 : Tryd.prog.cellsOf 5 = 1 := by kernel_rfl

theorem slnil (w : World) : Sl w none 0 0 [] := ⟨rfl, Nat.le_refl _, by unfold maxLen; omega, fun _ => rfl, fun i hi => by simp at hi⟩

set_option maxRecDepth 100000 in
theorem open_bytes {H : Type} {enc : TypeId × Value → H} {W : World} {r : Reach} {b0 : Nat} {v : Value} {d : DataW H} {ps : List MemPlace} (hval : Value.okWide Tryd.prog W r b0 30 v)
    (hd : DataW.Trod enc Tryd.prog W 0 (fun _ => true) true 30 v d ps) : ∃ a n c l, v = .slice a n c ∧ Sl W a n c l := by
  obtain ⟨a0, len, cap, rfl⟩ := okWide_slice Tryd.underlying30 hval
  obtain ⟨fuel, hf⟩ := hd
  rcases open_ints Tryd.underlying30 Tryd.underlying5 cells8 hf with ⟨hcs, _⟩ | ⟨a, len', cap', zs, hcs, _, hle, hmax, hlen, _, hcell, hwf⟩
  · simp [Value.cells] at hcs
    obtain ⟨rfl, rfl, rfl⟩ := hcs
    exact ⟨none, 0, 0, [], rfl, slnil W⟩
  · simp [Value.cells] at hcs
    obtain ⟨rfl, rfl, rfl⟩ := hcs
    have hz : len ≤ zs.length := by rw [hlen]; split <;> omega
    refine ⟨some a, len, cap, (zs.take len).map fun z => UInt8.ofNat z.toNat, rfl, by simp; omega, hle, hmax, (fun h => by cases h), fun i hi => ?_⟩
    simp at hi
    obtain ⟨b, off, rfl, hc⟩ := ints_at hcell (by omega)
    refine ⟨b, off, rfl, ?_⟩
    rw [hc i (by omega)]
    have hil : i < zs.length := by omega
    have hzi : zs.getD i 0 = zs[i] := by simp [List.getD, hil]
    have hb := u8_bound (hwf zs[i] (List.getElem_mem _))
    have e : (((UInt8.ofNat (zs[i]).toNat).toNat : Nat) : Int) = zs[i] := by
      rw [Hf.ofNat_toNat']
      omega
    simp only [List.getElem_map, List.getElem_take]
    rw [hzi, e]
end Go.Proofs.YtdkmnblfmmmfkaaDoor
