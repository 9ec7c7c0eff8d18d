/-
  THE LAW HuffEncodes: its walk.
-/
import Derived.Test.YtdkmnblfmmmfkaaDoorEe
import Derived.Test.YtdkmnblfmmmfkaaDoorEr
namespace Go.Proofs.YtdkmnblfmmmfkaaDoor
open Go.RowKit Hf

/-- Cells of the call's own may be written. -/
def Wr8 (w : World) (B : Nat) (a : Option Addr) (n : Nat) : Prop := ∀ i, i < n → ∃ g v, a = some ⟨g, 0, none⟩ ∧ B ≤ g ∧ g < w.heap.size ∧ w.cell? ⟨g, i, none⟩ = some v ∧ w.frozen? ⟨g, i, none⟩ = false
theorem Own.wr8 {w : World} {B : Nat} {a : Option Addr} {n c : Nat} {l : List UInt8} (h : Own w B (.slice a n c) l) : Wr8 w B a n := by
  intro i hi
  have hn := h.len
  have hs := own_sl2 h
  obtain ⟨b, o, e, hc⟩ := hs.row i (by omega)
  obtain ⟨h1, h2⟩ := h
  rcases h2 with ⟨e2, h0⟩ | ⟨g, cap, cur, e2, hg, hh, _⟩
  · cases e2; cases e
  · cases e2
    cases e
    rw [Nat.zero_add] at hc
    refine ⟨_, _, rfl, hg, (Array.getElem?_eq_some_iff.1 hh).1, hc, ?_⟩
    simp [World.frozen?, hh]
theorem Wr8.set {w : World} {B : Nat} {a : Option Addr} {n : Nat} (h : Wr8 w B a n) (p : Addr) (v : Value) : Wr8 (w.setCell p v) B a n := by
  intro i hi
  obtain ⟨g, u, e, h1, h2, h3, h4⟩ := h i hi
  by_cases hp : p = ⟨g, i, none⟩
  · subst hp
    exact ⟨g, v, e, h1, by simpa using h2, World.cell?_setCell_same' _ _ _ (by rw [h3]; rfl), by rw [World.frozen?_setCell]; exact h4⟩
  · refine ⟨g, u, e, h1, by simpa using h2, ?_, by rw [World.frozen?_setCell]; exact h4⟩
    simp [go_sem, h3, hp, fun q : (⟨g, i, none⟩ : Addr) = p => hp q.symm]
set_option maxRecDepth 100000 in
set_option maxHeartbeats 4000000 in
theorem encodes_any (ev : Value) (S : ByteArray) (w : World) (hE : w.cell? ⟨0, 0, none⟩ = some ev) (hS : S.size ≤ 140737488351232) :
    Calls Tryd.prog 4 #[.string S] w fun e w' => e = .returned (.bool true) ∧ Below w.heap.size w w' := by
  by_cases hbig : S.size ≤ 2000
  · have HA := Lib.hid (fun W => encode_any S (by omega) W)
    have HB := Lib.hid (fun W => encoder_any S (by omega) W)
    have HZ := Lib.hid (fun W => sizeOf_any S (by omega) W)
    have HY := Lib.hid (fun W => sizer_any S (by omega) W)
    have HL := Lib.hid (enc_length (str S))
    have HT := Lib.hid (totN_le (str S))
    have HSL := Lib.hid (str_len S)
    generalize totN (str S) = t at HZ HY HL HT
    generalize enc (str S) = E at HA HB HL
    go_enter Tryd.func4, Tryd.ntmps4
    go_wp2_with fail
    refine (first_any ev _ hE).mono ?_
    rintro e w1 ⟨rfl, hb1⟩
    go_wp2_with fail
    refine (HA.out _).mono ?_
    rintro e w2 ⟨a2, N2, c2, rfl, hN2, hown2, hb2⟩
    obtain rfl : N2 = E.length := hN2.out
    go_wp2_with fail
    refine (HB.out _).mono ?_
    rintro e w3 ⟨a3, N3, c3, rfl, hN3, hown3, hb3⟩
    obtain rfl : N3 = E.length := hN3.out
    have hown23 := hown2.kept hb3
    have HSM := Lib.hid (same_any _ _ _ _ _ _ _ _ _ (own_sl2 hown23) (own_sl2 hown3))
    go_wp2_with fail
    refine HSM.out.mono ?_
    rintro e w4 ⟨rfl, rfl⟩
    rw [show (E == E) = true by simp]
    have hw8 := (hown2.kept hb3).wr8
    have hB3 : Below w1.heap.size w1 w3 := hb2.trans (hb3.mono hb2.size)
    have hl6 : E.length ≤ 10000 := by have h1 := HL.out; have h2 := HT.out; have h3 := HSL.out; rw [h3] at h2; omega
    have HB1 := Lib.hid hb1
    clear hown23 hown2 hown3 hb2 hb3 hN2 hN3 HSM hb1
    go_wp2_with fail
    go_loopw [6] (fun s6 wr => ∃ i : Nat, s6 = .int .i64 (i : Int) ∧ i ≤ E.length ∧ Wr8 wr w1.heap.size a2 E.length ∧ Below w1.heap.size w1 wr) (fun s6 _ => E.length - (intOf s6).toNat)
    case atStart => exact ⟨0, rfl, by omega, hw8, hB3⟩
    case round =>
      obtain ⟨i, rfl, hi, hw8, hB⟩ := hrel
      by_cases hlt : i < E.length
      · obtain ⟨g, v, rfl, hg, hgs, hc, hz⟩ := hw8 i hlt
        go_wp2_with fail
        refine ⟨⟨i + 1, by go_num, by omega, hw8.set _ _, hB.setCell hg _⟩, by simp [intOf]; omega⟩
      · clear hw8 hi
        go_wp2_with fail
        refine (HZ.out _).mono ?_
        rintro e w5 ⟨rfl, rfl⟩
        go_wp2_with fail
        refine (HY.out _).mono ?_
        rintro e w5 ⟨rfl, rfl⟩
        go_wp2_with fail
        refine (HA.out _).mono ?_
        rintro e w6 ⟨a6, N6, c6, rfl, hN6, hown6, hb6⟩
        obtain rfl : N6 = E.length := hN6.out
        go_wp2_with fail
        refine (HB.out _).mono ?_
        rintro e w7 ⟨a7, N7, c7, rfl, hN7, hown7, hb7⟩
        obtain rfl : N7 = E.length := hN7.out
        have HSM := Lib.hid (same_any _ _ _ _ _ _ _ _ _ (own_sl2 (hown6.kept hb7)) (own_sl2 hown7))
        go_wp2_with fail
        refine HSM.out.mono ?_
        rintro e w8 ⟨rfl, rfl⟩
        rw [show (E == E) = true by simp]
        go_wp2_with fail
        go_ret
        refine ⟨rfl, ?_⟩
        exact HB1.out.trans (((hB.trans (hb6.mono hB.size)).trans (hb7.mono (Nat.le_trans hB.size hb6.size))).mono HB1.out.size)
  · go_enter Tryd.func4, Tryd.ntmps4
    go_wp2_with fail
    refine (first_any ev _ hE).mono ?_
    rintro e w1 ⟨rfl, hb1⟩
    go_wp2_with fail
    go_ret
    exact ⟨rfl, hb1⟩
end Go.Proofs.YtdkmnblfmmmfkaaDoor
