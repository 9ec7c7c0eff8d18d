/-
  CONTRACTS: the examples ('first') ahead of each statement.
-/
import Derived.Test.YtdkmnblfmmmfkaaDoorS
namespace Go.Proofs.YtdkmnblfmmmfkaaDoor
open Go.RowKit Hf

theorem sl_new (w : World) (l : List UInt8) (hl : l.length ≤ maxLen) : Sl (w.alloc (.cells (cellsOf l).toArray 5)) (some ⟨w.heap.size, 0, none⟩) l.length l.length l := by
  refine ⟨rfl, Nat.le_refl _, hl, (fun h => by cases h), fun i hi => ⟨_, _, rfl, ?_⟩⟩
  have := cellsOf_get hi
  simp [this]
def exBytes : List UInt8 := [241, 227, 194, 229, 242, 58, 107, 160, 171, 144, 244, 255]
abbrev exCells : Array Value := #[.int .u8 241, .int .u8 227, .int .u8 194, .int .u8 229, .int .u8 242, .int .u8 58, .int .u8 107, .int .u8 160, .int .u8 171, .int .u8 144, .int .u8 244, .int .u8 255]
theorem sl_ex (w : World) : Sl (w.alloc (.cells exCells 5)) (some ⟨w.heap.size, 0, none⟩) 12 12 exBytes := sl_new w exBytes (by unfold maxLen; simp [exBytes])
def exText : ByteArray := ⟨#[119, 119, 119, 46, 101, 120, 97, 109, 112, 108, 101, 46, 99, 111, 109]⟩
theorem ex_enc : enc (str exText) = exBytes := by decide +kernel
theorem ex_dec : saysText [7] = some [48] := by decide +kernel
theorem ex_code : code 97 = 3 := by decide +kernel
theorem ex_sz : sz 48 = 5 := by decide +kernel

set_option maxRecDepth 100000 in
set_option maxHeartbeats 4000000 in
theorem first_any (ev : Value) (w : World) (hE : w.cell? ⟨0, 0, none⟩ = some ev) :
    Calls Tryd.prog 9 #[] w fun e w' => e = .returned (.bool true) ∧ Below w.heap.size w w' := by
  have h1 := encode_any exText (by decide) w
  rw [ex_enc] at h1
  replace h1 : Calls Tryd.prog 14 #[.string ⟨#[119, 119, 119, 46, 101, 120, 97, 109, 112, 108, 101, 46, 99, 111, 109]⟩] w (Built exBytes w) := h1
  have H1 := Lib.hid h1; clear h1
  go_enter Tryd.func9, Tryd.ntmps9
  go_wp2_with fail
  refine H1.out.mono ?_
  rintro e w1 ⟨a1, N1, c1, rfl, hN1, hown1, hb1⟩
  obtain rfl : N1 = 12 := hN1.out
  have hs1 := (own_sl2 hown1).alloc (.cells exCells 5)
  have hs1' := sl_ex w1
  have hsame := same_any _ _ _ _ _ _ _ _ _ hs1 hs1'
  have HS := Lib.hid hsame
  clear hs1 hs1' hsame hown1
  have hB2 : Below w.heap.size w (w1.alloc (.cells exCells 5)) := hb1.alloc hb1.size _
  go_wp2_with fail
  refine HS.out.mono ?_
  rintro e w' ⟨rfl, rfl⟩
  rw [show (exBytes == exBytes) = true by decide]
  generalize w1.alloc (.cells exCells 5) = W2 at hB2 ⊢
  have hc := code_ok 97 (by omega) W2
  rw [ex_code] at hc
  have HC := Lib.hid hc; clear hc
  go_wp2_with fail
  refine HC.out.mono ?_
  rintro e w3 ⟨rfl, hb3⟩
  have hB3 := hB2.trans (hb3.mono hB2.size)
  have hb := bits_ok 48 (by omega) w3
  rw [ex_sz] at hb
  have HB := Lib.hid hb; clear hb
  go_wp2_with fail
  refine HB.out.mono ?_
  rintro e w4 ⟨rfl, rfl⟩
  have hB4 := hB3.alloc hB3.size (.cells #[.int .u8 7] 5)
  have hd := decode_any ev _ 1 1 [7] _ (sl_new1 w3 7 7 rfl) (by omega) ((hB4.cell (p := ⟨0, 0, none⟩) (cell_lt hE)).trans hE)
  unfold DecPost at hd
  rw [ex_dec] at hd
  have HD := Lib.hid hd; clear hd
  go_wp2_with fail
  refine HD.out.mono ?_
  rintro e w5 ⟨hb5, rfl⟩
  go_wp2_with fail
  go_ret
  exact ⟨rfl, hB4.trans (hb5.mono hB4.size)⟩
end Go.Proofs.YtdkmnblfmmmfkaaDoor
