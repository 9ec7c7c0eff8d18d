/-
  CONTRACTS: strings.IndexAny, ContainsAny at three ASCII bytes; a header's value.
-/
import Derived.Test.YtgoglfahlfkbiaaDoorC
namespace Go.Proofs.YtgoglfahlfkbiaaDoor
open Go.RowKit Tt Go.Lib

def AnyPost (s : ByteArray) (w : World) (e : Ending) (w' : World) : Prop := ∃ q : Int, e = .returned (.int .i64 q) ∧ decide (0 ≤ q) = anyBrk s ∧ Below w.heap.size w w'
def ItRel (s : ByteArray) (w : World) (i : Nat) (wx : World) : Prop := wx.heap[w.heap.size]? = some (.stringIter s i) ∧ Below w.heap.size w wx ∧ ∀ j (hj : j < s.size), j < i → brkL.contains (s[j]) = false
theorem below_iterAt {w wx : World} (h : Below w.heap.size w wx) (s : ByteArray) (i : Nat) : Below w.heap.size w (wx.iterAt w.heap.size s i) :=
  ⟨h.os, h.tape, h.output, by simpa [World.iterAt] using h.size, fun k hk => by
    have : (wx.iterAt w.heap.size s i).heap[k]? = wx.heap[k]? := by simp [World.iterAt, Array.getElem?_setIfInBounds_ne (show w.heap.size ≠ k by omega)]
    rw [this]
    exact h.block k hk⟩
theorem iterPos_at {w wx : World} {s : ByteArray} {i : Nat} (h : wx.heap[w.heap.size]? = some (.stringIter s i)) : wx.iterPos w.heap.size = i := by
  unfold World.iterPos
  rw [h]
theorem brk_high (c : UInt8) (h : 128 ≤ c.toNat) : brkL.contains c = false := by
  have : ∀ x ∈ brkL, c ≠ x := fun x hx e => by
    subst e
    simp only [brkL, List.mem_cons, List.not_mem_nil, or_false] at hx
    rcases hx with rfl | rfl | rfl <;> revert h <;> decide
  rw [Bool.eq_false_iff]
  intro hc
  exact this c (List.contains_iff_mem.1 hc) rfl
theorem idxRune_low (c : UInt8) (W : World) (h : c.toNat < 128) : Calls Tryd.prog 72 #[.string brkA, .int .i32 (c.toNat : Int)] W fun e w' => e = .returned (.int .i64 (Lib.indexByte brkL c)) ∧ W = w' := by
  have h1 := Any.strings_IndexRune_ascii (P := Tryd.prog) { Tryd.lays153 with } brkA (c.toNat : Int) W (by omega) (by omega)
  rw [show ((c.toNat : Int)).toNat.toUInt8 = c by simp] at h1
  refine Calls.mono (show Calls Tryd.prog 72 _ _ _ from h1) ?_
  rintro e w' ⟨h1, h2⟩
  exact ⟨h1, h2.symm⟩
set_option maxRecDepth 100000 in
set_option maxHeartbeats 4000000 in
theorem idxAny_short (s : ByteArray) (w : World) (h8 : s.size ≤ 8) : Calls Tryd.prog 58 #[.string s, .string brkA] w (AnyPost s w) := by
  have h8z : decide ((8 : Int) < (s.size : Int)) = false := decide_eq_false (by omega)
  have HA := Lib.hid idxRune_low
  have HH := Lib.hid (fun (r : Int) (h0 : 128 ≤ r) (h1 : r ≤ 2147483647) W => idxRune_any r W h0 h1)
  have hbr : brkA = ⟨#[0, 10, 13]⟩ := rfl
  rw [hbr] at HA HH ⊢
  clear hbr
  have h3 : Hid ((w.iter s 0).heap[w.heap.size]? = some (.stringIter s 0)) := Lib.hid (World.iter_heap w s 0)
  have hit : Hid (Below w.heap.size w (w.iter s 0)) := Lib.hid ((Below.refl _ w).alloc (Nat.le_refl _) _)
  go_enter Tryd.func58, Tryd.ntmps58
  go_wp2
  go_loopw [9, 10] (fun _ _ wx => ∃ i, ItRel s w i wx) (fun _ _ wx => s.size - wx.iterPos w.heap.size)
  case atStart => exact ⟨0, h3.out, hit.out, fun j _ h => by omega⟩
  case round =>
    obtain ⟨i, hk, hb, hno⟩ := hrel
    have HPOS := Lib.hid (iterPos_at hk)
    have HNO := Lib.hid hno
    have HB := Lib.hid hb
    clear hno hb
    by_cases hlt : i < s.size
    · have hle := decode_le s i
      by_cases ha : (s[i]).toNat < 128
      · have hnx := fun ty => run_next_ascii_at (P := Tryd.prog) wr w.heap.size s i ty hk hlt ha
        have hk2 := Lib.hid (iterAt_heap wr w.heap.size s i (i + 1) hk)
        have HB2 := Lib.hid (below_iterAt HB.out s (i + 1))
        have HR := Lib.hid (fun W => HA.out (s[i]) W ha)
        have hci := Lib.contains_iff_indexByte brkL (s[i])
        have hbk : Hid (∀ j (hj : j < s.size), j < i + 1 → j ≠ i → brkL.contains (s[j]) = false) := Lib.hid fun j hj h1 h2 => HNO.out j hj (by omega)
        cases hc : brkL.contains (s[i]) with
        | true =>
          have HY := Lib.hid (any_yes hlt hc)
          have hq : (0 : Int) ≤ Lib.indexByte brkL (s[i]) := of_decide_eq_true (hci.symm.trans hc)
          generalize Lib.indexByte brkL (s[i]) = q at HR hq
          clear hc hci
          go_wp2_with fail
          refine (HR.out _).mono ?_
          rintro e w' ⟨rfl, rfl⟩
          go_wp2_with fail
          go_ret
          exact ⟨(i : Int), rfl, by rw [HY.out]; exact decide_eq_true (by omega), HB2.out⟩
        | false =>
          have HF := Lib.hid hc
          have hq : decide ((0 : Int) ≤ Lib.indexByte brkL (s[i])) = false := hci.symm.trans hc
          generalize Lib.indexByte brkL (s[i]) = q at HR hq
          clear hc hci
          go_wp2_with fail
          refine (HR.out _).mono ?_
          rintro e w' ⟨rfl, rfl⟩
          go_wp2_with fail
          go_roundw
          case rel =>
            refine ⟨_, _, _, _, _, _, _, _, _, _, _, _, ⟨i + 1, hk2.out, HB2.out, fun j hj h1 => ?_⟩, rfl⟩
            by_cases hji : j = i
            · subst hji
              exact HF.out
            · exact hbk.out j hj h1 hji
          case measure => rw [iterPos_at hk2.out, HPOS.out]; omega
      · have hnx := fun ty => run_next_any_at (P := Tryd.prog) wr w.heap.size s i ty hk hlt
        have hdh := decode_high s i hlt (by omega)
        obtain ⟨hd1, hd2⟩ := decode_cont s i hlt (by omega)
        have HD2 := Lib.hid hd2
        clear hd2
        generalize (Utf8.decode s i).1 = r at hnx hdh hle
        generalize (Utf8.decode s i).2 = d at hnx hdh hd1 HD2
        have hk2 := Lib.hid (iterAt_heap wr w.heap.size s i (i + d) hk)
        have HB2 := Lib.hid (below_iterAt HB.out s (i + d))
        have HR := Lib.hid (fun W => HH.out (r : Int) (by omega) (by omega) W)
        have hlt2 : Hid (w.heap.size < (wr.iterAt w.heap.size s (i + d)).heap.size) := Lib.hid (Array.getElem?_eq_some_iff.1 hk2.out).1
        clear hdh
        go_wp2_with fail
        refine (HR.out _).mono ?_
        rintro e w3 ⟨rfl, hb3⟩
        have hk3 := Lib.hid ((hb3.block w.heap.size hlt2.out).trans hk2.out)
        have HB3 := Lib.hid (HB2.out.trans (hb3.mono (by have := hlt2.out; omega)))
        clear hb3
        go_wp2_with fail
        go_roundw
        case rel =>
          refine ⟨_, _, _, _, _, _, _, _, _, _, _, _, ⟨i + d, hk3.out, HB3.out, fun j hj h1 => ?_⟩, rfl⟩
          by_cases hji : j < i
          · exact HNO.out j hj hji
          · have := HD2.out j hj (by omega) h1
            exact brk_high _ this
        case measure => rw [iterPos_at hk3.out, HPOS.out]; omega
    · have hnx := fun ty => run_next_end_at (P := Tryd.prog) wr w.heap.size s i ty hk hlt
      have HN := Lib.hid (any_no fun j hj => HNO.out j hj (by omega))
      go_wp2_with fail
      go_ret
      exact ⟨-1, rfl, by rw [HN.out]; rfl, HB.out⟩
end Go.Proofs.YtgoglfahlfkbiaaDoor
