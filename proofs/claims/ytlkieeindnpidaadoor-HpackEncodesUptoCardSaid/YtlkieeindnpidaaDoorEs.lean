/-
  THE DOCUMENT's Size of a list; Resize that is refused; NewEncoder that is refused.
-/
import Derived.Test.YtlkieeindnpidaaDoorEd
import Derived.Test.YtlkieeindnpidaaDoorRb
namespace Go.Proofs.YtlkieeindnpidaaDoor
open Go.RowKit Tt Hu Hu.Hf

set_option maxRecDepth 100000 in
set_option maxHeartbeats 2000000 in
theorem dsizeL_any (a : Option Addr) (n c : Nat) (L : List Hn) (w : World) (h : Ns w a n c L) (hz : Sz47 L) (hs : sumN L ≤ 100000000000000000) :
    Calls Tryd.prog 33 #[.slice a n c] w fun e w' => e = .returned (.int .i64 (sumN L : Int)) ∧ Below w.heap.size w w' := by
  have hl := h.len
  have hm := h.max
  have hle := h.le
  unfold maxLen at hm
  have H := Lib.hid h
  have HL := Lib.hid hl
  have HZ := Lib.hid hz
  clear h hl hz
  go_enter Tryd.func33, Tryd.ntmps33
  go_wp2_with fail
  go_loopw [3, 4] (fun s3 s4 wr => ∃ i : Nat, s4 = .int .i64 (i : Int) ∧ i ≤ n ∧ s3 = .int .i64 ((sumN (L.take i) : Nat) : Int) ∧ Below w.heap.size w wr) (fun _ s4 _ => n - (intOf s4).toNat)
  case atStart => exact ⟨0, rfl, by omega, by simp [sumN], Below.refl _ _⟩
  case round =>
    obtain ⟨i, rfl, hi, rfl, hB⟩ := hrel
    by_cases hlt : i < n
    · have hli : i < L.length := by rw [HL.out]; exact hlt
      obtain ⟨b, o, rfl, e0, e1, e2⟩ := (H.out.kept hB).row i hli
      obtain ⟨hz1, hz2⟩ := HZ.out i hli
      have hst := sumN_take L hli
      have hmo := sumN_mono L (i + 1)
      generalize L[i] = h at e0 e1 e2 hst hz1 hz2
      have HST := Lib.hid hst
      generalize hx : sumN (L.take (i + 1)) = x at hst hmo HST
      generalize sumN (L.take i) = y at hst HST
      have HSZ := Lib.hid (fun W => Tt.dsizeOf_any h.1 h.2 W hz1 hz2)
      have HX := Lib.hid hx
      have hia : (0 : Int) ≤ (i : Int) := by omega
      have hib : (i : Int) < (n : Int) := by omega
      generalize hz : sizeH h.1 = z at hst HST HSZ
      clear hx hz hz1 hz2
      go_wp2_with fail
      refine (HSZ.out _).mono ?_
      rintro e w6 ⟨rfl, hb6⟩
      go_wp2_with fail
      refine ⟨⟨i + 1, by go_num, by omega, by rw [HX.out, HST.out]; go_num, hB.trans (hb6.mono hB.size)⟩, by simp [intOf]; omega⟩
    · have hin : i = n := by omega
      subst hin
      have ht : L.take i = L := List.take_of_length_le (by rw [HL.out]; omega)
      rw [ht]
      go_wp2_with fail
      go_ret
      exact ⟨rfl, hB⟩
set_option maxRecDepth 100000 in
theorem resizeE_no (b A : Nat) (s : ES) (x : Int) (hx : x < 0 ∨ 4096 < x) (ev : Value) (w : World) (h : Ec w b A s) (hE : w.cell? ⟨0, 0, none⟩ = some ev) (hv : ∃ ty p, ev = .iface ty p) :
    Calls Tryd.prog 26 #[.pointer (some ⟨b, 0, none⟩), .int .i64 x] w fun e w' => e = .returned ev ∧ Below w.heap.size w w' := by
  obtain ⟨ty, p, rfl⟩ := hv
  have c0 := h.c0
  have HR := Lib.hid (has_resize_no h.has x hx _ hE)
  clear h hE
  go_enter Tryd.func26, Tryd.ntmps26
  go_wp2_with fail
  refine HR.out.mono ?_
  rintro e w1 ⟨rfl, hb⟩
  go_wp2
  go_ret
  exact ⟨rfl, hb⟩
end Go.Proofs.YtlkieeindnpidaaDoor
