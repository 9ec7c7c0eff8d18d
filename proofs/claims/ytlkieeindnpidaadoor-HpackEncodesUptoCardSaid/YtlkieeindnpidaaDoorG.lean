/-
  CONTRACTS: the encoder's Encode.
-/
import Derived.Test.YtlkieeindnpidaaDoorF
namespace Go.Proofs.YtlkieeindnpidaaDoor
open Go.RowKit Tt Hu Hu.Hf

theorem litB_len {first bits i : Nat} {h : Hd} (hi : i ≤ 2147483647) (h1 : h.1.size ≤ 1048576) (h2 : h.2.size ≤ 1048576) : (litB first bits i h).length ≤ 2097170 := by
  unfold litB
  have e1 := pint_len (first := first) (bits := bits) hi
  have e2 := ptext_len h1
  have e3 := ptext_len h2
  rw [List.length_append, List.length_append]
  split
  · omega
  · simp; omega
theorem encH_len {m : Nat} {M : List Hd} {h : Hn} (hM : M.length ≤ 1000) (h1 : h.1.1.size ≤ 1048576) (h2 : h.1.2.size ≤ 1048576) : (encH m M h).1.length ≤ 2097170 := by
  have hf := fnd_le h.1.1 h.1.2 (61 + M.length) (allL M) (allL_le M)
  have hi : (fnd h.1.1 h.1.2 (allL M)).1 ≤ 2147483647 := by omega
  unfold encH
  split
  · exact litB_len hi h1 h2
  · split
    · have := pint_len (first := 128) (bits := 7) hi
      simp only
      omega
    · split
      · exact litB_len hi h1 h2
      · exact litB_len hi h1 h2
theorem encL_snoc : ∀ (l : List Hn) (m : Nat) (M : List Hd) (h : Hn), (encL m M (l ++ [h])).1 = (encL m M l).1 ++ (encH m (encL m M l).2 h).1 ∧ (encL m M (l ++ [h])).2 = (encH m (encL m M l).2 h).2
  | [], m, M, h => by simp [encL]
  | x :: l, m, M, h => by
    have ih := encL_snoc l m (encH m M x).2 h
    simp only [List.cons_append, encL, ih.1, ih.2, List.append_assoc, and_self]
theorem take_snoc {α : Type} (l : List α) {k : Nat} (h : k < l.length) : l.take (k + 1) = l.take k ++ [l[k]] := by
  rw [List.take_add_one, List.getElem?_eq_getElem h]; rfl
/-- Headers of no more than a million bytes. -/
def Small (L : List Hn) : Prop := ∀ i (h : i < L.length), (L[i]).1.1.size ≤ 1048576 ∧ (L[i]).1.2.size ≤ 1048576
/-- The rounds. -/
def EncRel (B b A : Nat) (s : ES) (L : List Hn) (w : World) (s5 s12 : Value) (wr : World) : Prop := ∃ (i : Nat) (a : Option Addr) (N c : Nat), s12 = .int .i64 (i : Int) ∧ i ≤ L.length ∧ s5 = .slice a N c ∧ Hu.Own wr B (.slice a N c) (sizesB s ++ (encL s.m s.M (L.take i)).1) ∧
  (sizesB s ++ (encL s.m s.M (L.take i)).1).length ≤ 12 + 2097170 * i ∧ Ec wr b A ⟨s.m, (encL s.m s.M (L.take i)).2, none⟩ ∧ Kq B A b w wr
theorem sizesB_len (s : ES) (hm : s.m ≤ 4096) (hl : s.asked.getD 0 ≤ 4096) : (sizesB s).length ≤ 12 := by
  obtain ⟨m, M, o⟩ := s
  cases o with
  | none => simp [sizesB]
  | some y =>
    simp only [Option.getD_some] at hl
    have e1 := pint_len (first := 32) (bits := 5) (n := y) (by omega)
    have e2 := pint_len (first := 32) (bits := 5) (n := m) (by simp only at hm; omega)
    simp only [sizesB, List.length_append]
    split
    · omega
    · simp; omega
set_option maxRecDepth 100000 in
set_option maxHeartbeats 4000000 in
theorem encode_list (b A : Nat) (s : ES) (a : Option Addr) (n c : Nat) (L : List Hn) (w : World) (hE : Ec w b A s) (hL : ∀ W, Kq w.heap.size A b w W → Ns W a n c L) (hn : L.length ≤ 300) (hS : Small L) :
    Calls Tryd.prog 29 #[.pointer (some ⟨b, 0, none⟩), .slice a n c] w (EncOut w.heap.size b A (encode s L).1 (encode s L).2 w) := by
  have hlen := (hL w (Kq.refl _ _ _ _)).len
  have hb := hE.lt
  have hle := sizesB_len s hE.m hE.least
  have HA := Lib.hid (addSizes_any w.heap.size b A s w hE (Nat.le_refl _) hb)
  have HLL := Lib.hid hL
  have HSM := Lib.hid hS
  generalize hB : w.heap.size = B at hb HA HLL
  have HB := Lib.hid hB
  clear hE hL hS hB
  go_enter Tryd.func29, Tryd.ntmps29
  go_wp2_with fail
  refine HA.out.mono ?_
  rintro e w1 ⟨a1, N1, c1, rfl, hN1, ho1, hE1, hk1⟩
  clear HA
  go_wp2_with fail
  go_loopw [5, 12] (fun s5 s12 wr => EncRel B b A s L w s5 s12 wr) (fun _ s12 _ => L.length - (intOf s12).toNat)
  case atStart => exact ⟨0, _, _, _, rfl, by omega, rfl, by simpa [encL] using ho1, by simpa [encL] using hle, by simpa [encL] using hE1, hk1⟩
  case round =>
    obtain ⟨i, a2, N2, c2, rfl, hi, rfl, ho, hol, hE, hk⟩ := hrel
    clear ho1 hE1 hk1
    by_cases hlt : i < L.length
    · obtain ⟨hb1, hb2⟩ := HSM.out i hlt
      obtain ⟨bx, ox, rfl, e0, e1, e2⟩ := (HLL.out wr hk).row i hlt
      have hts := take_snoc L hlt
      have hsn := encL_snoc (L.take i) s.m s.M L[i]
      rw [← hts] at hsn
      generalize L[i] = h at hb1 hb2 e0 e1 e2 hsn
      have hia : (0 : Int) ≤ (i : Int) := by omega
      have hib : (i : Int) < (n : Int) := by omega
      have hsz := hk.size
      have HEE := Lib.hid hE
      have hbx : Below wr.heap.size wr (wr.alloc (.cells #[.string h.1.1, .string h.1.2, .bool h.2] 77)) := (Below.refl _ wr).alloc (Nat.le_refl _) _
      have HAH := Lib.hid (addHeader_any B b A ⟨s.m, (encL s.m s.M (L.take i)).2, none⟩ h a2 N2 c2 _ _ (hE.below hbx) (ho.kept hbx) (by have := HB.out; simp; omega) hb hb1 hb2 (by omega))
      have hML : (encL s.m s.M (L.take i)).2.length ≤ 1000 := by
        have h1 := hE.has.total_le
        have h2 := total_ge (encL s.m s.M (L.take i)).2
        have h3 := hE.m
        simp only at h1 h3
        omega
      have hll := encH_len (m := s.m) (h := h) hML hb1 hb2
      have HSN := Lib.hid hsn
      have HLL2 := Lib.hid hll
      have HK := Lib.hid (hk.trans (Kq.of_below (hbx.mono (by have := HB.out; omega))))
      clear hts hsn hll ho hE hk hML hbx
      go_wp2_with fail
      refine HAH.out.mono ?_
      rintro e w3 ⟨a3, N3, c3, rfl, hN3, ho3, hE3, hk3⟩
      clear HAH
      go_wp2_with fail
      try simp only at ho3 hE3
      rw [List.append_assoc, ← HSN.out.1] at ho3
      refine ⟨⟨i + 1, _, _, _, by go_num, by omega, rfl, ho3, ?_, ?_, HK.out.trans hk3⟩, by simp [intOf]; omega⟩
      · rw [HSN.out.1]
        have := HLL2.out
        simp only [List.length_append] at hol ⊢
        omega
      · rw [HSN.out.2]; exact hE3
    · obtain rfl : i = L.length := by omega
      rw [List.take_of_length_le (Nat.le_refl _)] at ho hE
      go_wp2_with fail
      go_ret
      exact ⟨_, _, _, rfl, Lib.hid ho.len, ho, hE, hk⟩
end Go.Proofs.YtlkieeindnpidaaDoor
