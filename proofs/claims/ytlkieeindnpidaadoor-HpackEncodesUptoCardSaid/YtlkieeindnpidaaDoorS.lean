/-
  THE LAWS' first: the chapter's examples.
-/
import Derived.Test.YtlkieeindnpidaaDoorR
import Derived.Test.YtlkieeindnpidaaDoorG
namespace Go.Proofs.YtlkieeindnpidaaDoor
open Go.RowKit Tt Hu Hu.Hf

def L0 : List Hn := [((⟨#[58, 109, 101, 116, 104, 111, 100]⟩, ⟨#[71, 69, 84]⟩), false), ((⟨#[58, 112, 97, 116, 104]⟩, ⟨#[47]⟩), false), ((⟨#[97]⟩, ⟨#[98]⟩), false)]
def s0 : ES := ⟨4096, [], none⟩
theorem ex1 : (encode s0 L0).1 = [130, 132, 64, 1, 97, 1, 98] := by decide +kernel
theorem ex2 : (encode (encode s0 L0).2 L0).1 = [130, 132, 190] := by decide +kernel
theorem ex3 : ∃ s', allS 4096 7 (start [130, 132, 64, 1, 97, 1, 98] 4096 []) = .ok ((), s') ∧ s'.out = L0 ∧ s'.M.length = 1 := by
  have h : (match allS 4096 7 (start [130, 132, 64, 1, 97, 1, 98] 4096 []) with
    | .ok (_, s') => decide (s'.out = L0) && decide (s'.M.length = 1)
    | .er _ => false) = true := by decide +kernel
  cases ha : allS 4096 7 (start [130, 132, 64, 1, 97, 1, 98] 4096 []) with
  | er c => rw [ha] at h; cases h
  | ok q =>
    obtain ⟨u, s'⟩ := q
    rw [ha] at h
    simp only [Bool.and_eq_true, decide_eq_true_eq] at h
    exact ⟨s', rfl, h.1, h.2⟩
theorem ex4 : getInt 5 [31, 154, 10] = .ok (1337, 3) := by kernel_rfl

theorem L0_small : Small L0 := by
  intro i hi
  have h : L0.all (fun h => decide (h.1.1.size ≤ 1048576) && decide (h.1.2.size ≤ 1048576)) = true := by decide +kernel
  have := List.all_eq_true.1 h _ (List.getElem_mem hi)
  simpa using this
set_option maxRecDepth 100000 in
theorem sameH_any (g : Hn) (w : World) : Calls Tryd.prog 58 #[hdN g.1 g.2, hdN g.1 g.2] w fun e w' => e = .returned (.bool true) ∧ Below w.heap.size w w' := by
  obtain ⟨⟨a, b⟩, c⟩ := g
  have hB : Below w.heap.size w ((w.alloc (.cells #[.string a, .string b, .bool c] 77)).alloc (.cells #[.string a, .string b, .bool c] 77)) := ((Below.refl _ w).alloc (Nat.le_refl _) _).alloc (by simp) _
  have hcc : (c == c) = true := by simp
  go_enter Tryd.func58, Tryd.ntmps58
  go_wp2
  go_ret
  exact ⟨rfl, hB⟩
def SameRel (n : Nat) (w : World) (s5 : Value) (wr : World) : Prop := ∃ i : Nat, s5 = .int .i64 (i : Int) ∧ i ≤ n ∧ Below w.heap.size w wr
set_option maxRecDepth 100000 in
set_option maxHeartbeats 2000000 in
/-- Two slices that read as one list are the same. -/
theorem sames_any (a1 : Option Addr) (n1 c1 : Nat) (a2 : Option Addr) (n2 c2 : Nat) (L : List Hn) (w : World) (h1 : Ns w a1 n1 c1 L) (h2 : Ns w a2 n2 c2 L) :
    Calls Tryd.prog 31 #[.slice a1 n1 c1, .slice a2 n2 c2] w fun e w' => e = .returned (.bool true) ∧ Below w.heap.size w w' := by
  have hl1 := h1.len
  have hl2 := h2.len
  obtain rfl : n2 = n1 := by omega
  have hm1 := h1.max
  have hle1 := h1.le
  unfold maxLen at hm1
  have H1 := Lib.hid h1
  have H2 := Lib.hid h2
  have HL := Lib.hid hl1
  clear h1 h2 hl1 hl2
  have hnn : ((n2 : Int) != (n2 : Int)) = false := by simp
  go_enter Tryd.func31, Tryd.ntmps31
  go_wp2_with fail
  go_loopw [5] (fun s5 wr => SameRel n2 w s5 wr) (fun s5 _ => n2 - (intOf s5).toNat)
  case atStart => exact ⟨0, rfl, by omega, Below.refl _ _⟩
  case round =>
    obtain ⟨i, rfl, hi, hB⟩ := hrel
    by_cases hlt : i < n2
    · obtain ⟨b1, o1, rfl, e0, e1, e2⟩ := (H1.out.kept hB).row i (by rw [HL.out]; exact hlt)
      obtain ⟨b2, o2, rfl, g0, g1, g2⟩ := (H2.out.kept hB).row i (by rw [HL.out]; exact hlt)
      generalize L[i]'(by rw [HL.out]; exact hlt) = h at e0 e1 e2 g0 g1 g2
      have hia : (0 : Int) ≤ (i : Int) := by omega
      have hib : (i : Int) < (n2 : Int) := by omega
      have HSM : Hid (∀ W, Below wr.heap.size wr W → Calls Tryd.prog 58 #[hdN h.1 h.2, hdN h.1 h.2] W fun e w' => e = .returned (.bool true) ∧ Below wr.heap.size wr w') := Lib.hid (fun W hW => (sameH_any h W).mono fun e w' ⟨q1, q2⟩ => ⟨q1, hW.trans (q2.mono hW.size)⟩)
      go_upto_region 6 with fail
      go_cut [6] from 18 to 26 (fun s6 wx => s6 = .bool true ∧ Below wr.heap.size wr wx)
      case first =>
        go_region_law (go_simp; (with_reducible_and_instances refine Calls.mono (HSM.out _ (by first | assumption | exact Below.refl _ _ | exact Below.drew (Below.refl _ _))) ?_); rintro e w6 ⟨rfl, hb6⟩; go_simp)
        all_goals (go_wp2_with fail; go_meet)
        all_goals exact ⟨rfl, hb6⟩
      case rest =>
        obtain ⟨rfl, hb6⟩ := hcut
        clear e0 e1 e2 g0 g1 g2
        go_wp2_with fail
        exact ⟨⟨i + 1, by go_num, by omega, hB.trans (hb6.mono hB.size)⟩, by simp [intOf]; omega⟩
    · obtain rfl : i = n2 := by omega
      go_wp2_with fail
      go_ret
      exact ⟨rfl, hB⟩
end Go.Proofs.YtlkieeindnpidaaDoor
