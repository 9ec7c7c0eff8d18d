/-
  CONTRACTS: SameTexts of equal lists; Get.
-/
import Derived.Test.YtgoglfahlfkbiaaDoorW
namespace Go.Proofs.YtgoglfahlfkbiaaDoor
open Go.RowKit Tt

set_option maxRecDepth 100000 in
set_option maxHeartbeats 2000000 in
theorem samet_any (a1 : Option Addr) (n1 c1 : Nat) (a2 : Option Addr) (n2 c2 : Nat) (l : List ByteArray) (w : World) (h1 : Ts w a1 n1 c1 l) (h2 : Ts w a2 n2 c2 l) :
    Calls Tryd.prog 21 #[.slice a1 n1 c1, .slice a2 n2 c2] w fun e w' => e = .returned (.bool true) ∧ Below w.heap.size w w' := by
  have hl1 := h1.len
  have hl2 := h2.len
  obtain rfl : n2 = n1 := by omega
  have hm1 := h1.max
  have hle1 := h1.le
  unfold maxLen at hm1
  have H1 := Lib.hid h1
  have H2 := Lib.hid h2
  have HL := Lib.hid hl1
  clear h1 h2 hl1 hl2
  go_enter Tryd.func21, Tryd.ntmps21
  go_wp2_with fail
  go_loopw [5, 6] (fun s5 s6 wr => ∃ i : Nat, s5 = .int .i64 (i : Int) ∧ i ≤ n2 ∧ Below w.heap.size w wr) (fun s5 _ _ => n2 - (intOf s5).toNat)
  case atStart => exact ⟨0, rfl, by omega, Below.refl _ _⟩
  case round =>
    obtain ⟨i, rfl, hi, hB⟩ := hrel
    by_cases hlt : i < n2
    · obtain ⟨b1, o1, rfl, e0⟩ := (H1.out.kept hB).row i (by rw [HL.out]; exact hlt)
      obtain ⟨b2, o2, rfl, g0⟩ := (H2.out.kept hB).row i (by rw [HL.out]; exact hlt)
      generalize l[i]'(by rw [HL.out]; exact hlt) = t at e0 g0
      have hia : (0 : Int) ≤ (i : Int) := by omega
      have hib : (i : Int) < (n2 : Int) := by omega
      go_wp2_with fail
      go_quiet (fail)
      all_goals try go_wp2_with fail
      all_goals refine ⟨⟨i + 1, by go_num, by omega, ?_⟩, by simp [intOf]; omega⟩
      all_goals (repeat (first | exact hB | (refine Tt.bdN ?_ _) | (refine Below.drew ?_)))
    · obtain rfl : i = n2 := by omega
      go_wp2_with fail
      go_ret
      exact ⟨rfl, hB⟩

/-- The first of them. -/
def getT : List ByteArray → ByteArray × Bool
  | [] => (⟨#[]⟩, false)
  | t :: _ => (t, true)
def GetPost (L : List Hn) (x : ByteArray) (w : World) (e : Ending) (w' : World) : Prop := e = .returned (.tuple #[.string (getT (allM L x)).1, .bool (getT (allM L x)).2]) ∧ Below w.heap.size w w'
theorem allM_take {L : List Hn} {x : ByteArray} {k : Nat} (h : allM (L.take k) x = []) (hk : k < L.length) (e : L[k].1.1 = x) : getT (allM L x) = (L[k].1.2, true) := by
  have h1 : L = L.take k ++ L[k] :: L.drop (k + 1) := by
    rw [List.getElem_cons_drop, List.take_append_drop]
  have h2 : allM L x = allM (L.take k) x ++ allM (L[k] :: L.drop (k + 1)) x := by
    rw [show allM L x = allM (L.take k ++ L[k] :: L.drop (k + 1)) x from congrArg (fun M => allM M x) h1]
    unfold allM
    rw [List.filter_append, List.map_append]
  rw [h2, h, List.nil_append]
  unfold allM
  rw [List.filter_cons_of_pos (by simpa using e)]
  rfl
set_option maxRecDepth 100000 in
set_option maxHeartbeats 2000000 in
theorem get_any (a : Option Addr) (n c : Nat) (L : List Hn) (x : ByteArray) (w : World) (hs : Ns w a n c L) (hn : n ≤ 1000) : Calls Tryd.prog 19 #[.slice a n c, .string x] w (GetPost L x w) := by
  have HS := Lib.hid hs
  have HL := Lib.hid hs.len
  clear hs
  go_enter Tryd.func19, Tryd.ntmps19
  go_wp2
  go_loopw [10] (fun s10 wr => ∃ k : Nat, s10 = .int .i64 (k : Int) ∧ k ≤ n ∧ Below w.heap.size w wr ∧ Hid (allM (L.take k) x = [])) (fun s10 _ => n - (intOf s10).toNat)
  case atStart => exact ⟨0, rfl, Nat.zero_le _, Below.refl _ _, Lib.hid (by simp [allM])⟩
  case round =>
    obtain ⟨k, rfl, hk, hbw, HAM⟩ := hrel
    by_cases hlt : k < n
    · obtain ⟨b, o, rfl, e0, e1, e2⟩ := (HS.out.kept hbw).row k (by rw [HL.out]; exact hlt)
      have HT : Hid (L.take (k + 1) = L.take k ++ [L[k]'(by rw [HL.out]; exact hlt)]) := Lib.hid (by rw [List.take_add_one, List.getElem?_eq_getElem (by rw [HL.out]; exact hlt)]; rfl)
      have HG := Lib.hid (fun e => allM_take (x := x) HAM.out (by rw [HL.out]; exact hlt) e)
      generalize L[k]'(by rw [HL.out]; exact hlt) = g at e0 e1 e2 HT HG
      obtain ⟨⟨gn, gv⟩, gb⟩ := g
      have HA := Lib.hid (allM_snoc (L.take k) ((gn, gv), gb) x)
      simp only at HA e0 e1 e2 HG
      have hka : (0 : Int) ≤ (k : Int) := by omega
      have hkb : (k : Int) < (n : Int) := by omega
      have hw := hbw.size
      have HB := Lib.hid hbw
      clear hbw
      by_cases he : gn = x
      · have HF := Lib.hid (HG.out he)
        clear HA HT HG
        subst he
        go_wp2_with fail
        go_ret2
        unfold GetPost
        exact ⟨by rw [HF.out]; rfl, HB.out.alloc hw _⟩
      · have HA2 : Hid (allM (L.take (k + 1)) x = []) := Lib.hid (by rw [HT.out, HA.out, if_neg he, HAM.out])
        have hne := bne' he
        clear HA HT he HG
        go_wp2_with fail
        exact ⟨⟨k + 1, by go_num, by omega, HB.out.alloc hw _, HA2⟩, by simp [intOf]; omega⟩
    · obtain rfl : k = n := by omega
      have hT : L.take k = L := List.take_of_length_le (by rw [HL.out]; exact Nat.le_refl _)
      rw [hT] at HAM
      go_wp2_with fail
      go_ret2
      unfold GetPost
      exact ⟨by rw [HAM.out]; rfl, hbw⟩
end Go.Proofs.YtgoglfahlfkbiaaDoor
