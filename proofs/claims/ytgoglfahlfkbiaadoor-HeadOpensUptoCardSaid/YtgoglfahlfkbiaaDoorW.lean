/-
  CONTRACT: Length.
-/
import Derived.Test.YtgoglfahlfkbiaaDoorV
namespace Go.Proofs.YtgoglfahlfkbiaaDoor
open Go.RowKit Tt

def clB : ByteArray := ⟨#[99, 111, 110, 116, 101, 110, 116, 45, 108, 101, 110, 103, 116, 104]⟩
def lenT : List ByteArray → Option (Nat × Bool)
  | [] => some (0, false)
  | t :: l => if (l.all fun s => decide (s = t)) = true ∧ (digP t 1 10).2 = true then some ((digP t 1 10).1, true) else none
/-- The length that a list says. -/
def lenR (L : List Hn) : Option (Nat × Bool) := lenT (allM L clB)
def lenV (ev : Value) : Option (Nat × Bool) → Value
  | none => .tuple #[.int .i64 0, .bool false, ev]
  | some (k, b) => .tuple #[.int .i64 (k : Int), .bool b, .nilIface]
def LenPost (L : List Hn) (ev : Value) (w : World) (e : Ending) (w' : World) : Prop := e = .returned (lenV ev (lenR L)) ∧ Below w.heap.size w w'
theorem lenT_no {l : List ByteArray} {k : Nat} (h0 : 0 < l.length) (h : k < l.length) (hne : l[k] ≠ l[0]) : lenT l = none := by
  cases l with
  | nil => simp at h0
  | cons t l =>
    refine if_neg ?_
    rintro ⟨h1, _⟩
    rw [List.all_eq_true] at h1
    cases k with
    | zero => exact hne rfl
    | succ k => exact hne (by simpa using h1 (l[k]'(by simpa using h)) (List.getElem_mem _))
theorem lenT_yes {l : List ByteArray} (h0 : 0 < l.length) (h : ∀ i (h : i < l.length), l[i] = l[0]) : lenT l = if (digP l[0] 1 10).2 = true then some ((digP l[0] 1 10).1, true) else none := by
  cases l with
  | nil => simp at h0
  | cons t l =>
    have e : (l.all fun s => decide (s = t)) = true := by
      rw [List.all_eq_true]
      intro x hx
      obtain ⟨i, hi, rfl⟩ := List.mem_iff_getElem.1 hx
      have := h (i + 1) (by simpa using hi)
      simpa using this
    simp [lenT, e]
theorem allM_sm {L : List Hn} (h : Sm L) (x : ByteArray) {i : Nat} (hi : i < (allM L x).length) : ((allM L x)[i]).size ≤ 140737488355328 := by
  have hm : (allM L x)[i] ∈ allM L x := List.getElem_mem _
  generalize (allM L x)[i] = y at hm
  unfold allM at hm
  obtain ⟨g, hg, he⟩ := List.mem_map.1 hm
  obtain ⟨hg1, _⟩ := List.mem_filter.1 hg
  obtain ⟨j, hj, rfl⟩ := List.mem_iff_getElem.1 hg1
  rw [← he]
  exact (h j hj).2
set_option maxRecDepth 100000 in
set_option maxHeartbeats 2000000 in
theorem length_any (a : Option Addr) (n c : Nat) (L : List Hn) (ev : Value) (w : World) (hs : Ns w a n c L) (hm : Sm L) (hn : n ≤ 1000) (hE : w.cell? ⟨0, 0, none⟩ = some ev) :
    Calls Tryd.prog 16 #[.slice a n c] w (LenPost L ev w) := by
  have HA := Lib.hid (all_any a n c L clB w hs hn)
  have HSM := Lib.hid (fun i (hi : i < (allM L clB).length) => allM_sm hm clB hi)
  have hll := allM_len L clB
  rw [hs.len] at hll
  have HLN := Lib.hid hs.len
  have HE := Lib.hid hE
  have hge := cell_lt hE
  simp only at hge
  have HP : Hid (∀ e w', LenPost L ev w e w' ↔ (e = .returned (lenV ev (lenT (allM L clB))) ∧ Below w.heap.size w w')) := Lib.hid fun e w' => Iff.rfl
  generalize allM L clB = T at HA HSM hll HP
  clear hs hm hE
  go_enter Tryd.func16, Tryd.ntmps16
  go_wp2_with fail
  refine HA.out.mono ?_
  rintro e w1 ⟨a1, N, c1, rfl, hN, hown, hb1⟩
  have hE1 := (hb1.cell (p := ⟨0, 0, none⟩) hge).trans HE.out
  have HB1 := Lib.hid hb1
  have HTS := Lib.hid hown.own
  have HN := hN
  have hN1 : N ≤ 1000 := by have := HN.out; omega
  clear hown hb1 HE HA
  by_cases h0 : N = 0
  · subst h0
    have hT : T = [] := List.length_eq_zero_iff.1 HN.out.symm
    subst hT
    go_wp2_with fail
    refine bodyPost_ret (v := .tuple #[.int .i64 0, .bool false, .nilIface]) (by simp [results, Tryd.results16, go_sem]) rfl ?_
    exact (HP.out _ _).2 ⟨rfl, HB1.out⟩
  · have hz0 : ((N : Int) == 0) = false := by rw [beq_eq_false_iff_ne]; omega
    have hT0 : 0 < T.length := by have := HN.out; omega
    obtain ⟨b, o, rfl, q0⟩ := HTS.out.row 0 hT0
    have HD := Lib.hid (fun W => digits_any (T[0]) 1 10 W (by omega) (by omega) (HSM.out 0 hT0))
    have HTY := Lib.hid (fun h => lenT_yes (l := T) hT0 h)
    have HTN := Lib.hid (fun k h hne => lenT_no (l := T) (k := k) hT0 h hne)
    have HQ : Hid (∀ i (h : i < T.length), w1.cell? ⟨b, o + i, none⟩ = some (.string T[i])) := Lib.hid fun i h => by
      obtain ⟨b', o', e, q⟩ := HTS.out.row i h
      cases e
      exact q
    clear h0
    have hc0 : (1 : Int) = ((1 : Nat) : Int) := rfl
    have hc1 : (10 : Int) = ((10 : Nat) : Int) := rfl
    have hNp : (0 : Int) < (N : Int) := by have := HN.out; omega
    rw [Nat.add_zero] at q0
    generalize hT00 : T[0] = t0 at *
    clear hc0 hc1
    go_wp2_with fail
    go_loop [17] (fun s17 => ∃ k : Nat, s17 = .int .i64 (k : Int) ∧ k ≤ N ∧ Hid (∀ i (h : i < T.length), i < k → T[i] = t0)) (fun s17 => N - (intOf s17).toNat)
    case atStart => exact ⟨0, rfl, Nat.zero_le _, Lib.hid fun i _ h => by omega⟩
    case round =>
      obtain ⟨k, rfl, hk, HALL⟩ := hrel
      by_cases hlt : k < N
      · have hkl : k < T.length := by have := HN.out; omega
        have qk := HQ.out k hkl
        have hka : (0 : Int) ≤ (k : Int) := by omega
        have hkb : (k : Int) < (N : Int) := by omega
        by_cases he : T[k] = t0
        · have HNX : Hid (∀ i (h : i < T.length), i < k + 1 → T[i] = t0) := Lib.hid fun i hi h => by
            by_cases hik : i < k
            · exact HALL.out i hi hik
            · obtain rfl : i = k := by omega
              exact he
          rw [he] at qk
          clear he
          go_wp2_with fail
          refine ⟨⟨k + 1, by go_num, by omega, HNX⟩, by simp [intOf]; omega⟩
        · have HF := Lib.hid (HTN.out k hkl he)
          have hne := bne' he
          generalize T[k] = tk at qk hne
          clear he HTN HTY
          go_wp2_with fail
          go_quiet (fail)
          all_goals try go_wp2_with fail
          all_goals refine bodyPost_ret (v := .tuple #[.int .i64 0, .bool false, ev]) (by simp [results, Tryd.results16, go_sem]) rfl ?_
          all_goals refine (HP.out _ _).2 ⟨by rw [HF.out]; rfl, ?_⟩
          all_goals exact bdN HB1.out _
      · obtain rfl : k = N := by omega
        have HF := Lib.hid (HTY.out fun i hi => HALL.out i hi (by have := HN.out; omega))
        generalize (digP t0 1 10).1 = V at HD HF
        generalize (digP t0 1 10).2 = ok at HD HF
        clear HTN HTY HALL
        cases ok with
        | true =>
          go_wp2_with fail
          refine (HD.out _).mono ?_
          rintro e w' ⟨rfl, rfl⟩
          go_wp2_with fail
          refine bodyPost_ret (v := .tuple #[.int .i64 (V : Int), .bool true, .nilIface]) (by simp [results, Tryd.results16, go_sem]) rfl ?_
          exact (HP.out _ _).2 ⟨by rw [HF.out]; rfl, HB1.out⟩
        | false =>
          go_wp2_with fail
          refine (HD.out _).mono ?_
          rintro e w' ⟨rfl, rfl⟩
          go_wp2_with fail
          go_quiet (fail)
          all_goals try go_wp2_with fail
          all_goals refine bodyPost_ret (v := .tuple #[.int .i64 0, .bool false, ev]) (by simp [results, Tryd.results16, go_sem]) rfl ?_
          all_goals refine (HP.out _ _).2 ⟨by rw [HF.out]; rfl, ?_⟩
          all_goals exact bdN HB1.out _
end Go.Proofs.YtgoglfahlfkbiaaDoor
