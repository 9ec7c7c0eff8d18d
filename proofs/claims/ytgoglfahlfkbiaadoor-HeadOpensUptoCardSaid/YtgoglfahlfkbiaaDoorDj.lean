/-
  CONTRACT of the document's Length.
-/
import Derived.Test.YtgoglfahlfkbiaaDoorDAll
import Derived.Test.YtgoglfahlfkbiaaDoorW
namespace Go.Proofs.YtgoglfahlfkbiaaDoor
open Go.RowKit Tt

def lenD : Option (Nat × Bool) → Value
  | none => .tuple #[.int .i64 0, .bool false, .int .i64 112]
  | some (k, b) => .tuple #[.int .i64 (k : Int), .bool b, .int .i64 0]
def DLenPost (L : List Hn) (w : World) (e : Ending) (w' : World) : Prop := e = .returned (lenD (lenR L)) ∧ Below w.heap.size w w'
theorem lenT_bad {l : List ByteArray} (h0 : 0 < l.length) (h : (digP l[0] 1 10).2 = false) : lenT l = none := by
  cases l with
  | nil => simp at h0
  | cons t l =>
    refine if_neg ?_
    rintro ⟨_, h2⟩
    rw [show (digP t 1 10).2 = false from h] at h2
    cases h2
theorem dig_bad {t : ByteArray} {k : Nat} (hk : k < t.size) (h : digitB t[k] = false ∨ 10 ≤ k) : (digP t 1 10).2 = false := by
  unfold digP
  split
  · rfl
  · rename_i hs
    rcases h with h | h
    · rw [no_dig hk h]; rfl
    · omega
set_option maxRecDepth 100000 in
set_option maxHeartbeats 2000000 in
theorem dlength_any (a : Option Addr) (n c : Nat) (L : List Hn) (w : World) (hs : Ns w a n c L) (hm : Sm L) (hn : n ≤ 1000) :
    Calls Tryd.prog 17 #[.slice a n c] w (DLenPost L w) := by
  have HA := Lib.hid (dall_any a n c L clB w hs hn)
  have HSM := Lib.hid (fun i (hi : i < (allM L clB).length) => allM_sm hm clB hi)
  have hll := allM_len L clB
  rw [hs.len] at hll
  have HP : Hid (∀ e w', DLenPost L w e w' ↔ (e = .returned (lenD (lenT (allM L clB))) ∧ Below w.heap.size w w')) := Lib.hid fun e w' => Iff.rfl
  generalize allM L clB = T at HA HSM hll HP
  clear hs hm
  go_enter Tryd.func17, Tryd.ntmps17
  go_wp2_with fail
  refine HA.out.mono ?_
  rintro e w1 ⟨a1, N, c1, rfl, hN, hown, hb1⟩
  have HB1 := Lib.hid hb1
  have HTS := Lib.hid hown.own
  have HN := hN
  have hN1 : N ≤ 1000 := by have := HN.out; omega
  clear hown hb1 HA
  by_cases h0 : N = 0
  · subst h0
    have hT : T = [] := List.length_eq_zero_iff.1 HN.out.symm
    subst hT
    go_wp2_with fail
    refine bodyPost_ret (v := .tuple #[.int .i64 0, .bool false, .int .i64 0]) (by simp [results, Tryd.results17, go_sem]) rfl ?_
    exact (HP.out _ _).2 ⟨rfl, HB1.out⟩
  · have hz0 : ((N : Int) == 0) = false := by rw [beq_eq_false_iff_ne]; omega
    have hT0 : 0 < T.length := by have := HN.out; omega
    obtain ⟨b, o, rfl, q0⟩ := HTS.out.row 0 hT0
    have HTY := Lib.hid (fun h => lenT_yes (l := T) hT0 h)
    have HTN := Lib.hid (fun k h hne => lenT_no (l := T) (k := k) hT0 h hne)
    have HTB := Lib.hid (fun h => lenT_bad (l := T) hT0 h)
    have hz := HSM.out 0 hT0
    have HQ : Hid (∀ i (h : i < T.length), w1.cell? ⟨b, o + i, none⟩ = some (.string T[i])) := Lib.hid fun i h => by
      obtain ⟨b', o', e, q⟩ := HTS.out.row i h
      cases e
      exact q
    clear h0
    have hNp : (0 : Int) < (N : Int) := by have := HN.out; omega
    rw [Nat.add_zero] at q0
    generalize hT00 : T[0] = t0 at *
    have HLEN : Hid (t0.data.toList.length = t0.size) := Lib.hid (by simp)
    go_wp2_with fail
    go_loop [6, 7, 8] (fun s6 s7 s8 => ∃ k : Nat, s7 = .int .i64 (k : Int) ∧ k ≤ t0.size ∧ k ≤ 10 ∧ s6 = .int .i64 ((decV (t0.data.toList.take k) : Nat) : Int) ∧ Hid (∀ i (h : i < t0.size), i < k → digitB t0[i] = true)) (fun _ s7 _ => t0.size - (intOf s7).toNat)
    case atStart => exact ⟨0, rfl, Nat.zero_le _, by omega, rfl, Lib.hid fun i _ h => by omega⟩
    case round =>
      obtain ⟨k, rfl, hk, hk10, rfl, HAD⟩ := hrel
      by_cases hlt : k < t0.size
      · have hkl : k < t0.data.toList.length := by rw [HLEN.out]; exact hlt
        have hst := decV_take t0.data.toList hkl
        rw [dig_get t0 hlt hkl] at hst
        have hbd : decV (t0.data.toList.take k) < 10 ^ k := decV_lt k _ (by rw [List.length_take]; omega) (fun c hc => by
          obtain ⟨i, hi, rfl⟩ := List.mem_iff_getElem.1 hc
          rw [List.length_take] at hi
          rw [List.getElem_take, dig_get t0 (by omega) (by omega)]
          exact HAD.out i (by omega) (by omega))
        have hb2 : 10 ^ k ≤ 10 ^ 10 := Nat.pow_le_pow_right (by omega) (by omega)
        have hb3 : decV (t0.data.toList.take k) < 10000000000 := Nat.lt_of_lt_of_le hbd (by simpa using hb2)
        have hxl := (t0[k]).toNat_lt
        have hka : (0 : Int) ≤ (k : Int) := by omega
        have HBD := Lib.hid (fun h => HTB.out (dig_bad (t := t0) hlt h))
        have HST := Lib.hid hst
        clear hst hbd hb2
        by_cases hd : 48 ≤ (t0[k]).toNat ∧ (t0[k]).toNat ≤ 57
        · have HNX : Hid (∀ i (h : i < t0.size), i < k + 1 → digitB t0[i] = true) := Lib.hid fun i hi h => by
            by_cases hik : i < k
            · exact HAD.out i hi hik
            · obtain rfl : i = k := by omega
              exact decide_eq_true hd
          obtain ⟨hx1, hx2⟩ := hd
          have hw8 : IntKind.u8.wrap (((t0[k]).toNat : Int) - 48) = ((t0[k]).toNat : Int) - 48 := by rw [IntKind.wrap_u8]; omega
          have hi1 : decide ((t0[k]).toNat < 48) = false := decide_eq_false (by omega)
          have hi2 : decide (57 < (t0[k]).toNat) = false := decide_eq_false (by omega)
          by_cases h10 : 10 ≤ k
          · have HF : Hid (lenT T = none) := Lib.hid (HBD.out (Or.inr h10))
            generalize decV (t0.data.toList.take k) = V at HST hb3
            go_wp2_with fail
            refine bodyPost_ret (v := .tuple #[.int .i64 0, .bool false, .int .i64 112]) (by simp [results, Tryd.results17, go_sem]) rfl ?_
            exact (HP.out _ _).2 ⟨by rw [HF.out]; rfl, HB1.out⟩
          · generalize decV (t0.data.toList.take k) = V at HST hb3
            go_wp2_with fail
            refine ⟨⟨k + 1, by go_num, by omega, by omega, ?_, HNX⟩, by simp [intOf]; omega⟩
            rw [HST.out]
            congr 1
            omega
        · have HF : Hid (lenT T = none) := Lib.hid (HBD.out (Or.inl (decide_eq_false hd)))
          generalize decV (t0.data.toList.take k) = V at HST hb3
          by_cases hx1 : (t0[k]).toNat < 48
          · go_wp2_with fail
            refine bodyPost_ret (v := .tuple #[.int .i64 0, .bool false, .int .i64 112]) (by simp [results, Tryd.results17, go_sem]) rfl ?_
            exact (HP.out _ _).2 ⟨by rw [HF.out]; rfl, HB1.out⟩
          · have hx2 : 57 < (t0[k]).toNat := by omega
            go_wp2_with fail
            refine bodyPost_ret (v := .tuple #[.int .i64 0, .bool false, .int .i64 112]) (by simp [results, Tryd.results17, go_sem]) rfl ?_
            exact (HP.out _ _).2 ⟨by rw [HF.out]; rfl, HB1.out⟩
      · obtain rfl : k = t0.size := by omega
        have hall : t0.data.toList.all digitB = true := all_dig fun i hi => HAD.out i hi hi
        have hte : t0.data.toList.take t0.size = t0.data.toList := List.take_of_length_le (by rw [HLEN.out]; exact Nat.le_refl _)
        rw [hte]
        have HDG : Hid (0 < t0.size → digP t0 1 10 = (decV t0.data.toList, true)) := Lib.hid (fun h => by unfold digP; rw [if_neg (by omega), if_pos hall])
        have HDZ : Hid (t0.size = 0 → (digP t0 1 10).2 = false) := Lib.hid (fun h => by unfold digP; rw [if_pos (by omega)])
        clear hte hall HAD
        generalize decV t0.data.toList = V at HDG
        go_wp2_with fail
        go_loopw [9] (fun s9 wr => ∃ k : Nat, s9 = .int .i64 (k : Int) ∧ k ≤ N ∧ Below w1.heap.size w1 wr ∧ Hid (∀ i (h : i < T.length), i < k → T[i] = t0)) (fun s9 _ => N - (intOf s9).toNat)
        case atStart => exact ⟨0, rfl, Nat.zero_le _, Below.refl _ _, Lib.hid fun i _ h => by omega⟩
        case round =>
          obtain ⟨k, rfl, hk, hB, HALL⟩ := hrel
          have HBR := Lib.hid (HB1.out.trans (hB.mono HB1.out.size))
          have q0 := (hB.cell (p := ⟨b, o, none⟩) (Tt.cell_lt q0)).trans q0
          by_cases hlt : k < N
          · have hkl : k < T.length := by have := HN.out; omega
            have qk := (hB.cell (p := ⟨b, o + k, none⟩) (Tt.cell_lt (HQ.out k hkl))).trans (HQ.out k hkl)
            have hka : (0 : Int) ≤ (k : Int) := by omega
            have hkb : (k : Int) < (N : Int) := by omega
            by_cases he : T[k] = t0
            · have HNX : Hid (∀ i (h : i < T.length), i < k + 1 → T[i] = t0) := Lib.hid fun i hi h => by
                by_cases hik : i < k
                · exact HALL.out i hi hik
                · obtain rfl : i = k := by omega
                  exact he
              rw [he] at qk
              clear he
              go_wp2_with fail
              go_quiet (fail)
              all_goals try go_wp2_with fail
              all_goals refine ⟨⟨k + 1, by go_num, by omega, ?_, HNX⟩, by simp [intOf]; omega⟩
              all_goals (repeat (first | exact hB | (refine Tt.bdN ?_ _) | (refine Below.drew ?_)))
            · have HF := Lib.hid (HTN.out k hkl he)
              have hne := bne' he
              generalize T[k] = tk at qk hne
              clear he HTN HTY
              go_wp2_with fail
              go_quiet (fail)
              all_goals try go_wp2_with fail
              all_goals refine bodyPost_ret (v := .tuple #[.int .i64 0, .bool false, .int .i64 112]) (by simp [results, Tryd.results17, go_sem]) rfl ?_
              all_goals refine (HP.out _ _).2 ⟨by rw [HF.out]; rfl, ?_⟩
              all_goals (repeat (first | exact HBR.out | (refine Tt.bdN ?_ _) | (refine Below.drew ?_)))
          · have HAL : Hid (∀ i (h : i < T.length), T[i] = t0) := Lib.hid fun i h => HALL.out i h (by have := HN.out; omega)
            obtain rfl : k = N := by omega
            by_cases he : t0 = ⟨#[]⟩
            · have HF : Hid (lenT T = none) := Lib.hid (HTB.out (HDZ.out (by rw [he]; rfl)))
              rw [he] at q0
              go_wp2_with fail
              refine bodyPost_ret (v := .tuple #[.int .i64 0, .bool false, .int .i64 112]) (by simp [results, Tryd.results17, go_sem]) rfl ?_
              exact (HP.out _ _).2 ⟨by rw [HF.out]; rfl, HBR.out⟩
            · have hp : 0 < t0.size := Nat.pos_of_ne_zero fun h => he (ByteArray.ext (Array.eq_empty_of_size_eq_zero h))
              have HF : Hid (lenT T = some (V, true)) := Lib.hid (by rw [HTY.out HAL.out, HDG.out hp]; rfl)
              have hne : t0.toList.isEmpty = false := by
                rw [List.isEmpty_eq_false_iff, Lib.toList_data]
                exact fun h => he (ByteArray.ext (Array.toList_inj.1 h))
              clear he
              go_wp2_with fail
              refine bodyPost_ret (v := .tuple #[.int .i64 (V : Int), .bool true, .int .i64 0]) (by simp [results, Tryd.results17, go_sem]) rfl ?_
              exact (HP.out _ _).2 ⟨by rw [HF.out]; rfl, HBR.out⟩
end Go.Proofs.YtgoglfahlfkbiaaDoor
