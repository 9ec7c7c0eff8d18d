/-
  CONTRACTS: Trailers.
-/
import Derived.Test.YtgoglfahlfkbiaaDoorF
namespace Go.Proofs.YtgoglfahlfkbiaaDoor
open Go.RowKit Tt

/-- All headers are plain ones. -/
def trailB (L : List Hn) : Bool := L.all fun h => plainB h.1
/-- Texts of a size that can be looked at. -/
def Sm (L : List Hn) : Prop := ∀ i (h : i < L.length), (L[i]).1.1.size ≤ 140737488355328 ∧ (L[i]).1.2.size ≤ 140737488355328
def TrPost (L : List Hn) (ev : Value) (w : World) (e : Ending) (w' : World) : Prop := e = .returned (if trailB L then .nilIface else ev) ∧ Below w.heap.size w w'
theorem trail_no {L : List Hn} {k : Nat} (h : k < L.length) (hp : plainB (L[k]).1 = false) : trailB L = false := by
  unfold trailB
  rw [List.all_eq_false]
  exact ⟨L[k], List.getElem_mem _, by simp [hp]⟩
theorem trail_yes {L : List Hn} (h : ∀ i (h : i < L.length), plainB (L[i]).1 = true) : trailB L = true := by
  unfold trailB
  rw [List.all_eq_true]
  intro x hx
  obtain ⟨i, hi, rfl⟩ := List.mem_iff_getElem.1 hx
  exact h i hi
set_option maxRecDepth 100000 in
set_option maxHeartbeats 2000000 in
theorem trail_any (a : Option Addr) (n c : Nat) (L : List Hn) (ev : Value) (w : World) (hs : Ns w a n c L) (hm : Sm L) (hE : w.cell? ⟨0, 0, none⟩ = some ev) :
    Calls Tryd.prog 15 #[.slice a n c] w (TrPost L ev w) := by
  have hle := hs.le
  have hmx := hs.max
  unfold maxLen at hmx
  have HS := Lib.hid hs
  have HL := Lib.hid hs.len
  have HM := Lib.hid hm
  have HE := Lib.hid hE
  have hge := cell_lt hE
  simp only at hge
  clear hs hm hE
  go_enter Tryd.func15, Tryd.ntmps15
  go_wp2_with fail
  go_loopw [7] (fun s7 wr => ∃ k : Nat, s7 = .int .i64 (k : Int) ∧ k ≤ n ∧ Below w.heap.size w wr ∧ Hid (∀ i (h : i < L.length), i < k → plainB (L[i]).1 = true)) (fun s7 _ => n - (intOf s7).toNat)
  case atStart => exact ⟨0, rfl, Nat.zero_le _, Below.refl _ _, Lib.hid fun i _ h => by omega⟩
  case round =>
    obtain ⟨k, rfl, hk, hb, HA⟩ := hrel
    have hz := hb.size
    have HB := Lib.hid hb
    by_cases hlt : k < n
    · have hkl : k < L.length := by rw [HL.out]; exact hlt
      obtain ⟨b, o, rfl, c0, c1, c2⟩ := (HS.out.kept hb).row k hkl
      have hsz := HM.out k hkl
      have HNO := Lib.hid (fun h => trail_no (L := L) hkl h)
      have HYE : Hid (plainB (L[k]).1 = true → ∀ i (h : i < L.length), i < k + 1 → plainB (L[i]).1 = true) := Lib.hid fun hp i hi h => by
        by_cases hik : i < k
        · exact HA.out i hi hik
        · obtain rfl : i = k := by omega
          exact hp
      generalize L[k] = C at c0 c1 c2 hsz HNO HYE
      obtain ⟨C, v⟩ := C
      simp only at c0 c1 c2 hsz
      have HP := Lib.hid (fun W => plain_any C v W hsz.1 hsz.2)
      simp only at HNO HYE
      clear hsz hb
      have hE1 := (HB.out.cell (p := ⟨0, 0, none⟩) hge).trans HE.out
      have h00 : (0 : Int) ≤ (k : Int) := by omega
      have h01 : (k : Int) < (n : Int) := by omega
      cases hp : plainB C with
      | true =>
        rw [hp] at HP
        have HY := Lib.hid (HYE.out hp)
        clear hp HYE HNO
        go_wp2_with fail
        refine (HP.out _).mono ?_
        rintro e w1 ⟨rfl, hb1⟩
        have HB1 : Hid (Below w.heap.size w w1) := Lib.hid (Below.trans (by repeat (first | (with_reducible exact HB.out) | (with_reducible refine Below.setCell ?_ (by dsimp only; omega) _) | (with_reducible refine Below.drew ?_) | (with_reducible refine Below.alloc ?_ (by first | omega | (simp; omega)) _))) (hb1.mono (by simp; omega)))
        clear hb1
        go_wp2_with fail
        go_roundw
        case rel => first | exact ⟨k + 1, by go_num, by omega, HB1.out, HY⟩ | exact ⟨_, _, ⟨k + 1, by go_num, by omega, HB1.out, HY⟩, rfl⟩
        case measure => simp [intOf]; omega
      | false =>
        rw [hp] at HP
        have HN := Lib.hid (HNO.out hp)
        clear hp HYE HNO
        go_wp2_with fail
        refine (HP.out _).mono ?_
        rintro e w1 ⟨rfl, hb1⟩
        have HB1 : Hid (Below w.heap.size w w1) := Lib.hid (Below.trans (by repeat (first | (with_reducible exact HB.out) | (with_reducible refine Below.setCell ?_ (by dsimp only; omega) _) | (with_reducible refine Below.drew ?_) | (with_reducible refine Below.alloc ?_ (by first | omega | (simp; omega)) _))) (hb1.mono (by simp; omega)))
        clear hb1 hE1
        have hE2 := (HB1.out.cell (p := ⟨0, 0, none⟩) hge).trans HE.out
        go_wp2_with fail
        go_ret
        exact ⟨by rw [HN.out]; rfl, HB1.out⟩
    · obtain rfl : k = n := by omega
      have HY := Lib.hid (trail_yes fun i hi => HA.out i hi (by rw [← HL.out]; exact hi))
      go_wp2_with fail
      go_ret
      exact ⟨by rw [HY.out]; rfl, HB.out⟩
end Go.Proofs.YtgoglfahlfkbiaaDoor
