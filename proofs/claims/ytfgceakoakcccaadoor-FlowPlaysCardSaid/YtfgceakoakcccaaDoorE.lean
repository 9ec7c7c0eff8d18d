/-
  CONTRACT: the chapter's examples; calls in memory.
-/
import Derived.Test.YtfgceakoakcccaaDoorD
namespace Go.Proofs.YtfgceakoakcccaaDoor
open Go.RowKit

theorem erV0 (en ew : Addr) : erV en ew 0 = .nilIface := rfl
theorem erV1 (en ew : Addr) : erV en ew 1 = errV en := rfl
theorem erV2 (en ew : Addr) : erV en ew 2 = errV ew := rfl
theorem not_one {g B b : Nat} (h1 : g < B) (h2 : B ≤ b) : g ∉ [b] := by simp; omega
set_option maxRecDepth 100000 in
set_option maxHeartbeats 1000000 in
theorem first_any (w : World) (en ew : Addr) (hE : Er w en ew) : Calls Tryd.prog 6 #[] w fun e w' => e = .returned (.bool true) ∧ Below w.heap.size w w' := by
  have g1 := cell_lt hE.n
  have g2 := cell_lt hE.w
  simp only at g1 g2
  have HE := Lib.hid (fun w' (h : Below w.heap.size w w') => hE.below h)
  clear hE
  go_enter Tryd.func6, Tryd.ntmps6
  go_wp2_with fail
  refine (new_yes 10 (by decide) w).mono ?_
  rintro e w1 ⟨rfl, ha, hb1⟩
  go_wp2_with fail
  refine (new_yes 3 (by decide) w1).mono ?_
  rintro e w2 ⟨rfl, hx, hb2⟩
  have hB2 : Below w.heap.size w w2 := hb1.trans (hb2.mono hb1.size)
  have ha2 := ha.below hb2
  have hab : w.heap.size < w1.heap.size := ha.lt
  have hx0 : w1.heap.size < w2.heap.size := hx.lt
  generalize hA : w.heap.size = A at ha2 hab
  generalize hX : w1.heap.size = X at hx hx0 hab
  have hwA : w.heap.size ≤ A := by omega
  clear ha hb1 hb2 hX
  go_wp2_with fail
  refine (both_any A X w2 ha2 hx).mono ?_
  rintro e w3 ⟨rfl, ⟨vr, vt, hp⟩, hb3⟩
  have hB3 : Below w.heap.size w w3 := hB2.trans (hb3.mono hB2.size)
  have ha3 := ha2.below hb3
  have hx3 := hx.below hb3
  have hbo : both A X = [A, X] := by unfold both; rw [if_neg (by omega)]
  rw [hbo] at hp
  generalize w2.heap.size = P at hp hx0
  clear ha2 hx hb3 hB2 hbo
  have HP := Lib.hid hp
  have HX := Lib.hid hx3
  have HB := Lib.hid hB3
  have HT := Lib.hid (take_any ha3 (by decide) 4 en ew (HE.out w3 hB3))
  clear hp hx3 hB3 ha3
  rw [show tkM 10 4 = (6, 0) by decide] at HT
  simp only [erV0] at HT
  go_wp2_with fail
  refine HT.out.mono ?_
  rintro e w4 ⟨rfl, ha4, hk4⟩
  have HB4 := Lib.hid (HB.out.trans (hk4.below (by simpa using hwA) HB.out.size))
  have HX4 := Lib.hid (HX.out.kp hk4 (by simp; omega))
  have HP4 := Lib.hid (HP.out.kp hk4 (by intro b hb; simp at hb; omega))
  have HS := Lib.hid (shift_any ha4 (by decide) (-20) en ew (HE.out w4 HB4.out))
  have HL := Lib.hid (left_any ha4)
  rw [show shM 6 (-20) = (-14, 0) by decide] at HS
  simp only [erV0] at HS
  clear HT hk4 HB HX HP ha4
  go_wp2_with fail
  refine HL.out.mono ?_
  rintro e w' ⟨rfl, rfl⟩
  go_wp2_with fail
  refine HS.out.mono ?_
  rintro e w5 ⟨rfl, ha5, hk5⟩
  have HB5 := Lib.hid (HB4.out.trans (hk5.below (by simpa using hwA) HB4.out.size))
  have HX5 := Lib.hid (HX4.out.kp hk5 (by simp; omega))
  have HP5 := Lib.hid (HP4.out.kp hk5 (by intro b hb; simp at hb; omega))
  have HT := Lib.hid (take_any ha5 (by decide) 0 en ew (HE.out w5 HB5.out))
  have HL := Lib.hid (left_any ha5)
  rw [show tkM (-14) 0 = (-14, 0) by decide] at HT
  simp only [erV0] at HT
  clear HS hk5 HB4 HX4 HP4 ha5
  go_wp2_with fail
  refine HL.out.mono ?_
  rintro e w' ⟨rfl, rfl⟩
  go_wp2_with fail
  refine HT.out.mono ?_
  rintro e w6 ⟨rfl, ha6, hk6⟩
  have HB6 := Lib.hid (HB5.out.trans (hk6.below (by simpa using hwA) HB5.out.size))
  have HX6 := Lib.hid (HX5.out.kp hk6 (by simp; omega))
  have HP6 := Lib.hid (HP5.out.kp hk6 (by intro b hb; simp at hb; omega))
  have HR := Lib.hid (room_any ha6 5)
  have hws : ∀ b ∈ [A, X], Wi w6 b (if b = A then -14 else 3) := by
    intro b hb
    simp only [List.mem_cons, List.not_mem_nil, or_false] at hb
    rcases hb with rfl | rfl
    · rw [if_pos rfl]; exact ha6
    · rw [if_neg (by omega)]; exact HX6.out
  have HPR := Lib.hid (proom_any HP6.out (fun b => if b = A then -14 else 3) hws (by simp) 9)
  have hL : ([A, X].map fun b => if b = A then (-14 : Int) else 3) = [-14, 3] := by simp; omega
  rw [hL, show rmL [-14, 3] 9 = 0 by decide] at HPR
  rw [show rmM (-14) 5 = 0 by decide] at HR
  clear hws HT hk6 HB5 HX5 HP5 ha6
  go_wp2_with fail
  refine HR.out.mono ?_
  rintro e w' ⟨rfl, rfl⟩
  go_wp2_with fail
  refine HPR.out.mono ?_
  rintro e w' ⟨rfl, rfl⟩
  go_wp2_with fail
  go_ret
  exact ⟨rfl, HB6.out⟩

/-- A call. -/
structure Cal where
  kind : Int
  num : Int
  two : Bool
/-- A slice of calls. -/
structure Cs (w : World) (a : Option Addr) (n : Nat) (L : List Cal) : Prop where
  len : L.length = n
  row : ∀ i (h : i < L.length), ∃ b o, a = some ⟨b, o, none⟩ ∧ w.cell? ⟨b, o + i * 3, none⟩ = some (.int .i64 L[i].kind) ∧ w.cell? ⟨b, o + i * 3 + 1, none⟩ = some (.int .i64 L[i].num) ∧ w.cell? ⟨b, o + i * 3 + 2, none⟩ = some (.bool L[i].two)
theorem Cs.kept {w w' : World} {a : Option Addr} {n : Nat} {L : List Cal} (h : Cs w a n L) (hb : Below w.heap.size w w') : Cs w' a n L :=
  ⟨h.len, fun i hi => by
    obtain ⟨b, o, e, c0, c1, c2⟩ := h.row i hi
    exact ⟨b, o, e, (hb.cell (p := ⟨b, o + i * 3, none⟩) (cell_lt c0)).trans c0, (hb.cell (p := ⟨b, o + i * 3 + 1, none⟩) (cell_lt c1)).trans c1, (hb.cell (p := ⟨b, o + i * 3 + 2, none⟩) (cell_lt c2)).trans c2⟩⟩
theorem tk_three {x n : Int} (h : Ok x) : tkM x n = (x, 1) ∨ tkM x n = (x, 2) ∨ (tkM x n = (x - n, 0) ∧ Ok (x - n)) := by
  have hk := tk_ok (n := n) h
  unfold tkM at *
  split
  · exact .inl rfl
  · split
    · exact .inr (.inl rfl)
    · rename_i h1 h2
      rw [if_neg h1, if_neg h2] at hk
      exact .inr (.inr ⟨rfl, hk⟩)
theorem sh_three {x n : Int} (h : Ok x) : shM x n = (x, 1) ∨ shM x n = (x, 2) ∨ (shM x n = (x + n, 0) ∧ Ok (x + n)) := by
  have hk := sh_ok (n := n) h
  unfold shM at *
  split
  · exact .inl rfl
  · split
    · exact .inr (.inl rfl)
    · rename_i h1 h2
      rw [if_neg h1, if_neg h2] at hk
      exact .inr (.inr ⟨rfl, hk⟩)
theorem gv_three {x n : Int} (h : Ok x) : gvM x n = (x, 1) ∨ gvM x n = (x, 2) ∨ (gvM x n = (x + n, 0) ∧ Ok (x + n)) := by
  unfold gvM
  split
  · exact .inl rfl
  · exact sh_three h
end Go.Proofs.YtfgceakoakcccaaDoor
