/-
  CONTRACTS: the document's windows; what a play's state holds.
-/
import Derived.Test.YtfgceakoakcccaaDoorG
import Derived.Test.YtfgceakoakcccaaDoorHuU
namespace Go.Proofs.YtfgceakoakcccaaDoor
open Go.RowKit

/-- The document's numbers of the errors. -/
def cd : Nat → Int
  | 0 => 0
  | 1 => 120
  | _ => 113
set_option maxRecDepth 100000 in
theorem bad_any (n : Int) (w : World) : Calls Tryd.prog 8 #[.int .i64 n] w fun e w' => e = .returned (.bool (decide (n < 0 ∨ 2147483647 < n))) ∧ w = w' := by
  by_cases h : n < 0
  · have h1 : decide (n < 0) = true := by simpa using h
    have h2 : decide (n < 0 ∨ 2147483647 < n) = true := by simp; omega
    rw [h2]
    go_enter Tryd.func8, Tryd.ntmps8
    go_wp2
    go_ret
    exact ⟨rfl, rfl⟩
  · have h1 : decide (n < 0) = false := by simpa using h
    have h2 : decide (n < 0 ∨ 2147483647 < n) = decide (2147483647 < n) := by simp; omega
    rw [h2]
    go_enter Tryd.func8, Tryd.ntmps8
    go_wp2
    go_ret
    exact ⟨rfl, rfl⟩
set_option maxRecDepth 100000 in
theorem droom_any (x n : Int) (w : World) : Calls Tryd.prog 17 #[.int .i64 x, .int .i64 n] w fun e w' => e = .returned (.int .i64 (rmM x n)) ∧ w = w' := by
  unfold rmM
  go_enter Tryd.func17, Tryd.ntmps17
  go_wp2
  all_goals
    rename_i hA
    go_ret
    refine ⟨congrArg (fun i => Ending.returned (.int .i64 i)) ?_, rfl⟩
    first | rw [if_pos h] at hA | rw [if_neg (by omega)] at hA
    omega
set_option maxRecDepth 100000 in
theorem dtake_any (x n : Int) (hx : Ok x) (w : World) : Calls Tryd.prog 10 #[.int .i64 x, .int .i64 n] w fun e w' => e = .returned (.tuple #[.int .i64 (tkM x n).1, .int .i64 (cd (tkM x n).2)]) ∧ w = w' := by
  unfold Ok at hx
  by_cases h0 : n < 0
  · have h1 : decide (n < 0) = true := by simpa using h0
    rw [show tkM x n = (x, 1) by unfold tkM; rw [if_pos h0]]
    go_enter Tryd.func10, Tryd.ntmps10
    go_wp2
    go_ret2
    exact ⟨rfl, rfl⟩
  have h1 : decide (n < 0) = false := by simpa using h0
  by_cases h2 : 0 < n ∧ x < n
  · have h3 : decide (0 < n) = true := by simpa using h2.1
    have h4 : decide (x < n) = true := by simpa using h2.2
    rw [show tkM x n = (x, 2) by unfold tkM; rw [if_neg h0, if_pos h2]]
    clear h2
    go_enter Tryd.func10, Tryd.ntmps10
    go_wp2
    go_ret2
    exact ⟨rfl, rfl⟩
  have h5 : -9223372036854775808 ≤ x - n ∧ x - n ≤ 9223372036854775807 := by omega
  rw [show tkM x n = (x - n, 0) by unfold tkM; rw [if_neg h0, if_neg h2]]
  by_cases h3 : 0 < n
  · have h4 : decide (x < n) = false := by simp; omega
    have h6 : decide (0 < n) = true := by simpa using h3
    clear h2
    go_enter Tryd.func10, Tryd.ntmps10
    go_wp2
    go_ret2
    exact ⟨rfl, rfl⟩
  · have h6 : decide (0 < n) = false := by simpa using h3
    clear h2
    go_enter Tryd.func10, Tryd.ntmps10
    go_wp2
    go_ret2
    exact ⟨rfl, rfl⟩
set_option maxRecDepth 100000 in
theorem dshift_any (x n : Int) (hx : Ok x) (w : World) : Calls Tryd.prog 14 #[.int .i64 x, .int .i64 n] w fun e w' => e = .returned (.tuple #[.int .i64 (shM x n).1, .int .i64 (cd (shM x n).2)]) ∧ w = w' := by
  unfold Ok at hx
  by_cases h0 : Ok n
  · have h1 : decide (n < -2147483647) = false := by unfold Ok at h0; simp; omega
    have h2 : decide (2147483647 < n) = false := by unfold Ok at h0; simp; omega
    have h5 : -9223372036854775808 ≤ x + n ∧ x + n ≤ 9223372036854775807 := by unfold Ok at h0; omega
    by_cases h3 : Ok (x + n)
    · rw [show shM x n = (x + n, 0) by unfold shM; rw [if_neg (fun k => k h0), if_neg (fun k => k h3)]]
      have h4 : decide (2147483647 < x + n) = false := by unfold Ok at h3; simp; omega
      have h6 : decide (x + n < -2147483647) = false := by unfold Ok at h3; simp; omega
      clear h3 h0
      go_enter Tryd.func14, Tryd.ntmps14
      go_wp2
      go_ret2
      exact ⟨rfl, rfl⟩
    · rw [show shM x n = (x, 2) by unfold shM; rw [if_neg (fun k => k h0), if_pos h3]]
      by_cases h4 : 2147483647 < x + n
      · have h4' : decide (2147483647 < x + n) = true := by simpa using h4
        clear h3 h0
        go_enter Tryd.func14, Tryd.ntmps14
        go_wp2
        go_ret2
        exact ⟨rfl, rfl⟩
      · have h4' : decide (2147483647 < x + n) = false := by simpa using h4
        have h6 : decide (x + n < -2147483647) = true := by unfold Ok at h3; simp; omega
        clear h3 h0
        go_enter Tryd.func14, Tryd.ntmps14
        go_wp2
        go_ret2
        exact ⟨rfl, rfl⟩
  · rw [show shM x n = (x, 1) by unfold shM; rw [if_pos h0]]
    by_cases h4 : n < -2147483647
    · have h4' : decide (n < -2147483647) = true := by simpa using h4
      clear h0
      go_enter Tryd.func14, Tryd.ntmps14
      go_wp2
      go_ret2
      exact ⟨rfl, rfl⟩
    · have h4' : decide (n < -2147483647) = false := by simpa using h4
      have h6 : decide (2147483647 < n) = true := by unfold Ok at h0; simp; omega
      clear h0
      go_enter Tryd.func14, Tryd.ntmps14
      go_wp2
      go_ret2
      exact ⟨rfl, rfl⟩
set_option maxRecDepth 100000 in
theorem dgive_any (x n : Int) (hx : Ok x) (w : World) : Calls Tryd.prog 12 #[.int .i64 x, .int .i64 n] w fun e w' => e = .returned (.tuple #[.int .i64 (gvM x n).1, .int .i64 (cd (gvM x n).2)]) ∧ w = w' := by
  unfold Ok at hx
  unfold gvM
  by_cases h0 : n < 1
  · have h1 : decide (n < 1) = true := by simpa using h0
    rw [if_pos h0]
    go_enter Tryd.func12, Tryd.ntmps12
    go_wp2
    go_ret2
    exact ⟨rfl, rfl⟩
  have h1 : decide (n < 1) = false := by simpa using h0
  rw [if_neg h0]
  by_cases h2 : 2147483647 < n
  · have h3 : decide (2147483647 < n) = true := by simpa using h2
    rw [show shM x n = (x, 1) by unfold shM; rw [if_pos (by unfold Ok; omega)]]
    go_enter Tryd.func12, Tryd.ntmps12
    go_wp2
    go_ret2
    exact ⟨rfl, rfl⟩
  have h3 : decide (2147483647 < n) = false := by simpa using h2
  have h5 : -9223372036854775808 ≤ x + n ∧ x + n ≤ 9223372036854775807 := by omega
  have h7 : -9223372036854775808 ≤ 2147483647 - n ∧ 2147483647 - n ≤ 9223372036854775807 := by omega
  by_cases h4 : 2147483647 - n < x
  · have h6 : decide (2147483647 - n < x) = true := by simpa using h4
    rw [show shM x n = (x, 2) by unfold shM; rw [if_neg (by unfold Ok; omega), if_pos (by unfold Ok; omega)]]
    go_enter Tryd.func12, Tryd.ntmps12
    go_wp2
    go_ret2
    exact ⟨rfl, rfl⟩
  · have h6 : decide (2147483647 - n < x) = false := by simpa using h4
    rw [show shM x n = (x + n, 0) by unfold shM; rw [if_neg (by unfold Ok; omega), if_neg (by unfold Ok; omega)]]
    go_enter Tryd.func12, Tryd.ntmps12
    go_wp2
    go_ret2
    exact ⟨rfl, rfl⟩
theorem neq_bool (p : Bool) (W : World) : (binOp .neq 4 (.bool p) (.bool p)).run Tryd.prog W = .ok (.bool false) W := by cases p <;> kernel_rfl
theorem new_gen (n : Int) (w : World) (en ew : Addr) (hE : Er w en ew) : Calls Tryd.prog 7 #[.int .i64 n] w fun e w' => ∃ pv ev, e = .returned (.tuple #[pv, ev]) ∧ Below w.heap.size w w' ∧
    (∀ W, (binOp .neq 26 ev .nilIface).run Tryd.prog W = .ok (.bool (decide (n < 0 ∨ 2147483647 < n))) W) ∧ (∀ W, (binOp .eql 24 pv (.pointer none)).run Tryd.prog W = .ok (.bool (decide (n < 0 ∨ 2147483647 < n))) W) ∧
    (∀ x v W, (eqGuard .neq 26 x (.const v) ev .nilIface).run Tryd.prog W = .ok () W) ∧ (∀ x y W, (eqGuard .eql 24 x y pv (.pointer none)).run Tryd.prog W = .ok () W) ∧
    (¬ (n < 0 ∨ 2147483647 < n) → pv = .pointer (some ⟨w.heap.size, 0, none⟩) ∧ ev = .nilIface ∧ Wi w' w.heap.size n) := by
  by_cases h : n < 0 ∨ 2147483647 < n
  · refine (new_no n h w en ew hE).mono ?_
    rintro e w' ⟨rfl, hb⟩
    rw [decide_eq_true h]
    exact ⟨_, _, rfl, hb, fun W => by kernel_rfl, fun W => run_eql_pointer_nil W 24 none Tryd.underlying24, fun x v W => rfl, fun x y W => rfl, fun k => absurd h k⟩
  · refine (new_yes n (by omega) w).mono ?_
    rintro e w' ⟨rfl, hw, hb⟩
    rw [decide_eq_false h]
    exact ⟨_, _, rfl, hb, fun W => by kernel_rfl, fun W => run_eql_pointer_nil W 24 (some ⟨w.heap.size, 0, none⟩) Tryd.underlying24, fun x v W => by simp [eqGuard, go_sem], fun x y W => rfl, fun _ => ⟨rfl, rfl, hw⟩⟩
/-- A pair's Take against both windows'. -/
theorem pt_max (x y n : Int) : cd (ptM [x, y] n) = max (cd (tkM x n).2) (cd (tkM y n).2) ∧ (ptM [x, y] n = 0 → tkM x n = (x - n, 0) ∧ tkM y n = (y - n, 0)) ∧ (ptM [x, y] n ≠ 0 → cd (ptM [x, y] n) ≠ 0) := by
  have m1 : max (120 : Int) 120 = 120 := by decide
  have m2 : max (113 : Int) 113 = 113 := by decide
  have m3 : max (113 : Int) 0 = 113 := by decide
  have m4 : max (0 : Int) 113 = 113 := by decide
  by_cases h0 : n < 0
  · have e : ∀ z, tkM z n = (z, 1) := fun z => by unfold tkM; rw [if_pos h0]
    have e2 : ptM [x, y] n = 1 := by unfold ptM; rw [if_pos h0]
    rw [e, e, e2]
    simp [cd]
  by_cases h1 : rmL [x, y] n < n
  · have e2 : ptM [x, y] n = 2 := by unfold ptM; rw [if_neg h0, if_pos h1]
    have hc : 0 < n ∧ x < n ∨ 0 < n ∧ y < n := by rw [rm_two] at h1; unfold rmM at h1; omega
    rw [e2]
    have key : ∀ z, tkM z n = if 0 < n ∧ z < n then (z, 2) else (z - n, 0) := fun z => by unfold tkM; rw [if_neg h0]
    rw [key, key]
    by_cases h2 : 0 < n ∧ x < n
    · rw [if_pos h2]
      by_cases h3 : 0 < n ∧ y < n
      · rw [if_pos h3]; simp [cd]
      · rw [if_neg h3]; simp [cd, m3]
    · rw [if_neg h2]
      by_cases h3 : 0 < n ∧ y < n
      · rw [if_pos h3]; simp [cd, m4]
      · exact absurd hc (fun h => h.elim h2 h3)
  · have e2 : ptM [x, y] n = 0 := by unfold ptM; rw [if_neg h0, if_neg h1]
    have hx := rmL_tk [x, y] n (by omega) h1 x (by simp)
    have hy := rmL_tk [x, y] n (by omega) h1 y (by simp)
    rw [hx, hy, e2]
    simp [cd]

/-- The k-th window. -/
def win (A X k : Nat) : Nat := if k = 0 then A else X
def upd (L : Nat → Int) (k : Nat) (y : Int) : Nat → Int := fun j => if j = k then y else L j
theorem upd_self (L : Nat → Int) (k : Nat) (y : Int) : upd L k y k = y := by unfold upd; rw [if_pos rfl]
/-- The windows at A and X, their pair at P, what is left by the document in the row at lb. -/
structure SG (w : World) (lb A X P : Nat) (vr vt : Value) (Lw Lc : Nat → Int) : Prop where
  wi : ∀ k, k < 2 → Wi w (win A X k) (Lw k)
  ok : ∀ k, k < 2 → Ok (Lw k)
  lc : ∀ k, k < 2 → w.cell? ⟨lb, k, none⟩ = some (.int .i64 (Lc k))
  z : ∀ k, w.frozen? ⟨lb, k, none⟩ = false
  p : Pr w P [A, X] vr vt
  o1 : A < X
  o2 : X < P
  o3 : P < lb
  nr : vr.ownBlock ≠ some lb
  nt : vt.ownBlock ≠ some lb
variable {w w' : World} {lb A X P : Nat} {vr vt : Value} {Lw Lc : Nat → Int}
theorem SG.below (h : SG w lb A X P vr vt Lw Lc) (hb : Below w.heap.size w w') : SG w' lb A X P vr vt Lw Lc := by
  have hlt : lb < w.heap.size := cell_lt (h.lc 0 (by decide))
  exact ⟨fun k hk => (h.wi k hk).below hb, h.ok, fun k hk => (hb.cell (p := ⟨lb, k, none⟩) hlt).trans (h.lc k hk), fun k => (hb.frozen (p := ⟨lb, k, none⟩) hlt).trans (h.z k), h.p.below hb, h.o1, h.o2, h.o3, h.nr, h.nt⟩
theorem SG.setc (h : SG w lb A X P vr vt Lw Lc) (k : Nat) (hk : k < 2) (y : Int) : SG (w.setCell ⟨lb, k, none⟩ (.int .i64 y)) lb A X P vr vt Lw (upd Lc k y) := by
  have o1 := h.o1
  have o2 := h.o2
  have o3 := h.o3
  refine ⟨fun j hj => (h.wi j hj).blk (Below.heap_setCell _ _ _ _ (by show win A X j ≠ lb; unfold win; split <;> omega)), h.ok, fun j hj => ?_, fun j => by rw [World.frozen?_setCell]; exact h.z j, ?_, o1, o2, o3, h.nr, h.nt⟩
  · unfold upd
    by_cases e : j = k
    · subst e
      rw [if_pos rfl]
      exact cell_setS _ _ _ _ _ (h.lc j hj)
    · rw [if_neg e]
      exact (cell_setN _ _ _ _ _ (Ne.symm e)).trans (h.lc j hj)
  · have hp := h.p
    have hpb : (w.setCell ⟨lb, k, none⟩ (.int .i64 y)).heap[P]? = w.heap[P]? := Below.heap_setCell _ _ _ _ (show P ≠ lb by omega)
    exact ⟨(World.cell?_of_block hpb).trans hp.c0, (World.cell?_of_block hpb).trans hp.c1, fun i => (World.frozen?_of_block hpb).trans (hp.z i), row_blk hp.r fun g hg => Below.heap_setCell _ _ _ _ (fun e => h.nr (by rw [hg]; exact congrArg some e)), row_blk hp.t fun g hg => Below.heap_setCell _ _ _ _ (fun e => h.nt (by rw [hg]; exact congrArg some e)), hp.ap⟩
theorem SG.setw (h : SG w lb A X P vr vt Lw Lc) (k : Nat) (_hk : k < 2) (y : Int) (hy : Ok y) (hw : Wi w' (win A X k) y) (hkp : Kp [win A X k] w w') : SG w' lb A X P vr vt (upd Lw k y) Lc := by
  have o1 := h.o1
  have o2 := h.o2
  have o3 := h.o3
  have hwk : win A X k ≤ X := by unfold win; split <;> omega
  have hlt : lb < w.heap.size := cell_lt (h.lc 0 (by decide))
  have hlb := hkp.block lb hlt (by simp; omega)
  refine ⟨fun j hj => ?_, fun j hj => ?_, fun j hj => (World.cell?_of_block hlb).trans (h.lc j hj), fun j => (World.frozen?_of_block hlb).trans (h.z j), h.p.kp hkp (by intro b hb; simp at hb; omega), o1, o2, o3, h.nr, h.nt⟩
  · unfold upd
    by_cases e : j = k
    · subst e
      rw [if_pos rfl]
      exact hw
    · rw [if_neg e]
      exact (h.wi j hj).kp hkp (by simp; unfold win; split <;> split <;> omega)
  · unfold upd
    split
    · exact hy
    · exact h.ok j hj
theorem SG.setp (h : SG w lb A X P vr vt Lw Lc) (y z : Int) (hy : Ok y) (hz : Ok z) (hA : Wi w' A y) (hX : Wi w' X z) (hkp : Kp [A, X] w w') : SG w' lb A X P vr vt (fun k => if k = 0 then y else z) Lc := by
  have o1 := h.o1
  have o2 := h.o2
  have o3 := h.o3
  have hlt : lb < w.heap.size := cell_lt (h.lc 0 (by decide))
  have hlb := hkp.block lb hlt (by simp; omega)
  refine ⟨fun j hj => ?_, fun j hj => ?_, fun j hj => (World.cell?_of_block hlb).trans (h.lc j hj), fun j => (World.frozen?_of_block hlb).trans (h.z j), h.p.kp hkp (by intro b hb; simp at hb; omega), o1, o2, o3, h.nr, h.nt⟩
  · unfold win
    split
    · exact hA
    · exact hX
  · split
    · exact hy
    · exact hz
theorem SG.congr (h : SG w lb A X P vr vt Lw Lc) (L M : Nat → Int) (h0 : L 0 = Lw 0) (h1 : L 1 = Lw 1) (h2 : M 0 = Lc 0) (h3 : M 1 = Lc 1) : SG w lb A X P vr vt L M := by
  have two : ∀ k, k < 2 → k = 0 ∨ k = 1 := fun k hk => by omega
  refine ⟨fun k hk => ?_, fun k hk => ?_, fun k hk => ?_, h.z, h.p, h.o1, h.o2, h.o3, h.nr, h.nt⟩
  · have := h.wi k hk
    rcases two k hk with rfl | rfl
    · rw [h0]; exact this
    · rw [h1]; exact this
  · have := h.ok k hk
    rcases two k hk with rfl | rfl
    · rw [h0]; exact this
    · rw [h1]; exact this
  · have := h.lc k hk
    rcases two k hk with rfl | rfl
    · rw [h2]; exact this
    · rw [h3]; exact this
theorem SG.left0 (h : SG w lb A X P vr vt Lw Lc) : Calls Tryd.prog 19 #[.pointer (some ⟨A, 0, none⟩)] w fun e w' => e = .returned (.int .i64 (Lw 0)) ∧ w = w' := left_any (h.wi 0 (by decide))
theorem SG.left1 (h : SG w lb A X P vr vt Lw Lc) : Calls Tryd.prog 19 #[.pointer (some ⟨X, 0, none⟩)] w fun e w' => e = .returned (.int .i64 (Lw 1)) ∧ w = w' := left_any (h.wi 1 (by decide))
theorem SG.room0 (h : SG w lb A X P vr vt Lw Lc) (n : Int) : Calls Tryd.prog 20 #[.pointer (some ⟨A, 0, none⟩), .int .i64 n] w fun e w' => e = .returned (.int .i64 (rmM (Lw 0) n)) ∧ w = w' := room_any (h.wi 0 (by decide)) n
theorem SG.proom (h : SG w lb A X P vr vt Lw Lc) (n : Int) : Calls Tryd.prog 21 #[.pointer (some ⟨P, 0, none⟩), .int .i64 n] w fun e w' => e = .returned (.int .i64 (rmL [Lw 0, Lw 1] n)) ∧ w = w' :=
  room2 h.p (by have := h.o1; omega) (h.wi 0 (by decide)) (h.wi 1 (by decide)) n
theorem cd_cases (x y n : Int) (h : ptM [x, y] n ≠ 0) : (cd (tkM x n).2 = 120 ∧ cd (tkM y n).2 = 120 ∧ cd (ptM [x, y] n) = 120) ∨ (cd (tkM x n).2 = 113 ∧ cd (tkM y n).2 = 113 ∧ cd (ptM [x, y] n) = 113) ∨ (cd (tkM x n).2 = 113 ∧ cd (tkM y n).2 = 0 ∧ cd (ptM [x, y] n) = 113) ∨ (cd (tkM x n).2 = 0 ∧ cd (tkM y n).2 = 113 ∧ cd (ptM [x, y] n) = 113) := by
  obtain ⟨h1, _, _⟩ := pt_max x y n
  by_cases h0 : n < 0
  · have e : ∀ z, tkM z n = (z, 1) := fun z => by unfold tkM; rw [if_pos h0]
    rw [h1, e, e]
    exact .inl ⟨rfl, rfl, by show max (120 : Int) 120 = 120; decide⟩
  have key : ∀ z, tkM z n = if 0 < n ∧ z < n then (z, 2) else (z - n, 0) := fun z => by unfold tkM; rw [if_neg h0]
  by_cases h4 : rmL [x, y] n < n
  · have hc : 0 < n ∧ x < n ∨ 0 < n ∧ y < n := by rw [rm_two] at h4; unfold rmM at h4; omega
    rw [h1, key, key]
    by_cases h2 : 0 < n ∧ x < n
    · rw [if_pos h2]
      by_cases h3 : 0 < n ∧ y < n
      · rw [if_pos h3]; exact .inr (.inl ⟨rfl, rfl, by show max (113 : Int) 113 = 113; decide⟩)
      · rw [if_neg h3]; exact .inr (.inr (.inl ⟨rfl, rfl, by show max (113 : Int) 0 = 113; decide⟩))
    · rw [if_neg h2]
      by_cases h3 : 0 < n ∧ y < n
      · rw [if_pos h3]; exact .inr (.inr (.inr ⟨rfl, rfl, by show max (0 : Int) 113 = 113; decide⟩))
      · exact absurd hc (fun h => h.elim h2 h3)
  · exact absurd (by unfold ptM; rw [if_neg h0, if_neg h4]) h
theorem seen_of {es : Nat → Addr} {w : World} (S : Hu.Sent w es) (c : Nat) : Hu.Seen w (erV (es 19) (es 12) c) (cd c) := by
  match c with
  | 0 => exact Hu.seen_nil w
  | 1 => exact Hu.seen_err S (i := 19) (by omega)
  | c + 2 => exact Hu.seen_err S (i := 12) (by omega)
end Go.Proofs.YtfgceakoakcccaaDoor
