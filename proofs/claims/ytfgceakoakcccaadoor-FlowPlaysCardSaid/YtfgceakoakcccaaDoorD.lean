/-
  CONTRACTS: Both, the pair's Room and Take.
-/
import Derived.Test.YtfgceakoakcccaaDoorC
namespace Go.Proofs.YtfgceakoakcccaaDoor
open Go.RowKit

theorem infoW : (Tryd.prog.info? 46).map (fun i => i.size) = some 1 := by kernel_rfl
theorem neq_same (a : Nat) (w : World) : (binOp .neq 24 (.pointer (some ⟨a, 0, none⟩)) (.pointer (some ⟨a, 0, none⟩))).run Tryd.prog w = .ok (.bool false) w := by
  obtain ⟨j, hj, _⟩ := Option.map_eq_some_iff.1 infoW
  exact Lib.run_neq_ptr_same w _ Tryd.underlying24 hj
theorem neq_other (a b : Nat) (w : World) {x y : Int} (ha : Wi w a x) (hb : Wi w b y) (hne : b ≠ a) : (binOp .neq 24 (.pointer (some ⟨b, 0, none⟩)) (.pointer (some ⟨a, 0, none⟩))).run Tryd.prog w = .ok (.bool true) w := by
  obtain ⟨j, hj, hs⟩ := Option.map_eq_some_iff.1 infoW
  have hx : (⟨b, 0, none⟩ : Addr) ≠ ⟨a, 0, none⟩ := by simp [hne]
  have h : ∀ d : Nat, (Op.equalIn (d + 1) 24 (.pointer (some ⟨b, 0, none⟩)) (.pointer (some ⟨a, 0, none⟩))).run Tryd.prog w = .ok false w := fun d => by
    simp [Op.equalIn, run_underlying Tryd.underlying24, sizeOf, typeInfo, hj, hs, run_sameAddr_other w hx hb.h ha.h]
  simp only [binOp]
  simp [Op.equal, Op.maxDepth, h 9999]
/-- The windows of a pair. -/
def both (a b : Nat) : List Nat := if b = a then [a] else [a, b]
set_option maxRecDepth 100000 in
set_option maxHeartbeats 400000 in
theorem both_any (a b : Nat) (w : World) {x y : Int} (ha : Wi w a x) (hb : Wi w b y) : Calls Tryd.prog 9 #[.pointer (some ⟨a, 0, none⟩), .pointer (some ⟨b, 0, none⟩)] w fun e w' => e = .returned (.pointer (some ⟨w.heap.size, 0, none⟩)) ∧ (∃ vr vt, Pr w' w.heap.size (both a b) vr vt) ∧ Below w.heap.size w w' := by
  have hp : Pr (w.alloc (.cells #[.slice none 0 0, .slice none 0 0] 50)) w.heap.size [] (.slice none 0 0) (.slice none 0 0) :=
    ⟨by simp, by simp, fun i => by simp, World.ownsRow_nil _ _ _ _, World.ownsRow_nil _ _ _ _, fun x hx => by cases hx⟩
  have hb' : Below w.heap.size w (w.alloc (.cells #[.slice none 0 0, .slice none 0 0] 50)) := (Below.refl _ _).alloc (Nat.le_refl _) _
  have HA := Lib.hid (add_any hp (by simp) a)
  have HB := Lib.hid hb'
  have HE := Lib.hid (fun w' (h : Below w.heap.size w w') => neq_other a b w' (ha.below h) (hb.below h))
  unfold both
  clear hp hb'
  by_cases h : b = a
  · subst h
    rw [if_pos rfl]
    go_enter Tryd.func9, Tryd.ntmps9
    go_wp2_with fail
    refine HA.out.mono ?_
    rintro e w1 ⟨rfl, h1, h2⟩
    have hq := neq_same b w1
    go_wp2_with fail
    go_ret
    exact ⟨rfl, h1, HB.out.trans h2⟩
  · have hd : ¬ a = b := fun e => h e.symm
    rw [if_neg h]
    go_enter Tryd.func9, Tryd.ntmps9
    go_wp2_with fail
    refine HA.out.mono ?_
    rintro e w1 ⟨rfl, ⟨vr, vt, h1⟩, h2⟩
    have HAB := Lib.hid (add_any h1 (by simp) b)
    have HB2 := Lib.hid (HB.out.trans h2)
    have hq := HE.out w1 (HB.out.trans h2) h
    clear HA HB h1 h2
    go_wp2_with fail
    refine HAB.out.mono ?_
    rintro e w2 ⟨rfl, h3, h4⟩
    go_wp2_with fail
    go_ret
    exact ⟨rfl, h3, HB2.out.trans h4⟩

/-- What a pair's windows let come. -/
def rmL (xs : List Int) (n : Int) : Int := xs.foldl (fun n x => rmM x n) n
theorem rmL_le (xs : List Int) : ∀ n : Int, rmL xs n ≤ max 0 n := by
  induction xs with
  | nil => intro n; simp [rmL]; omega
  | cons x xs ih =>
    intro n
    have := ih (rmM x n)
    show rmL xs (rmM x n) ≤ _
    unfold rmM at *
    omega
/-- Where a pair's Room is not less than n each window's Take takes. -/
theorem rmL_tk (xs : List Int) : ∀ n : Int, 0 ≤ n → ¬ rmL xs n < n → ∀ x ∈ xs, tkM x n = (x - n, 0) := by
  induction xs with
  | nil => intro n _ _ x hx; cases hx
  | cons x xs ih =>
    intro n hn h y hy
    have h1 := rmL_le xs (rmM x n)
    have h2 : rmL (x :: xs) n = rmL xs (rmM x n) := rfl
    have h3 : rmM x n = n := by
      rw [h2] at h
      unfold rmM at *
      omega
    rcases List.mem_cons.1 hy with rfl | hy
    · unfold tkM
      unfold rmM at h3
      rw [if_neg (by omega), if_neg (by omega)]
    · rw [h2, h3] at h
      exact ih n hn h y hy
theorem rmL_mid (xs : List Int) (i : Nat) (hi : i < xs.length) (n : Int) : rmL (xs.take (i + 1)) n = rmM xs[i] (rmL (xs.take i) n) := by
  unfold rmL
  rw [List.take_succ_eq_append_getElem hi, List.foldl_append]
  rfl
set_option maxRecDepth 100000 in
set_option maxHeartbeats 400000 in
theorem proom_any {w : World} {p : Nat} {ws : List Nat} {vr vt : Value} (h : Pr w p ws vr vt) (L : Nat → Int) (hw : ∀ b ∈ ws, Wi w b (L b)) (hk : ws.length ≤ 100) (n : Int) :
    Calls Tryd.prog 21 #[.pointer (some ⟨p, 0, none⟩), .int .i64 n] w fun e w' => e = .returned (.int .i64 (rmL (ws.map L) n)) ∧ w = w' := by
  have c0 := h.c0
  obtain ⟨a, c, rfl, hrow⟩ := row_at h.r (by simp)
  have HW := Lib.hid hw
  have HR := Lib.hid hrow
  clear h hw hrow
  go_enter Tryd.func21, Tryd.ntmps21
  go_wp2_with fail
  go_loopw [1, 12] (fun s1 s12 wr => ∃ i : Nat, s1 = .int .i64 (rmL ((ws.map L).take i) n) ∧ s12 = .int .i64 (i : Int) ∧ i ≤ ws.length ∧ wr = w) (fun _ s12 _ => ws.length - (intOf s12).toNat)
  case atStart => exact ⟨0, by simp [rmL], rfl, by omega, rfl⟩
  case round =>
    obtain ⟨i, rfl, rfl, hi, rfl⟩ := hrel
    by_cases hlt : i < ws.length
    · obtain ⟨g, rfl, hg, hc⟩ := HR.out i (by simpa using hlt)
      simp only [List.getElem_map] at hc
      have HRM := Lib.hid (room_any (HW.out ws[i] (List.getElem_mem hlt)) (rmL ((ws.map L).take i) n))
      have hm := rmL_mid (ws.map L) i (by simpa using hlt) n
      simp only [List.getElem_map] at hm
      rw [← hm] at HRM
      have ha : (0 : Int) ≤ (i : Int) := by omega
      have hb : (i : Int) < (ws.length : Int) := by omega
      clear hm
      go_wp2_with fail
      refine HRM.out.mono ?_
      rintro e w1 ⟨rfl, rfl⟩
      go_wp2_with fail
      exact ⟨⟨i + 1, rfl, by go_num, by omega, by trivial⟩, by simp [intOf]; omega⟩
    · have hge : ¬ (i : Int) < (ws.length : Int) := by omega
      obtain rfl : i = ws.length := by omega
      go_wp2_with fail
      go_ret
      exact ⟨by rw [List.take_of_length_le (by simp)]; rfl, rfl⟩

theorem Er.kp {S : List Nat} {w w' : World} {en ew : Addr} (h : Er w en ew) (hk : Kp S w w') (h1 : 0 ∉ S) (h2 : 1 ∉ S) : Er w' en ew :=
  ⟨(hk.cell (p := ⟨0, 0, none⟩) (cell_lt h.n) h1).trans h.n, (hk.cell (p := ⟨1, 0, none⟩) (cell_lt h.w) h2).trans h.w⟩
/-- What a pair's Take answers. -/
def ptM (xs : List Int) (n : Int) : Nat := if n < 0 then 1 else if rmL xs n < n then 2 else 0
set_option maxRecDepth 100000 in
set_option maxHeartbeats 400000 in
theorem ptake_any {w : World} {p : Nat} {ws : List Nat} {vr vt : Value} (h : Pr w p ws vr vt) (L : Nat → Int) (hw : ∀ b ∈ ws, Wi w b (L b)) (hok : ∀ b ∈ ws, Ok (L b)) (hp : ∀ b ∈ ws, b < p) (hnd : ws.Nodup) (hk : ws.length ≤ 100) (n : Int)
    (en ew : Addr) (hE : Er w en ew) (g1 : 0 ∉ ws) (g2 : 1 ∉ ws) :
    Calls Tryd.prog 16 #[.pointer (some ⟨p, 0, none⟩), .int .i64 n] w fun e w' => e = .returned (erV en ew (ptM (ws.map L) n)) ∧ (∀ b ∈ ws, Wi w' b (if ptM (ws.map L) n = 0 then L b - n else L b)) ∧ Kp ws w w' := by
  have HRM := Lib.hid (proom_any h L hw hk n)
  have hn := hE.n
  have hx := hE.w
  by_cases h0 : n < 0
  · have e : ptM (ws.map L) n = 1 := by unfold ptM; rw [if_pos h0]
    have h0' : decide (n < 0) = true := by simpa using h0
    rw [e]
    go_enter Tryd.func16, Tryd.ntmps16
    go_wp2
    go_ret
    exact ⟨rfl, hw, Kp.refl _ _⟩
  have h0' : decide (n < 0) = false := by simpa using h0
  by_cases h1 : rmL (ws.map L) n < n
  · have e : ptM (ws.map L) n = 2 := by unfold ptM; rw [if_neg h0, if_pos h1]
    have h1' : decide (rmL (ws.map L) n < n) = true := by simpa using h1
    rw [e]
    go_enter Tryd.func16, Tryd.ntmps16
    go_wp2_with fail
    refine HRM.out.mono ?_
    rintro e w1 ⟨rfl, rfl⟩
    go_wp2
    go_ret
    exact ⟨rfl, hw, Kp.refl _ _⟩
  have h1' : decide (rmL (ws.map L) n < n) = false := by simpa using h1
  have e : ptM (ws.map L) n = 0 := by unfold ptM; rw [if_neg h0, if_neg h1]
  rw [e]
  have htk := rmL_tk (ws.map L) n (by omega) h1
  have c1 := h.c1
  have HP := Lib.hid h
  obtain ⟨a, c, rfl, hrow⟩ := row_at h.t (by simp)
  have HR := Lib.hid (fun (w' : World) (hk' : Kp ws w w') => row_at (HP.out.kp hk' hp).t (by simp))
  have HW := Lib.hid hw
  have HE := Lib.hid hE
  have HTK := Lib.hid htk
  clear hw hrow h htk hE
  go_enter Tryd.func16, Tryd.ntmps16
  go_wp2_with fail
  refine HRM.out.mono ?_
  rintro e w1 ⟨rfl, rfl⟩
  clear HRM
  go_wp2_with fail
  go_loopw [23] (fun s23 wr => ∃ i : Nat, s23 = .int .i64 (i : Int) ∧ i ≤ ws.length ∧ Kp ws w wr ∧ ∀ j (hj : j < ws.length), Wi wr ws[j] (if j < i then L ws[j] - n else L ws[j])) (fun s23 _ => ws.length - (intOf s23).toNat)
  case atStart => exact ⟨0, rfl, by omega, Kp.refl _ _, fun j hj => by rw [if_neg (by omega)]; exact HW.out _ (List.getElem_mem hj)⟩
  case round =>
    obtain ⟨i, rfl, hi, hkp, hwi⟩ := hrel
    by_cases hlt : i < ws.length
    · obtain ⟨a', c', he, hrow⟩ := HR.out wr hkp
      cases he
      obtain ⟨g, rfl, hg, hc⟩ := hrow i (by simpa using hlt)
      simp only [List.getElem_map] at hc
      have hwi0 := hwi i hlt
      rw [if_neg (by omega)] at hwi0
      have HTA := Lib.hid (take_any hwi0 (hok _ (List.getElem_mem hlt)) n en ew (HE.out.kp hkp g1 g2))
      rw [HTK.out (L ws[i]) (List.mem_map.2 ⟨_, List.getElem_mem hlt, rfl⟩)] at HTA
      have HKP := Lib.hid hkp
      have HWI := Lib.hid hwi
      have ha : (0 : Int) ≤ (i : Int) := by omega
      have hb : (i : Int) < (ws.length : Int) := by omega
      clear hwi hkp hwi0 hrow
      go_wp2_with fail
      refine HTA.out.mono ?_
      rintro e w1 ⟨rfl, h2, h3⟩
      go_wp2_with fail
      refine ⟨⟨i + 1, by go_num, by omega, HKP.out.trans (h3.mono (by intro b hb; simp at hb; subst hb; exact List.getElem_mem hlt)), fun j hj => ?_⟩, by simp [intOf]; omega⟩
      by_cases hji : j = i
      · subst hji
        rw [if_pos (by omega)]
        exact h2
      · have hne : ws[j] ∉ [ws[i]] := by
          simp only [List.mem_singleton]
          intro e
          rcases Nat.lt_or_gt_of_ne hji with hl | hl
          · exact List.pairwise_iff_getElem.1 hnd j i hj hlt hl e
          · exact List.pairwise_iff_getElem.1 hnd i j hlt hj hl e.symm
        have := (HWI.out j hj).kp h3 hne
        by_cases hj2 : j < i
        · rw [if_pos (by omega)]; rw [if_pos hj2] at this; exact this
        · rw [if_neg (by omega)]; rw [if_neg hj2] at this; exact this
    · have hge : ¬ (i : Int) < (ws.length : Int) := by omega
      obtain rfl : i = ws.length := by omega
      go_wp2_with fail
      go_ret
      refine ⟨rfl, fun b hb => ?_, hkp⟩
      obtain ⟨j, hj, rfl⟩ := List.mem_iff_getElem.1 hb
      have := hwi j hj
      rw [if_pos hj] at this
      exact this
end Go.Proofs.YtfgceakoakcccaaDoor
