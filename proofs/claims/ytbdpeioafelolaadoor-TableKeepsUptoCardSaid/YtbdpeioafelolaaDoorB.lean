/-
  THE DOCUMENT's TABLE: room.
-/
import Derived.Test.YtbdpeioafelolaaDoorW
namespace Go.Proofs.YtbdpeioafelolaaDoor
open Go.RowKit

theorem elemH : Tryd.prog.underlying 49 = some (.slice (Tryd.prog.elem 49)) := by kernel_rfl
theorem sizeOfH (w : World) : (sizeOf (Tryd.prog.elem 49)).run Tryd.prog w = .ok 3 w := by kernel_rfl
theorem hslice_h (b o n c : Nat) (hi : Int) (h0 : 0 ≤ hi) (h2 : hi ≤ c) (N : Nat) (hN : N = hi.toNat) (w : World) :
    (Instr.slice 49 (.slice (some ⟨b, o, none⟩) n c) none (some (.int .i64 hi)) none).run Tryd.prog w = .ok (.slice (some ⟨b, o, none⟩) N c) w := by
  subst hN
  rw [run_slice_h w _ _ _ _ elemH .i64 hi h0 h2, sizeOfH]
  simp [Result.andThen_ok, sliced, Addr.add]
/-- The headers ahead of the last. -/
theorem Hs.init {w : World} {a : Option Addr} {n c : Nat} {l : List Hd} {g : Hd} (h : Hs w a n c (l ++ [g])) : Hs w a l.length c l := by
  have hl := h.len
  have hle := h.le
  simp at hl
  refine ⟨rfl, by omega, h.max, h.nil, fun i hi => ?_⟩
  obtain ⟨b, o, e, h0, h1, h2⟩ := h.row i (by simp; omega)
  rw [List.getElem_append_left hi] at h0 h1
  exact ⟨b, o, e, h0, h1, h2⟩
theorem total_rev : ∀ l : List Hd, total l.reverse = total l
  | [] => rfl
  | h :: l => by rw [List.reverse_cons, total_app, total_rev l]; simp [total]; omega
theorem Dt.put {wr w1 : World} {x m n : Nat} {L L' : List Hd} {ad : Option Addr} {c' : Nat} (hd : Dt wr x L m) (hb : Below wr.heap.size wr w1) (hn : n = L'.length) (how : HOwn w1 (x + 1) (.slice ad n c') L') :
    Dt (w1.setCell ⟨x, 0, none⟩ (.slice ad n c')) x L' m := by
  subst hn
  have hl := hd.lt
  obtain ⟨a, c, h1, _⟩ := (hd.below hb).row
  refine ⟨⟨ad, c', cell_setS w1 x 0 _ _ h1, how.kp ((Kp.refl x w1).set 0 _) (by omega)⟩, ?_, fun i => ?_⟩
  · rw [cell_setN w1 x 0 1 _ (by omega)]
    exact (hd.below hb).most
  · rw [World.frozen?_setCell]
    exact (hd.below hb).z i
def lenAt (w : World) (x : Nat) : Nat := match w.cell? ⟨x, 0, none⟩ with
  | some (.slice _ n _) => n
  | _ => 0
def RoomRel (x m n : Nat) (M : List Hd) (w wr : World) : Prop := ∃ N : List Hd, Dt wr x N.reverse m ∧ Hid (shr (m - n) M = shr (m - n) N) ∧ total N ≤ 4096 ∧ Kp x w wr
set_option maxRecDepth 100000 in
set_option maxHeartbeats 4000000 in
theorem room_any (x m n : Nat) (M : List Hd) (w : World) (h : Dt w x M.reverse m) (hM : total M ≤ 4096) (hm : m ≤ 4096) (hn : n ≤ 1000000000000000) :
    Calls Tryd.prog 33 #[.pointer (some ⟨x, 0, none⟩), .int .i64 (n : Int)] w fun e w' => e = .returned (.tuple #[]) ∧ Dt w' x (shr (m - n) M).reverse m ∧ Kp x w w' := by
  go_enter Tryd.func33, Tryd.ntmps33
  go_wp2
  go_loopw [4] (fun _ wr => RoomRel x m n M w wr) (fun _ wr => lenAt wr x)
  case atStart => exact ⟨M, h, Lib.hid rfl, hM, Kp.refl _ _⟩
  case round =>
    obtain ⟨N, hd, hs, hN, hk⟩ := hrel
    clear h
    cases N with
    | nil =>
      obtain ⟨a, c, q0, hown⟩ := hd.row
      have q1 := hd.most
      simp only [List.reverse_nil, List.length_nil] at q0
      go_upto_region 0 with fail
      go_quiet (fail)
      all_goals go_wp2
      all_goals go_end0
      all_goals refine ⟨rfl, ?_, hk.drewN _⟩
      all_goals rw [show shr (m - n) M = [] from hs.out]
      all_goals exact hd.below (bdN (Below.refl _ _) _)
    | cons g N =>
      obtain ⟨a, c, q0, hown⟩ := hd.row
      obtain ⟨a', c', e, HS⟩ := hown.hs
      cases e
      have HD := Lib.hid hd
      have hlen : (g :: N).reverse.length = N.length + 1 := by simp
      have hge := total_ge (g :: N)
      simp only [List.length_cons] at hge
      rw [hlen] at q0 HS
      rw [List.reverse_cons] at HS
      have hll : lenAt wr x = N.length + 1 := by unfold lenAt; rw [q0]
      have q1 := hd.most
      have HSZ : Hid (∀ W, Below wr.heap.size wr W → Calls Tryd.prog 35 #[.pointer (some ⟨x, 0, none⟩)] W fun e w' => e = .returned (.int .i64 (total (g :: N) : Int)) ∧ w'.cell? ⟨x, 0, none⟩ = some (.slice a (N.length + 1) c) ∧ w'.cell? ⟨x, 1, none⟩ = some (.int .i64 (m : Int)) ∧ Below wr.heap.size wr w') := Lib.hid (fun W hW => by
        refine (dsize_any x m _ W (HD.out.below hW) (by rw [total_rev]; omega)).mono ?_
        rintro e w' ⟨rfl, hb⟩
        have hxl := HD.out.lt
        rw [total_rev]
        have hB : Below wr.heap.size wr w' := hW.trans (hb.mono hW.size)
        exact ⟨rfl, (hB.cell (p := ⟨x, 0, none⟩) hxl).trans q0, (hB.cell (p := ⟨x, 1, none⟩) hxl).trans q1, hB⟩)
      have hT0 : 32 ≤ total (g :: N) := by omega
      have HTT : Hid (total (g :: N) = sizeH g + total N) := Lib.hid rfl
      have HSH : Hid (∀ y, y < total (g :: N) → shr y (g :: N) = shr y N) := Lib.hid (fun y hy => by rw [shr, if_pos hy])
      have HSI : Hid (∀ y, ¬ y < total (g :: N) → shr y (g :: N) = g :: N) := Lib.hid (fun y hy => by rw [shr, if_neg hy])
      generalize total (g :: N) = T at hN hge HSZ hT0 HTT HSH HSI
      obtain ⟨b, o, ha, _⟩ := HS.row 0 (by simp)
      subst ha
      have hcl := HS.le
      have hz := hd.z 0
      have hwn : IntKind.i64.wrap (N.length : Int) = (N.length : Int) := IntWalk.i64_in _ (by omega)
      have hn0 : (0 : Int) ≤ (N.length : Int) := by omega
      have hnc : (N.length : Int) ≤ (c : Int) := by omega
      have HHD : Hid (∀ W, Below wr.heap.size wr W → Calls Tryd.prog 44 #[.slice (some ⟨b, o, none⟩) N.length c] W fun e w' => ∃ (ad : Option Addr) (c' : Nat), e = .returned (.slice ad N.length c') ∧ HOwn w' (x + 1) (.slice ad N.length c') N.reverse ∧ w'.cell? ⟨x, 0, none⟩ = some (.slice (some ⟨b, o, none⟩) (N.length + 1) c) ∧ w'.frozen? ⟨x, 0, none⟩ = false ∧ Below wr.heap.size wr w') := Lib.hid (fun W hW => by
        have hi := (HS.kept hW).init
        rw [List.length_reverse] at hi
        refine (headers_any _ _ c N.reverse W hi (by omega)).mono ?_
        rintro e w' ⟨ad, c', rfl, how, hb⟩
        have hxl := HD.out.lt
        have hB : Below wr.heap.size wr w' := hW.trans (hb.mono hW.size)
        have hbx := hB.block x hxl
        have hsz := hW.size
        exact ⟨ad, c', rfl, how.mono (by omega), (hB.cell (p := ⟨x, 0, none⟩) hxl).trans q0, by rw [frozen_of_block hbx]; exact hz, hB⟩)
      by_cases hc : m < T + n
      · have hdc : decide ((m : Int) < IntKind.i64.wrap ((T : Int) + (n : Int))) = true := by rw [IntWalk.i64_in _ (by omega), decide_eq_true_iff]; omega
        clear hd hown HS hz
        go_upto_region 0 with fail
        go_region_held3 (fun w' => w'.cell? ⟨x, 0, none⟩ = some (.slice (some ⟨b, o, none⟩) (N.length + 1) c) ∧ w'.cell? ⟨x, 1, none⟩ = some (.int .i64 (m : Int)) ∧ Below wr.heap.size wr w') (refine ⟨?_, ?_, ?_⟩ <;> first | assumption | (exact Below.drew (Below.refl _ _)) | (refine Below.drew ?_; assumption)) (first | (go_at_call 35; refine (HSZ.out _ (by first | assumption | exact Below.drew (Below.refl _ _) | exact Below.drew (by assumption))).mono ?_; rintro e w' ⟨rfl, hw0, hw1, hw2⟩))
        all_goals go_upto_region 1 with fail
        all_goals go_region_law (go_simp; (with_reducible_and_instances refine Calls.mono (HHD.out _ (by first | assumption | exact Below.drew (by assumption))) ?_); rintro e w1 ⟨ad, c', rfl, how, hx0, hxz, hbx⟩; go_simp)
        all_goals go_wp2
        all_goals exact ⟨⟨N, HD.out.put hbx (by simp) how, Lib.hid (by rw [hs.out]; exact HSH.out _ (by omega)), by have := HTT.out; omega, hk.trans ((Kp.of_below hbx).set _ _)⟩, by
          have hx1 : lenAt (w1.setCell ⟨x, 0, none⟩ (.slice ad N.length c')) x = N.length := by
            unfold lenAt; rw [cell_setS w1 x 0 _ _ hx0]
          omega⟩
      · have hdc : decide ((m : Int) < IntKind.i64.wrap ((T : Int) + (n : Int))) = false := by rw [IntWalk.i64_in _ (by omega), decide_eq_false_iff_not]; omega
        clear hd hown HS hz
        go_upto_region 0 with fail
        go_region_held3 (fun w' => w'.cell? ⟨x, 0, none⟩ = some (.slice (some ⟨b, o, none⟩) (N.length + 1) c) ∧ w'.cell? ⟨x, 1, none⟩ = some (.int .i64 (m : Int)) ∧ Below wr.heap.size wr w') (refine ⟨?_, ?_, ?_⟩ <;> first | assumption | (exact Below.drew (Below.refl _ _)) | (refine Below.drew ?_; assumption)) (first | (go_at_call 35; refine (HSZ.out _ (by first | assumption | exact Below.drew (Below.refl _ _) | exact Below.drew (by assumption))).mono ?_; rintro e w' ⟨rfl, hw0, hw1, hw2⟩))
        all_goals go_wp2
        all_goals go_end0
        all_goals refine ⟨rfl, ?_, hk.trans (Kp.of_below (by assumption))⟩
        all_goals rw [show shr (m - n) M = g :: N from hs.out.trans (HSI.out _ (by omega))]
        all_goals exact HD.out.below (by assumption)
end Go.Proofs.YtbdpeioafelolaaDoor
