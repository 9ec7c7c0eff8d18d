import Derived.Test.YtlkieeindnpidaaDoorTtIh
import Derived.Deep.RegionLaw
import Derived.Deep.AppendLies
import Derived.Test.YtlkieeindnpidaaDoorTtD

namespace Go.Proofs.YtlkieeindnpidaaDoor.Tt
open Go.RowKit

def HdRel (n : Nat) (l : List Hd) (w : World) (s3 s4 : Value) (wr : World) : Prop := ∃ (k N c : Nat) (ad : Option Addr), s4 = .int .i64 (k : Int) ∧ s3 = .slice ad N c ∧ Hid (N = (l.take k).length) ∧ k ≤ n ∧ HOwn wr w.heap.size (.slice ad N c) (l.take k) ∧ Below w.heap.size w wr
set_option maxRecDepth 100000 in
set_option maxHeartbeats 4000000 in
theorem headers_any (a : Option Addr) (n c : Nat) (l : List Hd) (w : World) (hs : Hs w a n c l) (hn : n ≤ 1000) : Calls Tryd.prog 28 #[.slice a n c] w fun e w' => ∃ (ad : Option Addr) (c' : Nat), e = .returned (.slice ad n c') ∧ HOwn w' w.heap.size (.slice ad n c') l ∧ Below w.heap.size w w' := by
  have HS := Lib.hid hs
  have HL := Lib.hid hs.len
  clear hs
  go_enter Tryd.func28, Tryd.ntmps28
  go_wp2_with (at_make; refine wp_make_h rfl _ _ rfl (n : Int) rfl rfl (by omega) (by omega) w.heap.size (Nat.le_refl _) ?_; intro w1 ad1 hown1 hb1)
  go_loopw [3, 4] (fun s3 s4 wr => HdRel n l w s3 s4 wr) (fun _ s4 _ => n - (intOf s4).toNat)
  case atStart => exact ⟨0, 0, _, _, rfl, rfl, Lib.hid (by simp), by omega, by simpa using hown1, hb1⟩
  case round =>
    obtain ⟨k, N, cc, ad, rfl, rfl, hN, hk, hown, hbw⟩ := hrel
    clear hown1 hb1
    by_cases hlt : k < n
    · obtain ⟨b, o, rfl, e0, e1, e2⟩ := (HS.out.kept hbw).row k (by rw [HL.out]; exact hlt)
      have HT : Hid (l.take (k + 1) = l.take k ++ [l[k]'(by rw [HL.out]; exact hlt)]) := Lib.hid (by rw [List.take_add_one, List.getElem?_eq_getElem (by rw [HL.out]; exact hlt)]; rfl)
      generalize l[k]'(by rw [HL.out]; exact hlt) = g at e0 e1 e2 HT
      have hka : (0 : Int) ≤ (k : Int) := by omega
      have hkb : (k : Int) < (n : Int) := by omega
      have hw := hbw.size
      have hl : (l.take k).length ≤ k := by simp; omega
      go_wp2_with (at_builtin; (refine wp_append_h rfl _ _ rfl _ (l.take k) [g] rfl w.heap.size (hown.alloc _) (some ⟨wr.heap.size, 0, none⟩) 1 1 rfl (hs_new1 _ _) (by omega) (by simp; omega) ?_); intro w3 a3 N3 c3 hN3 hown3 hb3)
      refine ⟨⟨k + 1, N3, c3, a3, by go_num, rfl, ?_, by omega, ?_, ?_⟩, by simp [intOf]; omega⟩
      · rw [HT.out]; exact hN3
      · rw [HT.out]; exact hown3
      · exact (hbw.alloc hw _).trans hb3
    · obtain rfl : k = n := by omega
      have HT : l.take k = l := List.take_of_length_le (by rw [HL.out]; exact Nat.le_refl _)
      rw [HT] at hN hown
      have e : N = k := by rw [hN, HL.out]
      subst e
      go_wp2
      go_ret
      exact ⟨_, _, rfl, hown, hbw⟩
end Go.Proofs.YtlkieeindnpidaaDoor.Tt

namespace Go.Proofs.YtlkieeindnpidaaDoor.Tt
open Go.RowKit

/-- The document's table at block x: its list l (the newest first), its most m. -/
structure Dt (w : World) (x : Nat) (l : List Hd) (m : Nat) : Prop where
  row : ∃ (a : Option Addr) (c : Nat), w.cell? ⟨x, 0, none⟩ = some (.slice a l.length c) ∧ HOwn w (x + 1) (.slice a l.length c) l
  most : w.cell? ⟨x, 1, none⟩ = some (.int .i64 (m : Int))
  z : ∀ i, w.frozen? ⟨x, i, none⟩ = false
theorem Dt.lt {w : World} {x m : Nat} {l : List Hd} (h : Dt w x l m) : x < w.heap.size := cell_lt h.most
theorem cell_of_block {w w' : World} {b i : Nat} (h : w'.heap[b]? = w.heap[b]?) : w'.cell? ⟨b, i, none⟩ = w.cell? ⟨b, i, none⟩ := by simp [World.cell?, h]
theorem frozen_of_block {w w' : World} {b i : Nat} (h : w'.heap[b]? = w.heap[b]?) : w'.frozen? ⟨b, i, none⟩ = w.frozen? ⟨b, i, none⟩ := by simp [World.frozen?, h]
theorem Dt.kp {w w' : World} {x A m : Nat} {l : List Hd} (h : Dt w x l m) (hk : Kp A w w') (hA : A < x) : Dt w' x l m := by
  have hb := hk.block x h.lt (by omega)
  obtain ⟨a, c, h1, h2⟩ := h.row
  exact ⟨⟨a, c, by rw [cell_of_block hb]; exact h1, h2.kp hk (by omega)⟩, by rw [cell_of_block hb]; exact h.most, fun i => by rw [frozen_of_block hb]; exact h.z i⟩
theorem Dt.below {w w' : World} {x m : Nat} {l : List Hd} (h : Dt w x l m) (hk : Below w.heap.size w w') : Dt w' x l m := by
  have hb := hk.block x h.lt
  obtain ⟨a, c, h1, h2⟩ := h.row
  exact ⟨⟨a, c, by rw [cell_of_block hb]; exact h1, h2.kept hk⟩, by rw [cell_of_block hb]; exact h.most, fun i => by rw [frozen_of_block hb]; exact h.z i⟩

set_option maxRecDepth 100000 in
theorem dsizeOf_any (h : Hd) (c : Bool) (w : World) (h1 : h.1.size ≤ 140737488355328) (h2 : h.2.size ≤ 140737488355328) :
    Calls Tryd.prog 60 #[hdN h c] w fun e w' => e = .returned (.int .i64 (sizeH h : Int)) ∧ Below w.heap.size w w' := by
  unfold sizeH
  go_enter Tryd.func60, Tryd.ntmps60
  go_wp2
  go_ret
  exact ⟨by simp, (Below.refl _ w).alloc (Nat.le_refl _) _⟩

theorem total_take (l : List Hd) (k : Nat) : total (l.take k) ≤ total l := by
  have := total_app (l.take k) (l.drop k)
  rw [List.take_append_drop] at this
  omega
def DzRel (x : Nat) (l : List Hd) (w : World) (s3 s4 : Value) (wr : World) : Prop := ∃ k : Nat, s4 = .int .i64 (k : Int) ∧ s3 = .int .i64 (total (l.take k) : Int) ∧ k ≤ l.length ∧ Below w.heap.size w wr
set_option maxRecDepth 100000 in
set_option maxHeartbeats 4000000 in
theorem dsize_any (x m : Nat) (l : List Hd) (w : World) (h : Dt w x l m) (hT : total l ≤ 1000000) : Calls Tryd.prog 93 #[.pointer (some ⟨x, 0, none⟩)] w fun e w' => e = .returned (.int .i64 (total l : Int)) ∧ Below w.heap.size w w' := by
  have HD := Lib.hid h
  clear h
  have hge := total_ge l
  go_enter Tryd.func93, Tryd.ntmps93
  go_wp2
  go_loopw [3, 4] (fun s3 s4 wr => DzRel x l w s3 s4 wr) (fun _ s4 _ => l.length - (intOf s4).toNat)
  case atStart => exact ⟨0, rfl, by simp [total], by omega, Below.refl _ _⟩
  case round =>
    obtain ⟨k, rfl, rfl, hk, hb⟩ := hrel
    obtain ⟨a, c, q0, hown⟩ := (HD.out.below hb).row
    by_cases hlt : k < l.length
    · obtain ⟨a', c', e, HS⟩ := hown.hs
      obtain ⟨b, o, e', e0, e1, e2⟩ := HS.row k hlt
      cases e
      subst e'
      have HT : total (l.take (k + 1)) = total (l.take k) + sizeH l[k] := by
        rw [List.take_add_one, List.getElem?_eq_getElem hlt, total_app]
        simp [total]
      have hle := total_take l (k + 1)
      generalize l[k] = g at e0 e1 e2 HT
      have hsz : sizeH g ≤ 1000000 := by omega
      have hg1 : g.1.size ≤ 140737488355328 := by unfold sizeH at hsz; omega
      have hg2 : g.2.size ≤ 140737488355328 := by unfold sizeH at hsz; omega
      have HSZ := Lib.hid (fun W => dsizeOf_any g false W hg1 hg2)
      have hka : (0 : Int) ≤ (k : Int) := by omega
      have hkb : (k : Int) < (l.length : Int) := by omega
      go_wp2_with fail
      refine (HSZ.out _).mono ?_
      rintro e w' ⟨rfl, hb2⟩
      go_wp2
      exact ⟨⟨k + 1, by go_num, by congr 1; omega, by omega, hb.trans (hb2.mono hb.size)⟩, by simp [intOf]; omega⟩
    · obtain rfl : k = l.length := by omega
      rw [List.take_length]
      go_wp2
      go_ret
      exact ⟨rfl, hb⟩
end Go.Proofs.YtlkieeindnpidaaDoor.Tt

namespace Go.Proofs.YtlkieeindnpidaaDoor.Tt
open Go.RowKit

theorem elemH : Tryd.prog.underlying 50 = some (.slice (Tryd.prog.elem 50)) := by kernel_rfl
theorem sizeOfH (w : World) : (sizeOf (Tryd.prog.elem 50)).run Tryd.prog w = .ok 3 w := by kernel_rfl
theorem hslice_h (b o n c : Nat) (hi : Int) (h0 : 0 ≤ hi) (h2 : hi ≤ c) (N : Nat) (hN : N = hi.toNat) (w : World) :
    (Instr.slice 50 (.slice (some ⟨b, o, none⟩) n c) none (some (.int .i64 hi)) none).run Tryd.prog w = .ok (.slice (some ⟨b, o, none⟩) N c) w := by
  subst hN
  rw [run_slice_h w _ _ _ _ elemH .i64 hi h0 h2, sizeOfH]
  simp [Result.andThen_ok, sliced, Addr.add]
/-- The headers ahead of the last. -/
theorem Hs.init {w : World} {a : Option Addr} {n c : Nat} {l : List Hd} {g : Hd} (h : Hs w a n c (l ++ [g])) : Hs w a l.length c l := by
  have hl := h.len
  have hle := h.le
  simp at hl
  refine ⟨rfl, by omega, h.max, h.nil, fun i hi => ?_⟩
  obtain ⟨b, o, e, h0, h1, h2⟩ := h.row i (by simp; omega)
  rw [List.getElem_append_left hi] at h0 h1
  exact ⟨b, o, e, h0, h1, h2⟩
theorem total_rev : ∀ l : List Hd, total l.reverse = total l
  | [] => rfl
  | h :: l => by rw [List.reverse_cons, total_app, total_rev l]; simp [total]; omega
theorem Dt.put {wr w1 : World} {x m n : Nat} {L L' : List Hd} {ad : Option Addr} {c' : Nat} (hd : Dt wr x L m) (hb : Below wr.heap.size wr w1) (hn : n = L'.length) (how : HOwn w1 (x + 1) (.slice ad n c') L') :
    Dt (w1.setCell ⟨x, 0, none⟩ (.slice ad n c')) x L' m := by
  subst hn
  have hl := hd.lt
  obtain ⟨a, c, h1, _⟩ := (hd.below hb).row
  refine ⟨⟨ad, c', cell_setS w1 x 0 _ _ h1, how.kp ((Kp.refl x w1).set 0 _) (by omega)⟩, ?_, fun i => ?_⟩
  · rw [cell_setN w1 x 0 1 _ (by omega)]
    exact (hd.below hb).most
  · rw [World.frozen?_setCell]
    exact (hd.below hb).z i
def lenAt (w : World) (x : Nat) : Nat := match w.cell? ⟨x, 0, none⟩ with
  | some (.slice _ n _) => n
  | _ => 0
def RoomRel (x m n : Nat) (M : List Hd) (w wr : World) : Prop := ∃ N : List Hd, Dt wr x N.reverse m ∧ Hid (shr (m - n) M = shr (m - n) N) ∧ total N ≤ 4096 ∧ Kp x w wr
set_option maxRecDepth 100000 in
set_option maxHeartbeats 4000000 in
theorem room_any (x m n : Nat) (M : List Hd) (w : World) (h : Dt w x M.reverse m) (hM : total M ≤ 4096) (hm : m ≤ 4096) (hn : n ≤ 1000000000000000) :
    Calls Tryd.prog 78 #[.pointer (some ⟨x, 0, none⟩), .int .i64 (n : Int)] w fun e w' => e = .returned (.tuple #[]) ∧ Dt w' x (shr (m - n) M).reverse m ∧ Kp x w w' := by
  go_enter Tryd.func78, Tryd.ntmps78
  go_wp2
  go_loopw [4] (fun _ wr => RoomRel x m n M w wr) (fun _ wr => lenAt wr x)
  case atStart => exact ⟨M, h, Lib.hid rfl, hM, Kp.refl _ _⟩
  case round =>
    obtain ⟨N, hd, hs, hN, hk⟩ := hrel
    clear h
    cases N with
    | nil =>
      obtain ⟨a, c, q0, hown⟩ := hd.row
      have q1 := hd.most
      simp only [List.reverse_nil, List.length_nil] at q0
      go_upto_region 0 with fail
      go_quiet (fail)
      all_goals go_wp2
      all_goals go_end0
      all_goals refine ⟨rfl, ?_, hk.drewN _⟩
      all_goals rw [show shr (m - n) M = [] from hs.out]
      all_goals exact hd.below (bdN (Below.refl _ _) _)
    | cons g N =>
      obtain ⟨a, c, q0, hown⟩ := hd.row
      obtain ⟨a', c', e, HS⟩ := hown.hs
      cases e
      have HD := Lib.hid hd
      have hlen : (g :: N).reverse.length = N.length + 1 := by simp
      have hge := total_ge (g :: N)
      simp only [List.length_cons] at hge
      rw [hlen] at q0 HS
      rw [List.reverse_cons] at HS
      have hll : lenAt wr x = N.length + 1 := by unfold lenAt; rw [q0]
      have q1 := hd.most
      have HSZ : Hid (∀ W, Below wr.heap.size wr W → Calls Tryd.prog 93 #[.pointer (some ⟨x, 0, none⟩)] W fun e w' => e = .returned (.int .i64 (total (g :: N) : Int)) ∧ w'.cell? ⟨x, 0, none⟩ = some (.slice a (N.length + 1) c) ∧ w'.cell? ⟨x, 1, none⟩ = some (.int .i64 (m : Int)) ∧ Below wr.heap.size wr w') := Lib.hid (fun W hW => by
        refine (dsize_any x m _ W (HD.out.below hW) (by rw [total_rev]; omega)).mono ?_
        rintro e w' ⟨rfl, hb⟩
        have hxl := HD.out.lt
        rw [total_rev]
        have hB : Below wr.heap.size wr w' := hW.trans (hb.mono hW.size)
        exact ⟨rfl, (hB.cell (p := ⟨x, 0, none⟩) hxl).trans q0, (hB.cell (p := ⟨x, 1, none⟩) hxl).trans q1, hB⟩)
      have hT0 : 32 ≤ total (g :: N) := by omega
      have HTT : Hid (total (g :: N) = sizeH g + total N) := Lib.hid rfl
      have HSH : Hid (∀ y, y < total (g :: N) → shr y (g :: N) = shr y N) := Lib.hid (fun y hy => by rw [shr, if_pos hy])
      have HSI : Hid (∀ y, ¬ y < total (g :: N) → shr y (g :: N) = g :: N) := Lib.hid (fun y hy => by rw [shr, if_neg hy])
      generalize total (g :: N) = T at hN hge HSZ hT0 HTT HSH HSI
      obtain ⟨b, o, ha, _⟩ := HS.row 0 (by simp)
      subst ha
      have hcl := HS.le
      have hz := hd.z 0
      have hwn : IntKind.i64.wrap (N.length : Int) = (N.length : Int) := IntWalk.i64_in _ (by omega)
      have hn0 : (0 : Int) ≤ (N.length : Int) := by omega
      have hnc : (N.length : Int) ≤ (c : Int) := by omega
      have HHD : Hid (∀ W, Below wr.heap.size wr W → Calls Tryd.prog 28 #[.slice (some ⟨b, o, none⟩) N.length c] W fun e w' => ∃ (ad : Option Addr) (c' : Nat), e = .returned (.slice ad N.length c') ∧ HOwn w' (x + 1) (.slice ad N.length c') N.reverse ∧ w'.cell? ⟨x, 0, none⟩ = some (.slice (some ⟨b, o, none⟩) (N.length + 1) c) ∧ w'.frozen? ⟨x, 0, none⟩ = false ∧ Below wr.heap.size wr w') := Lib.hid (fun W hW => by
        have hi := (HS.kept hW).init
        rw [List.length_reverse] at hi
        refine (headers_any _ _ c N.reverse W hi (by omega)).mono ?_
        rintro e w' ⟨ad, c', rfl, how, hb⟩
        have hxl := HD.out.lt
        have hB : Below wr.heap.size wr w' := hW.trans (hb.mono hW.size)
        have hbx := hB.block x hxl
        have hsz := hW.size
        exact ⟨ad, c', rfl, how.mono (by omega), (hB.cell (p := ⟨x, 0, none⟩) hxl).trans q0, by rw [frozen_of_block hbx]; exact hz, hB⟩)
      by_cases hc : m < T + n
      · have hdc : decide ((m : Int) < IntKind.i64.wrap ((T : Int) + (n : Int))) = true := by rw [IntWalk.i64_in _ (by omega), decide_eq_true_iff]; omega
        clear hd hown HS hz
        go_upto_region 0 with fail
        go_region_held3 (fun w' => w'.cell? ⟨x, 0, none⟩ = some (.slice (some ⟨b, o, none⟩) (N.length + 1) c) ∧ w'.cell? ⟨x, 1, none⟩ = some (.int .i64 (m : Int)) ∧ Below wr.heap.size wr w') (refine ⟨?_, ?_, ?_⟩ <;> first | assumption | (exact Below.drew (Below.refl _ _)) | (refine Below.drew ?_; assumption)) (first | (go_at_call 93; refine (HSZ.out _ (by first | assumption | exact Below.drew (Below.refl _ _) | exact Below.drew (by assumption))).mono ?_; rintro e w' ⟨rfl, hw0, hw1, hw2⟩))
        all_goals go_upto_region 1 with fail
        all_goals go_region_law (go_simp; (with_reducible_and_instances refine Calls.mono (HHD.out _ (by first | assumption | exact Below.drew (by assumption))) ?_); rintro e w1 ⟨ad, c', rfl, how, hx0, hxz, hbx⟩; go_simp)
        all_goals go_wp2
        all_goals exact ⟨⟨N, HD.out.put hbx (by simp) how, Lib.hid (by rw [hs.out]; exact HSH.out _ (by omega)), by have := HTT.out; omega, hk.trans ((Kp.of_below hbx).set _ _)⟩, by
          have hx1 : lenAt (w1.setCell ⟨x, 0, none⟩ (.slice ad N.length c')) x = N.length := by
            unfold lenAt; rw [cell_setS w1 x 0 _ _ hx0]
          omega⟩
      · have hdc : decide ((m : Int) < IntKind.i64.wrap ((T : Int) + (n : Int))) = false := by rw [IntWalk.i64_in _ (by omega), decide_eq_false_iff_not]; omega
        clear hd hown HS hz
        go_upto_region 0 with fail
        go_region_held3 (fun w' => w'.cell? ⟨x, 0, none⟩ = some (.slice (some ⟨b, o, none⟩) (N.length + 1) c) ∧ w'.cell? ⟨x, 1, none⟩ = some (.int .i64 (m : Int)) ∧ Below wr.heap.size wr w') (refine ⟨?_, ?_, ?_⟩ <;> first | assumption | (exact Below.drew (Below.refl _ _)) | (refine Below.drew ?_; assumption)) (first | (go_at_call 93; refine (HSZ.out _ (by first | assumption | exact Below.drew (Below.refl _ _) | exact Below.drew (by assumption))).mono ?_; rintro e w' ⟨rfl, hw0, hw1, hw2⟩))
        all_goals go_wp2
        all_goals go_end0
        all_goals refine ⟨rfl, ?_, hk.trans (Kp.of_below (by assumption))⟩
        all_goals rw [show shr (m - n) M = g :: N from hs.out.trans (HSI.out _ (by omega))]
        all_goals exact HD.out.below (by assumption)
end Go.Proofs.YtlkieeindnpidaaDoor.Tt

namespace Go.Proofs.YtlkieeindnpidaaDoor.Tt
open Go.RowKit

/-- The cells that are appended. -/
theorem hs_news {w : World} {p : Addr} {n c : Nat} {m : List Hd} (hsl : Hs w (some p) n c m) : ∀ j u, (hcells m)[j]? = some u → w.cell? (p.add j) = some u := by
  intro j u hj
  have hj3 := hcells_inv hj
  obtain ⟨b, o', e, h0, h1, h2⟩ := hsl.row (j / 3) hj3
  obtain ⟨g0, g1, g2⟩ := hcells_get m (j / 3) hj3
  cases e
  rw [Addr.add_lit]
  rcases (by omega : j = j / 3 * 3 ∨ j = j / 3 * 3 + 1 ∨ j = j / 3 * 3 + 2) with e | e | e
  · rw [e] at hj
    rw [g0] at hj
    obtain rfl := Option.some.inj hj
    rw [show o' + j = o' + j / 3 * 3 by omega]; exact h0
  · rw [e] at hj
    rw [g1] at hj
    obtain rfl := Option.some.inj hj
    rw [show o' + j = o' + j / 3 * 3 + 1 by omega]; exact h1
  · rw [e] at hj
    rw [g2] at hj
    obtain rfl := Option.some.inj hj
    rw [show o' + j = o' + j / 3 * 3 + 2 by omega]; exact h2
/-- 'append(s, x...)' as a step of a region that draws its order. -/
theorem step_append_h {w : World} {ops : Array Oper} {o : Oper} {a : Act} {K : Act → World → Prop} {Q : Exit → Act → World → Prop} {E : Prop}
    (hgd : o.guard = none) (s x : Operand) (ho : o.op = .call { callee := .builtin .append, args := #[s, x], argTypes := #[50, 50] })
    (v : Value) (l m : List Hd) (hs : a.eval s = v) (B : Nat) (hown : HOwn w B v l) (ad : Option Addr) (n c : Nat) (hx : a.eval x = .slice ad n c) (hsl : Hs w ad n c m)
    (hbytes : l.length + n ≤ 1000000) (hbase : B ≤ w.heap.size)
    (hK : ∀ w' ad' N' c', Hid (N' = (l ++ m).length) → HOwn w' B (.slice ad' N' c') (l ++ m) → Below B w w' → K (a.put o.dst (.slice ad' N' c')) w') :
    if Region.wanted o (yielded ops a.tmps) = true then Oper.wp Tryd.prog o a w K Q else E := by
  have hw : Region.wanted o (yielded ops a.tmps) = true := by simp [Region.wanted, hgd]
  rw [if_pos hw]
  obtain ⟨i0, hi, hz0, hz1, hz2⟩ := info_parts infoH
  have hlen := hsl.len
  cases ad with
  | none =>
    obtain rfl := hsl.nil rfl
    have hn : n = 0 := by have := hsl.le; omega
    subst hn
    obtain rfl : m = [] := List.length_eq_zero_iff.1 hlen
    obtain ⟨ad', c', rfl, _⟩ := hown.hs
    have hrun := run_append_owned_none (P := Tryd.prog) (w := w) B 50 o.type _ i0 3 Tryd.underlying50 hi _ l.length _ hown
    unfold Oper.wp
    simp [execOp, ho, resolve, invoke, builtin, hs, hx, hrun, Result.andThen]
    exact hK w ad' l.length c' (by simp [Hid]) (by simpa using hown) (Below.refl _ _)
  | some p =>
    obtain ⟨v', w', hr, h2, h3, _, _⟩ := run_append_own_at (P := Tryd.prog) w B 50 o.type _ i0 (.agg #[.string ⟨#[]⟩, .string ⟨#[]⟩, .bool false]) 3 40 Tryd.underlying50 hi hz0 hz1 hz2 rfl (by decide) v l.length (hcells l) hown p n c (hcells m)
      (by rw [hcells_len]; omega) (hs_news hsl) (hcells_one m) (by unfold maxLen; omega) (by omega) hbase
    have h1' : HOwn w' B v' (l ++ m) := by
      unfold HOwn
      rw [List.length_append, hcells_app, hlen]; exact h2
    obtain ⟨ad', c', rfl, _⟩ := h1'.hs
    unfold Oper.wp
    simp [execOp, ho, resolve, invoke, builtin, hs, hx, hr, Result.andThen]
    have hfin := hK w' ad' (l ++ m).length c' (Lib.hid rfl) h1' (hown.below h3 hbase)
    rw [List.length_append] at hfin
    exact hfin

/-- A new block of one header is the call's own. -/
theorem hown_new1 (w : World) (B : Nat) (h : Hd) (hB : B ≤ w.heap.size) : HOwn (w.alloc (.cells #[.string h.1, .string h.2, .bool false] 77)) B (.slice (some ⟨w.heap.size, 0, none⟩) 1 1) [h] :=
  ⟨rfl, Or.inr ⟨w.heap.size, 1, #[.string h.1, .string h.2, .bool false], rfl, hB, (by first | (simp; done) | (simp [World.alloc_eq]; done) | (show (w.heap.push _)[w.heap.size]? = _; simp)), Nat.le_refl _, by unfold maxLen; omega, rfl, rfl⟩⟩
set_option maxRecDepth 100000 in
theorem dnew_any (m : Nat) (w : World) (hm : m ≤ 4096) : Calls Tryd.prog 52 #[.int .i64 (m : Int)] w fun e w' => e = .returned (.pointer (some ⟨w.heap.size, 0, none⟩)) ∧ Dt w' w.heap.size [] m ∧ Below w.heap.size w w' := by
  go_enter Tryd.func52, Tryd.ntmps52
  go_wp2
  go_ret
  refine ⟨rfl, ⟨⟨none, 0, by simp, HOwn.nil _ _⟩, by simp, fun i => by simp⟩, (Below.refl _ w).alloc (Nat.le_refl _) _⟩
set_option maxRecDepth 100000 in
theorem dresize_any (x m n : Nat) (M : List Hd) (w : World) (h : Dt w x M.reverse m) (hM : total M ≤ 4096) (hm : n ≤ 4096) :
    Calls Tryd.prog 54 #[.pointer (some ⟨x, 0, none⟩), .int .i64 (n : Int)] w fun e w' => e = .returned (.tuple #[]) ∧ Dt w' x (shr n M).reverse n ∧ Kp x w w' := by
  have q1 := h.most
  have hz := h.z 1
  have hl := h.lt
  have h' : Dt (w.setCell ⟨x, 1, none⟩ (.int .i64 (n : Int))) x M.reverse n := by
    obtain ⟨a, c, h1, h2⟩ := h.row
    exact ⟨⟨a, c, by rw [cell_setN w x 1 0 _ (by omega)]; exact h1, h2.kp ((Kp.refl x w).set 1 _) (by omega)⟩, cell_setS w x 1 _ _ q1, fun i => by rw [World.frozen?_setCell]; exact h.z i⟩
  have HR := Lib.hid (room_any x n 0 M _ h' hM hm (by omega))
  clear h'
  go_enter Tryd.func54, Tryd.ntmps54
  go_wp2_with fail
  refine HR.out.mono ?_
  rintro e w' ⟨rfl, hd, hk⟩
  go_wp2
  go_end0
  exact ⟨rfl, hd, ((Kp.refl x w).set 1 _).trans hk⟩
set_option maxRecDepth 100000 in
set_option maxHeartbeats 4000000 in
theorem dadd_any (x m : Nat) (M : List Hd) (h : Hd) (c : Bool) (w : World) (hd : Dt w x M.reverse m) (hM : total M ≤ m) (hm : m ≤ 4096) (h1 : h.1.size ≤ 140737488351232) (h2 : h.2.size ≤ 140737488351232) :
    Calls Tryd.prog 83 #[.pointer (some ⟨x, 0, none⟩), hdN h c] w fun e w' => e = .returned (.tuple #[]) ∧ Dt w' x (addM m M h).reverse m ∧ Kp x w w' := by
  have hb0 : Below w.heap.size w (w.alloc (.cells #[.string h.1, .string h.2, .bool c] 77)) := (Below.refl _ w).alloc (Nat.le_refl _) _
  have HSZ := Lib.hid (fun W => dsizeOf_any h c W (by omega) (by omega))
  have hs32 : sizeH h ≤ 1000000000000000 := by unfold sizeH; omega
  have HRM := Lib.hid (fun W (hW : Dt W x M.reverse m) => room_any x m (sizeH h) M W hW (by omega) hm hs32)
  have HD := Lib.hid hd
  have hxl := hd.lt
  have HAD : Hid (addM m M h = if sizeH h ≤ m then shr (m - sizeH h) M ++ [h] else []) := Lib.hid rfl
  have HLE := Lib.hid (shr_le (m - sizeH h) M)
  generalize sizeH h = G at HSZ hs32 HRM HAD HLE
  clear hd
  go_enter Tryd.func83, Tryd.ntmps83
  go_wp2_with fail
  refine (HSZ.out _).mono ?_
  rintro e w1 ⟨rfl, hb1⟩
  have g0 := (hb1.cell (p := ⟨w.heap.size, 0, none⟩) (by simp)).trans (by simp : _ = some (.string h.1))
  have g1 := (hb1.cell (p := ⟨w.heap.size, 1, none⟩) (by simp)).trans (by simp : _ = some (.string h.2))
  have hz1 := hb1.size
  simp only [World.size_alloc] at hz1
  have hB1 : Below w.heap.size w w1 := hb0.trans (hb1.mono (by simp))
  have hd1 := HD.out.below hB1
  have HR1 := Lib.hid (HRM.out w1 hd1)
  clear HSZ HRM hb0 hb1 hd1
  go_wp2_with fail
  refine HR1.out.mono ?_
  rintro e w2 ⟨rfl, hd2, hk2⟩
  have hbb := hk2.block w.heap.size (by omega) (by omega)
  have k0 := (cell_of_block hbb).trans g0
  have k1 := (cell_of_block hbb).trans g1
  have hz2 := hk2.size
  have q1 := hd2.most
  have hz := hd2.z 0
  obtain ⟨a, cp, q0, how⟩ := hd2.row
  obtain ⟨a', c', e, HS⟩ := how.hs
  cases e
  have hK2 : Kp x w w2 := (Kp.of_below hB1).trans hk2
  have HD2 := Lib.hid hd2
  clear HR1 hd2 hk2 hbb g0 g1
  generalize hN : shr (m - G) M = N at HD2 HAD HLE q0 HS how
  have HN := Lib.hid hN
  clear hN
  have hnl : N.reverse.length = N.length := by simp
  have hge := total_ge N
  have hTN := HLE.out.1
  rw [hnl] at q0
  by_cases hG : G ≤ m
  · have hdc : decide ((G : Int) ≤ (m : Int)) = true := by simp; omega
    have hne : ¬ x = w2.heap.size := by have := HD2.out.lt; omega
    have hne' : ¬ w2.heap.size = x := fun e => hne e.symm
    have hfa := fun (W : World) (c : Array Value) (t : TypeId) (a : Addr) => frozen?_alloc_cells W c t a
    rw [hnl] at HS
    have HSX := Lib.hid (HS.kept (((Below.refl w2.heap.size w2).alloc (Nat.le_refl _) (.cells #[.string h.1, .string h.2, .bool false] 77)).drew))
    have q0' : (w2.alloc (.cells #[.string h.1, .string h.2, .bool false] 77)).cell? ⟨x, 0, none⟩ = some (.slice a N.length cp) := (((Below.refl w2.heap.size w2).alloc (Nat.le_refl _) (.cells #[.string h.1, .string h.2, .bool false] 77)).cell (p := ⟨x, 0, none⟩) (by simp only []; omega)).trans q0
    have hxl2 : x + 1 ≤ w2.heap.size := by omega
    clear HS how HLE
    go_upto_region 4 with fail
    go_region_law (first | (refine step_append_h rfl _ _ rfl _ [h] N.reverse rfl w2.heap.size ((hown_new1 w2 w2.heap.size h (Nat.le_refl _)).kept (Below.drew (Below.refl _ _))) a N.length cp rfl HSX.out (by first | (simp; done) | (simp; omega)) (by first | (simp; done) | (simp; omega)) ?_; intro w9 a9 N9 c9 hN9 hown9 hb9; (have hB9 : Below w2.heap.size w2 w9 := (((Below.refl w2.heap.size w2).alloc (Nat.le_refl _) _).drew).trans hb9); have hx9 := (hB9.cell (p := ⟨x, 0, none⟩) (by simp only []; omega)).trans q0; have hz9 := (hB9.frozen (p := ⟨x, 0, none⟩) (by simp only []; omega)).trans hz))
    all_goals go_wp2
    all_goals go_end0
    all_goals refine ⟨rfl, ?_, hK2.trans ((Kp.of_below hB9).set _ _)⟩
    all_goals rw [HAD.out, if_pos hG, List.reverse_append]
    all_goals exact HD2.out.put hB9 hN9.out (hown9.mono hxl2)
  · have hdc : decide ((G : Int) ≤ (m : Int)) = false := by simp; omega
    have e : N = [] := by rw [← HN.out, show m - G = 0 by omega, shr_zero]
    subst e
    go_wp2
    go_end0
    refine ⟨rfl, ?_, hK2⟩
    rw [HAD.out, if_neg hG]
    exact HD2.out
end Go.Proofs.YtlkieeindnpidaaDoor.Tt

namespace Go.Proofs.YtlkieeindnpidaaDoor.Tt
open Go.RowKit

theorem nth_rev {M : List Hd} {n : Nat} (h : n < M.reverse.length) : M.reverse[n] = nth M n := by
  have h' : n < M.length := by simpa using h
  unfold nth
  rw [List.getElem_reverse, List.getD_eq_getElem?_getD, List.getElem?_eq_getElem (by omega)]
  simp
/-- The document's Static at any index. -/
theorem staticr_any (M : List Hd) (i : Int) (hi : i < 62 ∨ (M.length : Int) ≤ i - 62) (W : World) : Calls Tryd.prog 104 #[.int .i64 i] W fun e w' => e = .returned (hdO (getM M i)) ∧ Below W.heap.size W w' := by
  by_cases h1 : 1 ≤ i ∧ i < 62
  · obtain ⟨j, rfl⟩ : ∃ j : Nat, i = (j : Int) := ⟨i.toNat, by omega⟩
    have := staticr_yes j (by omega) (by omega) W
    have e : getM M (j : Int) = some (stH (j - 1)) := by
      unfold getM; rw [if_pos (by omega)]
      congr 2
      omega
    rw [e]
    exact this
  · have := staticr_no i (by omega) W
    have e : getM M i = none := by unfold getM; rw [if_neg (by omega), if_neg (by omega)]
    rw [e]
    exact this
theorem fnd_of {name value : ByteArray} {pre l : List Told} {x : Told} (hp : pre ++ [x] <+: l) (hno : ∀ y ∈ pre, hit name value y = false) (hx : hit name value x = true) : fnd name value l = (x.1, true) := by
  obtain ⟨t, rfl⟩ := hp
  have h0 : pre.find? (hit name value) = none := List.find?_eq_none.2 (fun y hy => by simp [hno y hy])
  unfold fnd
  rw [List.append_assoc, List.find?_append, h0]
  simp [hx]
theorem fnd_no {name value : ByteArray} {l : List Told} (hno : ∀ y ∈ l, hit name value y = false) : fnd name value l = (lea name l, false) := by
  have h0 : l.find? (hit name value) = none := List.find?_eq_none.2 (fun y hy => by simp [hno y hy])
  unfold fnd
  rw [h0]
theorem ba_eq {a c : ByteArray} (h : a = c) : (a.toList == c.toList) = true := by subst h; simp
def DF1 (name value : ByteArray) (W2 : World) (s10 s11 : Value) (wr : World) : Prop := ∃ k : Nat, s11 = .int .i64 ((k + 1 : Nat) : Int) ∧ s10 = .int .i64 (lea name (stU k) : Int) ∧ k ≤ 61 ∧ (∀ y ∈ stU k, hit name value y = false) ∧ wr = W2
def DF2 (name value : ByteArray) (M : List Hd) (W2 : World) (s10 s12 : Value) (wr : World) : Prop := ∃ k : Nat, s12 = .int .i64 (k : Int) ∧ s10 = .int .i64 (lea name (stU 61 ++ tabU M k) : Int) ∧ k ≤ M.length ∧ (∀ y ∈ stU 61 ++ tabU M k, hit name value y = false) ∧ wr = W2
set_option maxRecDepth 100000 in
set_option maxHeartbeats 8000000 in
theorem dfind_any (x m : Nat) (name value : ByteArray) (M : List Hd) (w : World) (hd : Dt w x M.reverse m) (hlm : M.length ≤ 1000) :
    Calls Tryd.prog 82 #[.pointer (some ⟨x, 0, none⟩), .string name, .string value] w fun e w' => e = .returned (.tuple #[.int .i64 ((fnd name value (allL M)).1 : Int), .bool (fnd name value (allL M)).2]) ∧ Below w.heap.size w w' := by
  have hB : Below w.heap.size w ((w.alloc (.cells nmA 9)).alloc (.cells vlA 9)) := ((Below.refl _ w).alloc (Nat.le_refl _) _).alloc (by simp) _
  have hd2 := hd.below hB
  have hnm : ∀ i, i < 61 → ((w.alloc (.cells nmA 9)).alloc (.cells vlA 9)).cell? ⟨w.heap.size, i + 1, none⟩ = some (.string (stH i).1) := fun i hi =>
    (((Below.refl _ (w.alloc (.cells nmA 9))).alloc (Nat.le_refl _) (.cells vlA 9)).cell (p := ⟨w.heap.size, i + 1, none⟩) (by simp)).trans (by simpa using nm_at i hi)
  have hvl : ∀ i, i < 61 → ((w.alloc (.cells nmA 9)).alloc (.cells vlA 9)).cell? ⟨w.heap.size + 1, i + 1, none⟩ = some (.string (stH i).2) := fun i hi => by
    have := vl_at i hi
    have e : (w.alloc (.cells nmA 9)).heap.size = w.heap.size + 1 := by simp
    rw [← e]
    simpa using this
  have hlt := hd.lt
  have HB := Lib.hid hB
  have HD := Lib.hid hd2
  have HNM := Lib.hid hnm
  have HVL := Lib.hid hvl
  obtain ⟨a, c, q0, how⟩ := hd2.row
  obtain ⟨a', c', e', HS⟩ := how.hs
  cases e'
  have hrl : M.reverse.length = M.length := by simp
  rw [hrl] at q0
  clear hB hd2 hnm hvl how hd
  go_enter Tryd.func82, Tryd.ntmps82
  go_wp2_with fail
  refine (names_any _).mono ?_
  rintro e w' ⟨rfl, rfl⟩
  go_wp2_with fail
  refine (values_any _).mono ?_
  rintro e w' ⟨rfl, rfl⟩
  have e1 : (w.alloc (.cells nmA 9)).heap.size = w.heap.size + 1 := by simp
  rw [e1]
  generalize (w.alloc (.cells nmA 9)).alloc (.cells vlA 9) = W2 at HB HD HNM HVL q0 HS ⊢
  have HSH := Lib.hid HS
  clear HS e1
  go_wp2_with fail
  go_loopw [10, 11] (fun s10 s11 wr => DF1 name value W2 s10 s11 wr) (fun _ s11 _ => 62 - (intOf s11).toNat)
  case atStart => exact ⟨0, rfl, by simp [stU, lea], by omega, by simp [stU], rfl⟩
  case round =>
    obtain ⟨k, rfl, rfl, hk, hno, hwr⟩ := hrel
    have hwr' := hwr.symm
    subst hwr'
    by_cases hlt : k < 61
    · have e0 := HNM.out k hlt
      have e1 := HVL.out k hlt
      have hs := stU_succ k
      have HL := lea_snoc name (stU k) (k + 1, stH k)
      have HPR := stU_pre M (k := k + 1) (by omega)
      rw [hs] at HPR
      have HNS := fun h => no_snoc (x := (k + 1, stH k)) hno h
      rw [← hs] at HL HNS
      have HIT : hit name value (k + 1, stH k) = (decide ((stH k).1 = name) && decide ((stH k).2 = value)) := rfl
      have HFO := fun h => fnd_of HPR hno h
      generalize stH k = g at e0 e1 HL HNS HIT HFO
      clear HPR hs
      generalize lea name (stU k) = F at HL
      replace HL := Lib.hid HL
      replace HNS := Lib.hid HNS
      replace HFO := Lib.hid HFO
      have hka : (0 : Int) ≤ ((k + 1 : Nat) : Int) := by omega
      have hkb : ((k + 1 : Nat) : Int) < 62 := by omega
      have hkc : ((k + 1 : Nat) : Int) = (k : Int) + 1 := by simp
      by_cases h1 : g.1 = name
      · have hn1 := ba_eq h1
        by_cases h2 : g.2 = value
        · have hn2 := ba_eq h2
          go_wp2
          refine bodyPost_ret (v := .tuple #[.int .i64 (((k + 1 : Nat)) : Int), .bool true]) (by simp [results, Tryd.results82, go_sem]) rfl ⟨?_, HB.out⟩
          rw [HFO.out (by rw [HIT]; simp [h1, h2])]
        · have hn2 := ba_ne h2
          have hno' := HNS.out (by rw [HIT]; simp [h2])
          have hl := HL.out
          rw [if_pos h1] at hl
          by_cases h0 : F = 0
          · have hf0 : ((F : Int) == 0) = true := by rw [h0]; rfl
            rw [if_pos h0] at hl
            go_wp2
            exact ⟨⟨k + 1, by go_num, by rw [hl], by omega, hno', rfl⟩, by simp [intOf]; omega⟩
          · have hf0 : ((F : Int) == 0) = false := by rw [beq_eq_false_iff_ne]; omega
            rw [if_neg h0] at hl
            go_wp2
            exact ⟨⟨k + 1, by go_num, by rw [hl], by omega, hno', rfl⟩, by simp [intOf]; omega⟩
      · have hn1 := ba_ne h1
        have hno' := HNS.out (by rw [HIT]; simp [h1])
        have hl := HL.out
        rw [if_neg h1] at hl
        go_wp2
        exact ⟨⟨k + 1, by go_num, by rw [hl], by omega, hno', rfl⟩, by simp [intOf]; omega⟩
    · obtain rfl : k = 61 := by omega
      have hno61 := hno
      clear HNM HVL
      go_wp2_with fail
      go_loopw [10, 12] (fun s10 s12 wr => DF2 name value M W2 s10 s12 wr) (fun _ s12 _ => M.length - (intOf s12).toNat)
      case atStart => exact ⟨0, rfl, by simp [tabU], by omega, by simpa [tabU] using hno61, rfl⟩
      case round =>
        obtain ⟨k, rfl, rfl, hk, hno, hwr⟩ := hrel
        have hwr' := hwr.symm
        subst hwr'
        clear hno61
        by_cases hlt : k < M.length
        · obtain ⟨b, o, rfl, e0, e1, _⟩ := HSH.out.row k (by rw [hrl]; exact hlt)
          rw [nth_rev] at e0 e1
          have hs := tabU_succ M k
          have HL := lea_snoc name (stU 61 ++ tabU M k) (62 + k, nth M k)
          have HPR := tabU_pre M (k := k + 1) (by omega)
          rw [hs, ← List.append_assoc] at HPR
          have HNS := fun h => no_snoc (x := (62 + k, nth M k)) hno h
          rw [List.append_assoc, ← hs] at HL HNS
          have HIT : hit name value (62 + k, nth M k) = (decide ((nth M k).1 = name) && decide ((nth M k).2 = value)) := rfl
          have HFO := fun h => fnd_of HPR hno h
          generalize nth M k = g at e0 e1 HL HNS HIT HFO
          clear HPR hs
          generalize lea name (stU 61 ++ tabU M k) = F at HL
          replace HL := Lib.hid HL
          replace HNS := Lib.hid HNS
          replace HFO := Lib.hid HFO
          have hka : (0 : Int) ≤ (k : Int) := by omega
          have hkb : (k : Int) < (M.length : Int) := by omega
          have hkc : IntKind.i64.wrap ((62 : Int) + (k : Int)) = (62 : Int) + (k : Int) := IntWalk.i64_in _ (by omega)
          by_cases h1 : g.1 = name
          · have hn1 := ba_eq h1
            by_cases h2 : g.2 = value
            · have hn2 := ba_eq h2
              go_wp2
              refine bodyPost_ret (v := .tuple #[.int .i64 ((62 : Int) + (k : Int)), .bool true]) (by simp [results, Tryd.results82, go_sem]) rfl ⟨?_, HB.out⟩
              rw [HFO.out (by rw [HIT]; simp [h1, h2])]
              simp
            · have hn2 := ba_ne h2
              have hno' := HNS.out (by rw [HIT]; simp [h2])
              have hl := HL.out
              rw [if_pos h1] at hl
              by_cases h0 : F = 0
              · have hf0 : ((F : Int) == 0) = true := by rw [h0]; rfl
                rw [if_pos h0] at hl
                go_wp2
                exact ⟨⟨k + 1, by go_num, by rw [hl]; simp, by omega, hno', rfl⟩, by simp [intOf]; omega⟩
              · have hf0 : ((F : Int) == 0) = false := by rw [beq_eq_false_iff_ne]; omega
                rw [if_neg h0] at hl
                go_wp2
                exact ⟨⟨k + 1, by go_num, by rw [hl], by omega, hno', rfl⟩, by simp [intOf]; omega⟩
          · have hn1 := ba_ne h1
            have hno' := HNS.out (by rw [HIT]; simp [h1])
            have hl := HL.out
            rw [if_neg h1] at hl
            go_wp2
            exact ⟨⟨k + 1, by go_num, by rw [hl], by omega, hno', rfl⟩, by simp [intOf]; omega⟩
        · obtain rfl : k = M.length := by omega
          have hfn := fnd_no hno
          go_wp2_with fail
          refine bodyPost_ret (v := .tuple #[.int .i64 (lea name (stU 61 ++ tabU M M.length) : Int), .bool false]) (by simp [results, Tryd.results82, go_sem]) rfl ⟨?_, HB.out⟩
          unfold allL
          rw [hfn]
end Go.Proofs.YtlkieeindnpidaaDoor.Tt
