/-
  THE LAW TableKeeps: its walk.
-/
import Derived.Test.YtbdpeioafelolaaDoorM
import Derived.Test.YtbdpeioafelolaaDoorKa
import Derived.Deep.DeepCutAuto
namespace Go.Proofs.YtbdpeioafelolaaDoor
open Go.RowKit

theorem Has.blk {w w' : World} {A m : Nat} {M : List Hd} (h : Has w A m M) (hb : w'.heap[A]? = w.heap[A]?) : Has w' A m M := by
  obtain ⟨R, o, hr, ht, hm⟩ := h
  exact ⟨R, o, hr, ht.kept hb, hm⟩
/-- Between two calls. -/
def KeR (n A B : Nat) (w : World) (s8 s9 : Value) (wr : World) : Prop := ∃ (i m : Nat) (M L : List Hd), s9 = .int .i64 (i : Int) ∧ i ≤ n ∧ m ≤ 4096 ∧ Has wr A m M ∧ HOwn wr B s8 L ∧ M.length ≤ L.length ∧ L.length ≤ i ∧ Below w.heap.size w wr
/-- Behind a call. -/
def KeC (i A B : Nat) (w : World) (s8 : Value) (wr : World) : Prop := ∃ (m : Nat) (M L : List Hd), m ≤ 4096 ∧ Has wr A m M ∧ HOwn wr B s8 L ∧ M.length ≤ L.length ∧ L.length ≤ i + 1 ∧ Below w.heap.size w wr
/-- The sum over the headers. -/
def KeS (M : List Hd) (w : World) (s13 s14 : Value) (wr : World) : Prop := ∃ k : Nat, s14 = .int .i64 (k : Int) ∧ s13 = .int .i64 (nsum M k : Int) ∧ k ≤ M.length ∧ Below w.heap.size w wr
/-- The last loop. -/
def KeF (M : List Hd) (w : World) (s19 : Value) (wr : World) : Prop := ∃ k : Nat, s19 = .int .i64 (k : Int) ∧ k ≤ M.length ∧ Below w.heap.size w wr
set_option maxRecDepth 100000 in
set_option maxHeartbeats 8000000 in
theorem keeps_any (x : Int) (a1 : Option Addr) (n1 c1 : Nat) (L1 : List Cal) (w : World) (ev : Value) (hE : w.cell? ⟨0, 0, none⟩ = some ev) (h1 : Cl w a1 n1 c1 L1) :
    Calls Tryd.prog 6 #[.int .i64 x, .slice a1 n1 c1] w fun e w' => e = .returned (.bool true) ∧ Below w.heap.size w w' := by
  have H1 := Lib.hid h1
  have hm1 := h1.max
  have HL1 := Lib.hid h1.len
  have HE := Lib.hid (fun W (hW : Below w.heap.size w W) => (hW.cell (p := ⟨0, 0, none⟩) (cell_lt hE)).trans hE)
  clear h1 hE
  go_enter Tryd.func6, Tryd.ntmps6
  go_wp2_with fail
  refine (first_any _).mono ?_
  rintro e w1 ⟨rfl, hb1⟩
  go_wp2_with fail
  refine (light_any a1 n1 c1 L1 w1 (H1.out.kept hb1)).mono ?_
  rintro e w2 ⟨y1, rfl, hy1, hb2⟩
  have hB2 : Below w.heap.size w w2 := hb1.trans (hb2.mono hb1.size)
  cases y1 with
  | false =>
    go_wp2_with fail
    go_ret
    exact ⟨rfl, hB2⟩
  | true =>
    have hn1 := hy1 rfl
    clear hy1 hb1 hb2
    by_cases hx : 0 ≤ x ∧ x ≤ 4096
    · obtain ⟨m, rfl⟩ : ∃ m : Nat, x = m := ⟨x.toNat, by omega⟩
      have hm : m ≤ 4096 := by omega
      have HCN := Lib.hid (fun W => can_yes m hm W)
      have HNW := Lib.hid (fun W => has_new m hm W)
      clear hx
      go_wp2_with fail
      refine (HCN.out _).mono ?_
      rintro e w' ⟨rfl, rfl⟩
      go_wp2_with fail
      refine (HNW.out _).mono ?_
      rintro e w4 ⟨rfl, hA4, hb4⟩
      have hB4 : Below w.heap.size w w4 := hB2.trans (hb4.mono hB2.size)
      have hwA : w.heap.size ≤ w2.heap.size := hB2.size
      have hAl := hA4.lt
      generalize w2.heap.size = A at hA4 hwA hAl ⊢
      clear hb4 hB2 HCN HNW
      go_wp2_with fail
      go_loopw [8, 9] (fun s8 s9 wr => KeR n1 A (A + 1) w s8 s9 wr) (fun _ s9 _ => n1 - (intOf s9).toNat)
      case atStart => exact ⟨0, m, [], [], rfl, by omega, hm, hA4, HOwn.nil _ _, by simp, by simp, hB4⟩
      case round =>
        obtain ⟨i, m, M, L, rfl, hin, hm, hA, hO, hML, hLi, hBw⟩ := hrel
        clear hA4 hB4
        by_cases hlt : i < n1
        · obtain ⟨b, o, rfl, e0, e1, e2, e3, e4⟩ := (H1.out.kept hBw).row i (by rw [HL1.out]; exact hlt)
          have hsz := H1.out.sz i (by rw [HL1.out]; exact hlt)
          have HCL := Lib.hid (fun W (hW : Below w.heap.size w W) => (H1.out.kept hW).row i (by rw [HL1.out]; exact hlt))
          generalize hC : L1[i]'(by rw [HL1.out]; exact hlt) = C at e0 e1 e2 e3 e4 hsz HCL
          clear hC
          have hia : (0 : Int) ≤ (i : Int) := by omega
          have hib : (i : Int) < (n1 : Int) := by omega
          have HA := Lib.hid hA
          have HO := Lib.hid hO
          have hAl := hA.lt
          clear hA hO
          go_upto_if 56 with (fail)
          go_cut [8] from 51 to 117 (fun s8 wx => KeC i A (A + 1) w s8 wx)
          case first =>
            by_cases hk : C.kind = 1
            · have hkb : ((C.kind : Int) != 1) = false := by rw [hk]; rfl
              clear hk
              have HAD := Lib.hid (has_add HA.out hm C.h C.nev hsz.1 hsz.2)
              go_wp2_with fail
              refine HAD.out.mono ?_
              rintro e w6 ⟨rfl, hA6, hk6⟩
              have hw6 := hBw.trans (hk6.below hwA hBw.size)
              obtain ⟨b', o', e', e0, e1, e2, e3, e4⟩ := HCL.out w6 hw6
              cases e'
              have HO6 := Lib.hid (HO.out.kp hk6 (by omega))
              obtain ⟨ad, cp, hv, hHs⟩ := HO6.out.hs
              subst hv
              have HA6 := Lib.hid hA6
              have hA6l := hA6.lt
              clear HAD HO hA6 hk6 hHs
              go_upto_region 14 with fail
              go_cut [8] from 71 to 86 (fun s8 wx => ∃ (a9 : Option Addr) (N9 c9 : Nat), s8 = .slice a9 N9 c9 ∧ Hid (N9 = (L ++ [C.h]).length) ∧ HOwn wx (A + 1) (.slice a9 N9 c9) (L ++ [C.h]) ∧ Below (A + 1) w6 wx)
              case first =>
               go_region_law (first | (refine step_append_h rfl _ _ rfl _ L [C.h] rfl (A + 1) (HO6.out.kept (((Below.refl _ _).alloc (Nat.le_refl _) _).drew)) _ 1 1 rfl ((hs_new1 _ _).kept (Below.drew (Below.refl _ _))) (by first | (simp; done) | (simp; omega)) (by first | (simp; done) | (simp; omega)) ?_; intro w9 a9 N9 c9 hN9 hown9 hb9))
               all_goals (go_wp2_with fail; go_meet)
               all_goals exact ⟨_, _, _, rfl, hN9, hown9, ((((Below.refl w6.heap.size w6).alloc (Nat.le_refl _) _).drew).mono (by omega)).trans hb9⟩
              case rest =>
              obtain ⟨a9, N9, c9, rfl, hN9, hown9, hB9⟩ := hcut
              obtain ⟨w9, rfl⟩ : ∃ w9 : World, w9 = wc := ⟨_, rfl⟩
              have hBw9 := hw6.trans (hB9.mono (by omega))
              have HA9 := Lib.hid (HA6.out.blk (hB9.block A (by omega)))
              have hz9 := hB9.size
              have HHS := Lib.hid hown9.hs
              have HO9 := Lib.hid hown9
              have hL9 : (L ++ [C.h]).length = L.length + 1 := by simp
              have hN9' : N9 = L.length + 1 := hN9.out.trans hL9
              have HN9 := Lib.hid hN9'
              have hsg : C.h.1.size ≤ 140737488355328 ∧ C.h.2.size ≤ 140737488355328 := by omega
              have HSZ := Lib.hid (fun W => sizeOf_any C.h C.nev W hsg.1 hsg.2)
              have HGT := Lib.hid (has_get HA9.out 62 (by omega))
              have HSM := Lib.hid (fun W => same_any C.h C.h W)
              rw [show decide (C.h = C.h) = true by simp] at HSM
              have hGb : sizeH C.h ≤ 1000000000000000 := by unfold sizeH; omega
              obtain ⟨b9, o9, f0, f1, f2, f3⟩ : ∃ b' o', a9 = some ⟨b', o', none⟩ ∧ w9.cell? ⟨b', o' + L.length * 3, none⟩ = some (.string C.h.1) ∧ w9.cell? ⟨b', o' + L.length * 3 + 1, none⟩ = some (.string C.h.2) ∧ w9.cell? ⟨b', o' + L.length * 3 + 2, none⟩ = some (.bool false) := by
                obtain ⟨a', c', e, H⟩ := HHS.out
                cases e
                have hr := H.row L.length (by simp)
                simpa using hr
              subst f0
              have hbl9 := cell_lt f1
              obtain ⟨hle9, hmx9⟩ : N9 ≤ c9 ∧ c9 ≤ maxLen := by
                obtain ⟨a', c', e, H⟩ := HHS.out
                cases e
                exact ⟨by have := H.le; rw [HN9.out]; simpa using this, H.max⟩
              unfold maxLen at hmx9
              clear hB9 hown9 hL9 hN9 hN9' hw6 HA6 HO6 hA6l hsg e0 e1 e2 e3 e4
              obtain ⟨b', o', e', e0, e1, e2, e3, e4⟩ := HCL.out w9 hBw9
              cases e'
              by_cases hfit : sizeH C.h ≤ m
              · have hgm := addM_first m M C.h hfit
                rw [hgm] at HGT
                simp only [Option.getD_some, Option.isSome_some] at HGT
                clear hgm
                have hdf : decide (sizeH C.h ≤ m) = true := by simpa using hfit
                generalize sizeH C.h = G at HSZ hdf hGb hfit
                go_wp2_with fail
                refine HGT.out.mono ?_
                rintro e w10 ⟨rfl, hb10⟩
                have hz10 := hb10.size
                have hBw10 := hBw9.trans (hb10.mono hBw9.size)
                obtain ⟨b', o', e', e0, e1, e2, e3, e4⟩ := HCL.out w10 hBw10
                cases e'
                have hbl := cell_lt e2
                simp only at hbl
                have hne : ¬ b = w10.heap.size := by omega
                have hne' : ¬ w10.heap.size = b := by omega
                have HMO := Lib.hid (fun W (hW : Below w9.heap.size w9 W) => has_most (HA9.out.below hW))
                have hB12 : Below w9.heap.size w9 ((w10.alloc (.cells #[.string C.h.1, .string C.h.2, .bool false] 34)).alloc (.cells #[.string C.h.1, .string C.h.2, .bool C.nev] 34)) := (hb10.alloc hz10 _).alloc (by simp; omega) _
                have HB12 := Lib.hid hB12
                clear HGT hb10 hB12
                go_wp2_with fail
                refine (HSZ.out _).mono ?_
                rintro e w11 ⟨rfl, rfl⟩
                go_wp2_with fail
                refine (HMO.out _ HB12.out).mono ?_
                rintro e w' ⟨rfl, rfl⟩
                have k0 : ((w10.alloc (.cells #[.string C.h.1, .string C.h.2, .bool false] 34)).alloc (.cells #[.string C.h.1, .string C.h.2, .bool C.nev] 34)).cell? ⟨w10.heap.size, 0, none⟩ = some (.string C.h.1) := by simp
                have k1 : ((w10.alloc (.cells #[.string C.h.1, .string C.h.2, .bool false] 34)).alloc (.cells #[.string C.h.1, .string C.h.2, .bool C.nev] 34)).cell? ⟨w10.heap.size, 1, none⟩ = some (.string C.h.2) := by simp
                have k2 : ((w10.alloc (.cells #[.string C.h.1, .string C.h.2, .bool false] 34)).alloc (.cells #[.string C.h.1, .string C.h.2, .bool C.nev] 34)).cell? ⟨w10.heap.size, 2, none⟩ = some (.bool false) := by simp
                have kl : w10.heap.size < ((w10.alloc (.cells #[.string C.h.1, .string C.h.2, .bool false] 34)).alloc (.cells #[.string C.h.1, .string C.h.2, .bool C.nev] 34)).heap.size := by simp; omega
                clear e0 e1 e2 e3 e4 hne hne'
                generalize (w10.alloc (.cells #[.string C.h.1, .string C.h.2, .bool false] 34)).alloc (.cells #[.string C.h.1, .string C.h.2, .bool C.nev] 34) = w12 at HB12 k0 k1 k2 kl ⊢
                generalize w10.heap.size = B10 at k0 k1 k2 kl ⊢
                have f1' := (HB12.out.cell (p := ⟨b9, o9 + L.length * 3, none⟩) hbl9).trans f1
                have f2' := (HB12.out.cell (p := ⟨b9, o9 + L.length * 3 + 1, none⟩) hbl9).trans f2
                have f3' := (HB12.out.cell (p := ⟨b9, o9 + L.length * 3 + 2, none⟩) hbl9).trans f3
                have hbl12 : b9 < w12.heap.size := Nat.lt_of_lt_of_le hbl9 HB12.out.size
                have HS : Hid (∀ W, Below w12.heap.size w12 W → Calls Tryd.prog 22 #[hdV C.h, hdV C.h] W fun e w' => e = .returned (.bool true) ∧ w'.cell? ⟨B10, 0, none⟩ = some (.string C.h.1) ∧ w'.cell? ⟨B10, 1, none⟩ = some (.string C.h.2) ∧ w'.cell? ⟨B10, 2, none⟩ = some (.bool false) ∧
                    w'.cell? ⟨b9, o9 + L.length * 3, none⟩ = some (.string C.h.1) ∧ w'.cell? ⟨b9, o9 + L.length * 3 + 1, none⟩ = some (.string C.h.2) ∧ w'.cell? ⟨b9, o9 + L.length * 3 + 2, none⟩ = some (.bool false) ∧ Below w12.heap.size w12 w') := Lib.hid (fun W hW => by
                  refine (HSM.out W).mono ?_
                  rintro e w' ⟨rfl, hb⟩
                  have hX : Below w12.heap.size w12 w' := hW.trans (hb.mono hW.size)
                  exact ⟨rfl, (hX.cell (p := ⟨B10, 0, none⟩) kl).trans k0, (hX.cell (p := ⟨B10, 1, none⟩) kl).trans k1, (hX.cell (p := ⟨B10, 2, none⟩) kl).trans k2, (hX.cell (p := ⟨b9, o9 + L.length * 3, none⟩) hbl12).trans f1', (hX.cell (p := ⟨b9, o9 + L.length * 3 + 1, none⟩) hbl12).trans f2', (hX.cell (p := ⟨b9, o9 + L.length * 3 + 2, none⟩) hbl12).trans f3', hX⟩)
                have hj0 : (0 : Int) ≤ (L.length : Int) := by omega
                have hj1 : (L.length : Int) < (N9 : Int) := by have := HN9.out; omega
                have hwj : IntKind.i64.wrap ((N9 : Int) - 1) = (L.length : Int) := by have := HN9.out; rw [IntWalk.i64_in _ (by omega)]; omega
                clear f1 f2 f3 HSM HMO HSZ
                go_upto_region 17 with fail
                go_region_held3 (fun w' => w'.cell? ⟨B10, 0, none⟩ = some (.string C.h.1) ∧ w'.cell? ⟨B10, 1, none⟩ = some (.string C.h.2) ∧ w'.cell? ⟨B10, 2, none⟩ = some (.bool false) ∧
                    w'.cell? ⟨b9, o9 + L.length * 3, none⟩ = some (.string C.h.1) ∧ w'.cell? ⟨b9, o9 + L.length * 3 + 1, none⟩ = some (.string C.h.2) ∧ w'.cell? ⟨b9, o9 + L.length * 3 + 2, none⟩ = some (.bool false) ∧ Below w12.heap.size w12 w')
                  (refine ⟨?_, ?_, ?_, ?_, ?_, ?_, ?_⟩ <;> first | assumption | (exact Below.drew (Below.refl _ _)) | (refine Below.drew ?_; assumption))
                  ((go_at_call 22; refine (HS.out _ (by first | assumption | exact Below.drew (Below.refl _ _) | exact Below.drew (by assumption))).mono ?_; rintro e w' ⟨rfl, hw0, hw1, hw2, hw3, hw4, hw5, hw6⟩))
                all_goals rename_i hS
                all_goals have hX9 := HB12.out.trans (hS.2.2.2.2.2.2.mono HB12.out.size)
                all_goals clear hS
                all_goals (go_wp2_with fail; go_meet)
                all_goals exact ⟨m, addM m M C.h, L ++ [C.h], hm, HA9.out.below hX9, by rw [HN9.out]; have := HO9.out.kept hX9; rw [HN9.out] at this; exact this, by have := addM_len m M C.h; simp; omega, by simp; omega, hBw9.trans (hX9.mono hBw9.size)⟩
              · have hgm := addM_none m M C.h hfit
                rw [hgm] at HGT
                simp only [Option.getD_none, Option.isSome_none] at HGT
                clear hgm
                have hdf : decide (sizeH C.h ≤ m) = false := by simpa using hfit
                generalize sizeH C.h = G at HSZ hdf hGb hfit
                go_wp2_with fail
                refine HGT.out.mono ?_
                rintro e w10 ⟨rfl, hb10⟩
                have hz10 := hb10.size
                have hBw10 := hBw9.trans (hb10.mono hBw9.size)
                obtain ⟨b', o', e', e0, e1, e2, e3, e4⟩ := HCL.out w10 hBw10
                cases e'
                have hbl := cell_lt e2
                simp only at hbl
                have hne : ¬ b = w10.heap.size := by omega
                have hne' : ¬ w10.heap.size = b := by omega
                have HMO := Lib.hid (fun W (hW : Below w9.heap.size w9 W) => has_most (HA9.out.below hW))
                have hB12 : Below w9.heap.size w9 ((w10.alloc (.cells #[.string ⟨#[]⟩, .string ⟨#[]⟩, .bool false] 34)).alloc (.cells #[.string C.h.1, .string C.h.2, .bool C.nev] 34)) := (hb10.alloc hz10 _).alloc (by simp; omega) _
                have HB12 := Lib.hid hB12
                clear HGT hb10 hB12 f1 f2 f3 HSM
                go_wp2_with fail
                refine (HSZ.out _).mono ?_
                rintro e w11 ⟨rfl, rfl⟩
                go_wp2_with fail
                refine (HMO.out _ HB12.out).mono ?_
                rintro e w' ⟨rfl, rfl⟩
                clear e0 e1 e2 e3 e4 hne hne' HMO HSZ
                generalize (w10.alloc (.cells #[.string ⟨#[]⟩, .string ⟨#[]⟩, .bool false] 34)).alloc (.cells #[.string C.h.1, .string C.h.2, .bool C.nev] 34) = w12 at HB12 ⊢
                go_upto_region 17 with fail
                go_quiet (fail)
                all_goals have hX9 := bdN HB12.out 1
                all_goals (go_wp2_with fail; go_meet)
                all_goals exact ⟨m, addM m M C.h, L ++ [C.h], hm, HA9.out.below (bdN HB12.out _), by have h := HO9.out; rw [HN9.out] at h ⊢; exact h.kept (bdN HB12.out _), by have := addM_len m M C.h; simp; omega, by simp; omega, hBw9.trans ((bdN HB12.out _).mono hBw9.size)⟩
            · have hkb : ((C.kind : Int) != 1) = true := by simpa using hk
              clear hk
              have HAA := Lib.hid HA.out
              by_cases hr : 0 ≤ C.num ∧ C.num ≤ 4096
              · obtain ⟨q, hq⟩ : ∃ q : Nat, C.num = q := ⟨C.num.toNat, by omega⟩
                have hq4 : q ≤ 4096 := by omega
                rw [hq] at e1
                have HRS := Lib.hid (has_resize HA.out hm q hq4)
                clear hr hq
                go_wp2_with fail
                refine HRS.out.mono ?_
                rintro e w6 ⟨rfl, hA6, hk6⟩
                clear HRS e0 e1 e2 e3 e4
                go_wp2_with fail
                go_meet
                exact ⟨q, shr q M, L, hq4, hA6, HO.out.kp hk6 (by omega), by have := (shr_le q M).2.2; omega, by omega, hBw.trans (hk6.below hwA hBw.size)⟩
              · have HRS := Lib.hid (has_resize_no HA.out C.num (by omega) _ (HE.out wr hBw))
                clear hr
                go_wp2_with fail
                refine HRS.out.mono ?_
                rintro e w6 ⟨rfl, hb6⟩
                clear HRS e0 e1 e2 e3 e4
                go_wp2_with fail
                go_meet
                exact ⟨m, M, L, hm, HA.out.below hb6, HO.out.kept hb6, hML, by omega, hBw.trans (hb6.mono hBw.size)⟩
          case rest =>
            obtain ⟨m', M', L', hm', hA', hO', hML', hLi', hBw'⟩ := hcut
            clear HA HO HCL e0 e1 e2 e3 e4 hsz hm hML hLi
            have HA := Lib.hid hA'
            have HO := Lib.hid hO'
            obtain ⟨ad, cp, hv, hHs⟩ := hO'.hs
            subst hv
            have hTM := hA'.total_le
            have hge := total_ge M'
            clear hA' hO' hHs
            go_wp2_with fail
            obtain ⟨wo, rfl⟩ : ∃ wo : World, wo = wc := ⟨_, rfl⟩
            go_loopw [13, 14] (fun s13 s14 wr => KeS M' wo s13 s14 wr) (fun _ s14 _ => M'.length - (intOf s14).toNat)
            case atStart => exact ⟨0, rfl, by rw [nsum_zero]; rfl, by omega, Below.refl _ _⟩
            case round =>
              obtain ⟨k, rfl, rfl, hk, hBk⟩ := hrel
              have HLN := Lib.hid (has_len (HA.out.below hBk))
              by_cases hlk : k < M'.length
              · have hns := nsum_succ M' k hlk
                have hnl := nsum_le M' (k + 1)
                have hsz := nth_size M' k hlk
                have hs1 : (nth M' k).1.size ≤ 140737488355328 ∧ (nth M' k).2.size ≤ 140737488355328 := by unfold sizeH at hsz; omega
                have HSZ := Lib.hid (fun W => sizeOf_any (nth M' k) false W hs1.1 hs1.2)
                have HG := Lib.hid (has_get (HA.out.below hBk) (62 + (k : Int)) (by omega))
                rw [getM_at M' k hlk] at HG
                simp only [Option.getD_some, Option.isSome_some] at HG
                have HNS := Lib.hid hns
                have hnk : nsum M' k ≤ 4096 := by omega
                have hsk : sizeH (nth M' k) ≤ 4096 := by omega
                generalize nsum M' k = S0 at hns HNS hnk ⊢
                generalize sizeH (nth M' k) = G at hns HNS HSZ hsz hsk
                generalize nth M' k = g at HG HSZ hs1
                have hkL1 : decide (L'.length ≤ k) = false := by simp; omega
                have hkL2 : k < L'.length := by omega
                clear hns hnl
                go_wp2_with fail
                refine HLN.out.mono ?_
                rintro e w' ⟨rfl, rfl⟩
                go_wp2_with fail
                refine HG.out.mono ?_
                rintro e w5 ⟨rfl, hb5⟩
                have hB5 := hBk.trans (hb5.mono hBk.size)
                have hz5 := hB5.size
                clear HG hb5 hs1
                go_wp2_with fail
                refine (HSZ.out _).mono ?_
                rintro e w6 ⟨rfl, rfl⟩
                go_wp2_with fail
                exact ⟨⟨k + 1, by go_num, by rw [HNS.out]; congr 1, by omega, (hB5.alloc hz5 _).alloc (by simp; omega) _⟩, by simp [intOf]; omega⟩
              · obtain rfl : k = M'.length := by omega
                rw [nsum_all]
                have HG := Lib.hid (fun W (hW : Below wo.heap.size wo W) => has_get (HA.out.below hW) (62 + (M'.length : Int)) (by omega))
                rw [getM_past] at HG
                simp only [Option.getD_none, Option.isSome_none] at HG
                have HL2 := Lib.hid (fun W (hW : Below wo.heap.size wo W) => has_len (HA.out.below hW))
                have HSI := Lib.hid (fun W (hW : Below wo.heap.size wo W) => has_siz (HA.out.below hW))
                have HMO := Lib.hid (fun W (hW : Below wo.heap.size wo W) => has_most (HA.out.below hW))
                have hq1 : ((total M' : Int) != (total M' : Int)) = false := by simp
                have hq2 : decide (m' < total M') = false := by simp; omega
                generalize total M' = T at HSI hq1 hq2
                go_wp2_with fail
                refine HLN.out.mono ?_
                rintro e w' ⟨rfl, rfl⟩
                go_wp2_with fail
                refine (HL2.out _ hBk).mono ?_
                rintro e w' ⟨rfl, rfl⟩
                go_wp2_with fail
                refine (HG.out _ hBk).mono ?_
                rintro e w5 ⟨rfl, hb5⟩
                have hB5 := hBk.trans (hb5.mono hBk.size)
                have hB6 := hB5.alloc hB5.size (.cells #[.string ⟨#[]⟩, .string ⟨#[]⟩, .bool false] 34)
                clear hb5
                go_wp2_with fail
                refine (HSI.out _ hB6).mono ?_
                rintro e w' ⟨rfl, rfl⟩
                go_wp2_with fail
                refine (HMO.out _ hB6).mono ?_
                rintro e w' ⟨rfl, rfl⟩
                have HB6 := Lib.hid hB6
                clear hB6 hB5 hBk HG HL2 HSI HMO HLN
                go_wp2_with fail
                exact ⟨⟨i + 1, m', M', L', by go_num, by omega, hm', HA.out.below HB6.out, HO.out.kept HB6.out, hML', hLi', hBw'.trans (HB6.out.mono hBw'.size)⟩, by simp [intOf]; omega⟩
        · have HA := Lib.hid hA
          have hTM := hA.total_le
          have hge := total_ge M
          clear hA hO
          go_wp2_with fail
          obtain ⟨wo, rfl⟩ : ∃ wo : World, wo = wr := ⟨_, rfl⟩
          go_loopw [19] (fun s19 wr => KeF M wo s19 wr) (fun s19 _ => M.length - (intOf s19).toNat)
          case atStart => exact ⟨0, rfl, by omega, Below.refl _ _⟩
          case round =>
            obtain ⟨k, rfl, hk, hBk⟩ := hrel
            have HLN := Lib.hid (has_len (HA.out.below hBk))
            by_cases hlk : k < M.length
            · have HG := Lib.hid (has_get (HA.out.below hBk) (62 + (k : Int)) (by omega))
              rw [getM_at M k hlk] at HG
              simp only [Option.getD_some, Option.isSome_some] at HG
              obtain ⟨hf1, hf2⟩ := fnd_nth M k hlk
              have HF := Lib.hid (fun W (hW : Below wo.heap.size wo W) => has_find (HA.out.below hW) (nth M k).1 (nth M k).2)
              rw [hf1] at HF
              clear hf1
              generalize (fnd (nth M k).1 (nth M k).2 (allL M)).1 = fi at HF hf2
              generalize nth M k = g at HG HF
              have hd1 : decide ((62 : Int) + (k : Int) < (fi : Int)) = false := by simp; omega
              go_wp2_with fail
              refine HLN.out.mono ?_
              rintro e w' ⟨rfl, rfl⟩
              go_wp2_with fail
              refine HG.out.mono ?_
              rintro e w5 ⟨rfl, hb5⟩
              have hB5 := hBk.trans (hb5.mono hBk.size)
              have hB6 := hB5.alloc hB5.size (.cells #[.string g.1, .string g.2, .bool false] 34)
              clear hb5 HG HLN
              go_wp2_with fail
              refine (HF.out _ hB6).mono ?_
              rintro e w7 ⟨rfl, hb7⟩
              have hB7 := hB6.trans (hb7.mono hB6.size)
              clear hb7 HF hB6 hB5
              go_wp2_with fail
              exact ⟨⟨k + 1, by go_num, by omega, hB7⟩, by simp [intOf]; omega⟩
            · obtain rfl : k = M.length := by omega
              go_wp2_with fail
              refine HLN.out.mono ?_
              rintro e w' ⟨rfl, rfl⟩
              go_wp2_with fail
              go_ret
              exact ⟨rfl, hBw.trans (hBk.mono hBw.size)⟩
    · have HCN := Lib.hid (fun W => can_no x (by omega) W)
      clear hx
      go_wp2_with fail
      refine (HCN.out _).mono ?_
      rintro e w' ⟨rfl, rfl⟩
      go_wp2_with fail
      go_ret
      exact ⟨rfl, hB2⟩
end Go.Proofs.YtbdpeioafelolaaDoor
