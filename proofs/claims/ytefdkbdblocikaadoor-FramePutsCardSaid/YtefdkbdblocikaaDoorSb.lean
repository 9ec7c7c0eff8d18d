/-
  CONTRACTS: said of a type that the document doesn't know; said of all.
-/
import Derived.Test.YtefdkbdblocikaaDoorS
namespace Go.Proofs.YtefdkbdblocikaaDoor
open Go.RowKit Hu

set_option maxRecDepth 100000 in
set_option maxHeartbeats 8000000 in
theorem said_other (ty fl st : Int) (hk : ¬ Known ty) (pa : Option Addr) (pn pc : Nat) (l : List UInt8) (w : World) (hp : Sl w pa pn pc l) (hn : pn ≤ 20000000) (hty : (Lit.int .i64 ty).wf = true) (R : RdF) (hpb : ∀ q, pa = some q → 0 < pn → q.block < w.heap.size)
    (hcf : ∀ args W, (callFunc (layM ty).rd args).run Tryd.prog W = .ok (.enter (layM ty).rd args) W)
    (hrd : ∀ p I a n c l W, Ib W p I → I.ty = ty → I.st = st ∧ I.sv = .slice none 0 0 ∧ I.dv = .slice none 0 0 → Sl W a n c l → n ≤ 20000000 → (∀ q, a = some q → 0 < n → q.block ≠ p) → Calls Tryd.prog (layM ty).rd #[.pointer (some ⟨p, 0, none⟩), .slice a n c] W (ReadPost p (R W.heap.size I (.slice a n c) l) W))
    (hP : ∀ B I v l P, R B I v l = .ok P → ∀ J W W' b, b < B → P J W → Kb b W W' → P J W') (hO : ∀ B I v l P, R B I v l = .ok P → ∀ J W, P J W → J.sv.oneCell' = true ∧ J.dv.oneCell' = true) :
    Calls Tryd.prog 40 #[frV ty fl st pa pn pc] w (SaidPost pa (ahead ty fl st l) R w) := by
  have hF0 := fb_new w ty fl st pa pn pc
  have hz0 : ((w.alloc (.cells #[.int .i64 ty, .int .i64 fl, .int .i64 st, .slice pa pn pc] 24)).alloc (.cells #[.int .i64 0, .int .i64 0, .int .i64 0, .bool false, .bool false, .bool false, .bool false, .bool false, .bool false, .int .i64 0, .int .i64 0, .int .i64 0, .int .i64 0, .int .i64 0, .int .i64 0, .int .i64 0, .slice none 0 0, .slice none 0 0] 47)).heap.size = w.heap.size + 1 + 1 := by simp
  have hr0 := ib_new (w.alloc (.cells #[.int .i64 ty, .int .i64 fl, .int .i64 st, .slice pa pn pc] 24)) (iv0 0 0 0)
  have hb0 : Below w.heap.size w ((w.alloc (.cells #[.int .i64 ty, .int .i64 fl, .int .i64 st, .slice pa pn pc] 24)).alloc (.cells #[.int .i64 0, .int .i64 0, .int .i64 0, .bool false, .bool false, .bool false, .bool false, .bool false, .bool false, .int .i64 0, .int .i64 0, .int .i64 0, .int .i64 0, .int .i64 0, .int .i64 0, .int .i64 0, .slice none 0 0, .slice none 0 0] 47)) := ((Below.refl _ w).alloc (Nat.le_refl _) _).alloc (by simp) _
  have hF1 := hF0.kept (B := w.heap.size + 1) (w' := (w.alloc (.cells #[.int .i64 ty, .int .i64 fl, .int .i64 st, .slice pa pn pc] 24)).alloc (.cells #[.int .i64 0, .int .i64 0, .int .i64 0, .bool false, .bool false, .bool false, .bool false, .bool false, .bool false, .int .i64 0, .int .i64 0, .int .i64 0, .int .i64 0, .int .i64 0, .int .i64 0, .int .i64 0, .slice none 0 0, .slice none 0 0] 47)) ((Below.refl _ _).alloc (by simp) _) (by omega)
  simp only [iv0, World.size_alloc] at hr0
  generalize hw0 : (w.alloc (.cells #[.int .i64 ty, .int .i64 fl, .int .i64 st, .slice pa pn pc] 24)).alloc (.cells #[.int .i64 0, .int .i64 0, .int .i64 0, .bool false, .bool false, .bool false, .bool false, .bool false, .bool false, .int .i64 0, .int .i64 0, .int .i64 0, .int .i64 0, .int .i64 0, .int .i64 0, .int .i64 0, .slice none 0 0, .slice none 0 0] 47) = w0 at hz0 hr0 hb0 hF1
  have HW0 := Lib.hid hw0
  have HF1 := Lib.hid hF1
  have HR0 := Lib.hid hr0
  have HB0 := Lib.hid hb0
  have HPW := Lib.hid hp
  have HRD := Lib.hid hrd
  have HPP := Lib.hid hP
  have HOO := Lib.hid hO
  have HPB := Lib.hid hpb
  have HTY := Lib.hid hty
  clear hF0 hr0 hb0 hF1 hw0 hp hrd hP hO hpb hty
  generalize hpz : w.heap.size = p at hz0 HF1 HR0
  have HP := Lib.hid hpz
  clear hpz
  go_enter Tryd.func40, Tryd.ntmps40
  go_upto_region 1 with fail
  rw [HW0.out, HP.out]
  have f0 := HF1.out.c0
  have HLAY : Hid (∀ W, Below w0.heap.size w0 W → Calls Tryd.prog 56 #[] W fun e w' => ∃ mb s0 s1 s4 s5 s6 s9, e = .returned (.map (some mb)) ∧ Lays w' mb s0 s1 s4 s5 s6 s9 ∧ Below W.heap.size W w' ∧ (W.heap.size ≤ s0 ∧ W.heap.size ≤ s1 ∧ W.heap.size ≤ s4 ∧ W.heap.size ≤ s5 ∧ W.heap.size ≤ s6 ∧ W.heap.size ≤ s9) ∧ w'.cell? ⟨p, 0, none⟩ = some (.int .i64 ty) ∧ (∀ o, w0.heap.size < W.heap.size → w'.cell? ⟨w0.heap.size, o, none⟩ = W.cell? ⟨w0.heap.size, o, none⟩) ∧ (∀ o, w0.heap.size < W.heap.size → w'.frozen? ⟨w0.heap.size, o, none⟩ = W.frozen? ⟨w0.heap.size, o, none⟩)) := Lib.hid (fun W hW => (layouts_any W).mono fun e w' ⟨mb, s0, s1, s4, s5, s6, s9, he, hL, hb, hss⟩ => ⟨mb, s0, s1, s4, s5, s6, s9, he, hL, hb, hss, ((hW.trans (hb.mono hW.size)).cell (p := ⟨p, 0, none⟩) (show p < w0.heap.size from Hu.cell_lt f0)).trans f0, fun o h => hb.cell (p := ⟨w0.heap.size, o, none⟩) h, fun o h => hb.frozen (p := ⟨w0.heap.size, o, none⟩) h⟩)
  have HZ0 := Lib.hid hz0
  have hne0 : ¬ p = w0.heap.size := by omega
  have hne1 : ¬ w0.heap.size = p := by omega
  have hlt0 : p < w0.heap.size := by omega
  have f0a : (w0.alloc (.cells #[.int .i64 0, .slice none 0 0, .nilFunc, .nilFunc] 97)).cell? ⟨p, 0, none⟩ = some (.int .i64 ty) := (World.cell?_alloc_lt _ _ _ (Hu.cell_lt f0)).trans f0
  clear hz0
  · have hly : layM ty = ⟨0, [], 79, 80⟩ := by
      have n : ∀ i : Int, 0 ≤ i → i ≤ 9 → ty ≠ i := fun i h0 h1 e => hk ⟨by omega, by omega⟩
      unfold layM
      rw [if_neg (n 0 (by omega) (by omega)), if_neg (n 1 (by omega) (by omega)), if_neg (n 2 (by omega) (by omega)), if_neg (n 3 (by omega) (by omega)), if_neg (n 4 (by omega) (by omega)), if_neg (n 5 (by omega) (by omega)), if_neg (n 6 (by omega) (by omega)), if_neg (n 7 (by omega) (by omega)), if_neg (n 8 (by omega) (by omega)), if_neg (n 9 (by omega) (by omega))]
    have HAH : Hid (ahead ty fl st l = unpad (iv0 ty fl st) l) := Lib.hid (by unfold ahead; rw [hly, if_neg hk]; rfl)
    rw [hly] at hcf HRD
    clear hly
    go_cut [4, 5] from 11 to 17 (fun s4 s5 wx => ∃ lb, s4 = .pointer (some ⟨lb, 0, none⟩) ∧ s5 = .bool false ∧ p + 2 ≤ lb ∧ Below (p + 2) w0 wx ∧ wx.cell? ⟨lb, 0, none⟩ = some (.int .i64 0) ∧ wx.cell? ⟨lb, 1, none⟩ = some (.slice none 0 0) ∧ wx.cell? ⟨lb, 2, none⟩ = some .nilFunc ∧ wx.cell? ⟨lb, 3, none⟩ = some .nilFunc ∧ ∀ i, wx.frozen? ⟨lb, i, none⟩ = false)
    case first =>
      go_region_with (first | (refine (HLAY.out _ (by repeat (first | exact Below.refl _ _ | (refine Below.drew ?_) | (refine Below.alloc ?_ (by first | omega | (simp; omega)) _) | (refine bdN ?_ _)))).mono ?_; rintro e w1 ⟨mb, s0, s1, s4, s5, s6, s9, rfl, hL, hb1, hss, f1, hcl, hfl⟩; (have f1a : (w1.alloc (.cells #[.int .i64 0, .slice none 0 0, .nilFunc, .nilFunc] 97)).cell? ⟨p, 0, none⟩ = some (.int .i64 ty) := (World.cell?_alloc_lt _ _ _ (Hu.cell_lt f1)).trans f1); (have hlk := lays_no hL ty hk HTY.out); (have hlk2 := lays_no (hL.kept ((Below.refl _ w1).alloc (Nat.le_refl _) (.cells #[.int .i64 0, .slice none 0 0, .nilFunc, .nilFunc] 97))) ty hk HTY.out); (have HB1 := Lib.hid hb1); (have HCL := Lib.hid hcl); (have HFZ := Lib.hid hfl); clear hb1 hL hss; go_simp))
      all_goals (go_wp2_with fail; go_meet)
      all_goals (have h1 := HB1.out.size; have h2 := HZ0.out; simp at h1)
      all_goals first
        | exact ⟨_, rfl, rfl, by omega, (((Below.refl _ w0).drew).trans (HB1.out.mono (by simp; omega))).alloc (by omega) _, by simp, by simp, by simp, by simp, fun i => by simpa [World.frozen?] using frozen_new w1 #[.int .i64 0, .slice none 0 0, .nilFunc, .nilFunc] 97 i⟩
        | (have q := four_set (b := w0.heap.size) (x0 := .int .i64 0) (x1 := .slice none 0 0) (x2 := .nilFunc) (x3 := .nilFunc) (.int .i64 0) (.slice none 0 0) .nilFunc .nilFunc ((HCL.out 0 (by simp)).trans (by simp)) ((HCL.out 1 (by simp)).trans (by simp)) ((HCL.out 2 (by simp)).trans (by simp)) ((HCL.out 3 (by simp)).trans (by simp))
           have hB1 : Below (p + 2) w0 w1 := by
             refine Below.trans ?_ (HB1.out.mono (by simp; omega))
             repeat (first | exact Below.refl _ _ | (refine Below.drew ?_) | (refine Below.alloc ?_ (by first | omega | (simp; omega)) _))
           exact ⟨_, rfl, rfl, by omega, (((hB1.setCell (show p + 2 ≤ w0.heap.size by omega) _).setCell (show p + 2 ≤ w0.heap.size by omega) _).setCell (show p + 2 ≤ w0.heap.size by omega) _).setCell (show p + 2 ≤ w0.heap.size by omega) _, q.1, q.2.1, q.2.2.1, q.2.2.2, fun i => by
             simp only [World.frozen?_setCell]
             exact (HFZ.out i (by simp)).trans (by first | (with_reducible exact frozen_newD _ _ _ _) | simpa [World.frozen?] using frozen_new w0 #[.int .i64 0, .slice none 0 0, .nilFunc, .nilFunc] 97 i)⟩)
    case rest =>
      obtain ⟨lb, rfl, rfl, hlb, hbc, l0, l1, l2, l3, lz⟩ := hcut
      have HBC := Lib.hid hbc
      have hzc := hbc.size
      have hz0 := HZ0.out
      obtain ⟨g0, g1, g2, g3⟩ := HF1.out.kept hbc (by omega)
      have HRB := Lib.hid (HR0.out.kept hbc (by omega))
      have HFB : Hid (Fb wc p ty fl st pa pn pc) := Lib.hid ⟨g0, g1, g2, g3⟩
      have HL4 := Lib.hid (show wc.cell? ⟨lb, 0, none⟩ = some (.int .i64 0) ∧ wc.cell? ⟨lb, 1, none⟩ = some (.slice none 0 0) ∧ wc.cell? ⟨lb, 2, none⟩ = some .nilFunc ∧ wc.cell? ⟨lb, 3, none⟩ = some .nilFunc ∧ ∀ i, wc.frozen? ⟨lb, i, none⟩ = false from ⟨l0, l1, l2, l3, lz⟩)
      have hlbl := Hu.cell_lt l0
      simp only at hlbl
      clear hbc f0 f0a HLAY hne0 hne1 hlt0 l0 l1 l2 l3 lz
      have hpl : p < wc.heap.size := by omega
      go_upto_region 4 with fail
      have hib := ib_new wc (iv0 ty 0 st)
      simp only [iv0] at hib
      have hz2 : (wc.alloc (.cells #[.int .i64 ty, .int .i64 0, .int .i64 st, .bool false, .bool false, .bool false, .bool false, .bool false, .bool false, .int .i64 0, .int .i64 0, .int .i64 0, .int .i64 0, .int .i64 0, .int .i64 0, .int .i64 0, .slice none 0 0, .slice none 0 0] 47)).heap.size = wc.heap.size + 1 := by simp
      have hb2 : Below wc.heap.size wc (wc.alloc (.cells #[.int .i64 ty, .int .i64 0, .int .i64 st, .bool false, .bool false, .bool false, .bool false, .bool false, .bool false, .int .i64 0, .int .i64 0, .int .i64 0, .int .i64 0, .int .i64 0, .int .i64 0, .int .i64 0, .slice none 0 0, .slice none 0 0] 47)) := (Below.refl _ wc).alloc (Nat.le_refl _) _
      generalize wc.alloc (.cells #[.int .i64 ty, .int .i64 0, .int .i64 st, .bool false, .bool false, .bool false, .bool false, .bool false, .bool false, .int .i64 0, .int .i64 0, .int .i64 0, .int .i64 0, .int .i64 0, .int .i64 0, .int .i64 0, .slice none 0 0, .slice none 0 0] 47) = w2 at hib hz2 hb2 ⊢
      have HIB : Hid (Ib w2 wc.heap.size (iv0 ty 0 st)) := Lib.hid hib
      have HB2C := Lib.hid hb2
      generalize hib' : wc.heap.size = ib at hib hz2 hb2 HIB hlbl hpl hzc HB2C ⊢
      have HIBE := Lib.hid hib'
      clear hib hb2 g0 g1 g2 g3 hib'
      go_wp2_with fail
      refine (other_any _).mono ?_
      rintro e w3 ⟨rfl, hb3⟩
      have hb23 := HB2C.out.trans (hb3.mono (by omega))
      have HB23 := Lib.hid hb23
      have hz3 := hb3.size
      obtain ⟨l0, l1, l2, l3, lz⟩ := HL4.out
      replace l0 := (hb23.cell (p := ⟨lb, 0, none⟩) hlbl).trans l0
      replace l1 := (hb23.cell (p := ⟨lb, 1, none⟩) hlbl).trans l1
      replace l2 := (hb23.cell (p := ⟨lb, 2, none⟩) hlbl).trans l2
      replace l3 := (hb23.cell (p := ⟨lb, 3, none⟩) hlbl).trans l3
      have lz0 := (hb23.frozen (p := ⟨lb, 0, none⟩) hlbl).trans (lz 0)
      have lz1 := (hb23.frozen (p := ⟨lb, 1, none⟩) hlbl).trans (lz 1)
      have lz2 := (hb23.frozen (p := ⟨lb, 2, none⟩) hlbl).trans (lz 2)
      have lz3 := (hb23.frozen (p := ⟨lb, 3, none⟩) hlbl).trans (lz 3)
      have HI3 := Lib.hid (HIB.out.kept hb3 (by omega))
      have HF3 := Lib.hid (HFB.out.kept hb23 hpl)
      have hlp : lb ≠ p := by omega
      have hpl' : p ≠ lb := by omega
      have hlb1 : lb ≠ ib := by omega
      have hlb1' : ib ≠ lb := by omega
      clear lz hb3 hb23
      go_upto_region 5 with fail
      have q := four_set (.int .i64 0) (.slice none 0 0) (fnV 79) (fnV 80) l0 l1 l2 l3
      have hk4 : Kb lb w3 ((((w3.setCell ⟨lb, 0, none⟩ (.int .i64 0)).setCell ⟨lb, 1, none⟩ (.slice none 0 0)).setCell ⟨lb, 2, none⟩ (fnV 79)).setCell ⟨lb, 3, none⟩ (fnV 80)) := (((Kb.set _ _ _).trans (Kb.set _ _ _)).trans (Kb.set _ _ _)).trans (Kb.set _ _ _)
      generalize (((w3.setCell ⟨lb, 0, none⟩ (.int .i64 0)).setCell ⟨lb, 1, none⟩ (.slice none 0 0)).setCell ⟨lb, 2, none⟩ (fnV 79)).setCell ⟨lb, 3, none⟩ (fnV 80) = w4 at q hk4 ⊢
      have hz4 := hk4.size
      have hi4 := HI3.out.blk (hk4.block ib (by omega) hlb1')
      obtain ⟨f0, f1, f2, f3⟩ := HF3.out.blk (hk4.block p (by omega) hpl')
      have HB4 : Hid (Below (p + 2) w0 w4) := Lib.hid (HBC.out.trans ((HB23.out.mono (by omega)).trans (hk4.below hlb (by omega))))
      have HR4 : Hid (Ib w4 (p + 1) (iv0 0 0 0)) := Lib.hid ((HRB.out.kept HB23.out (by omega)).blk (hk4.block (p + 1) (by omega) (by omega)))
      have i1 := hi4.c 1 _ rfl
      have j1 := hi4.z 1
      have HI4 := Lib.hid hi4
      obtain ⟨q0, q1, q2, q3⟩ := q
      have hbl4 := Hu.cell_lt q0
      simp only at hbl4
      have hil4 := hi4.lt
      clear hi4 hk4 l0 l1 l2 l3 lz0 lz1 lz2 lz3
      go_upto_region 6 with fail
      have hk5 := Kb.set (p := ib) w4 1 (.int .i64 fl)
      have hi5 : Ib (w4.setCell ⟨ib, 1, none⟩ (.int .i64 fl)) ib (iv0 ty fl st) := HI4.out.set 1 _ _ (by decide) rfl
      generalize w4.setCell ⟨ib, 1, none⟩ (.int .i64 fl) = w5 at hk5 hi5 ⊢
      have hz5 := hk5.size
      have TI := Lib.hid hi5
      have TB : Hid (Below (p + 2) w0 w5) := Lib.hid (HB4.out.trans (hk5.below (by omega) (by omega)))
      have TR := Lib.hid (HR4.out.blk (hk5.block (p + 1) (by omega) (by omega)))
      have p0 := (World.cell?_of_block (a := ⟨lb, 0, none⟩) (hk5.block lb hbl4 hlb1)).trans q0
      have p1 := (World.cell?_of_block (a := ⟨lb, 1, none⟩) (hk5.block lb hbl4 hlb1)).trans q1
      have TL := (World.cell?_of_block (a := ⟨lb, 2, none⟩) (hk5.block lb hbl4 hlb1)).trans q2
      have F2 := (World.cell?_of_block (a := ⟨p, 2, none⟩) (hk5.block p (by omega) (by omega))).trans f2
      have TF := (World.cell?_of_block (a := ⟨p, 3, none⟩) (hk5.block p (by omega) (by omega))).trans f3
      have hpz := HP.out
      have TS := Lib.hid (HPW.out.kept (HB0.out.trans (TB.out.mono (by omega))))
      have hp1 : p + 2 ≤ ib := by have := HIBE.out; omega
      have HAL := Lib.hid (allows_any 0 st (Or.inl rfl) w5)
      have ha : allowsM 0 st = true := by unfold allowsM; rfl
      rw [ha] at HAL
      have TTH : Hid ((iv0 ty fl st).ty = ty) := Lib.hid rfl
      have TUH : Hid ((iv0 ty fl st).st = st ∧ (iv0 ty fl st).sv = .slice none 0 0 ∧ (iv0 ty fl st).dv = .slice none 0 0) := Lib.hid ⟨rfl, rfl, rfl⟩
      generalize iv0 ty fl st = I1 at TI TTH TUH HAH
      clear hi5 hk5 hpz q0 q1 q2 q3 f0 f1 f2 f3 i1 j1 HI4 HR4 HB4 ha HIB HB2C HI3 HF3 HFB HRB HL4
      go_wp2_with fail
      refine HAL.out.mono ?_
      rintro e w' ⟨rfl, rfl⟩
      go_wp2_with fail
      go_loopw [40] (fun s40 wr => s40 = .int .i64 0 ∧ wr = w5) (fun _ _ => 0)
      case atStart => exact ⟨rfl, rfl⟩
      case round =>
        obtain ⟨rfl, rfl⟩ := hrel
        go_upto_region 13 with fail
        have TNE : ∀ q, pa = some q → 0 < pn → q.block ≠ ib := fun q h1 h2 => by have := HPB.out q h1 h2; have := HP.out; omega
        have TU := Lib.hid (unpad_any ib I1 pa pn pc l wr TI.out TS.out hn TNE)
        have hib1 := TI.out.lt
        have hlb2 := Hu.cell_lt TL
        simp only at hlb2
        cases hu : unpad I1 l with
        | error ks =>
          obtain ⟨k, s⟩ := ks
          rw [hu] at TU
          have TE := Lib.hid (HAH.out.trans hu)
          clear hu TNE
          go_wp2_with fail
          refine TU.out.mono ?_
          rintro e w2 ⟨hk2, v, rfl, hv⟩
          have HV := Lib.hid hv
          obtain ⟨g, _, hvg, _, _⟩ := hv
          subst hvg
          have TK := Lib.hid hk2
          have hz2 := hk2.size
          have TR2 := Lib.hid (TR.out.blk (hk2.block (p + 1) (by omega) (by omega)))
          clear hk2
          go_wp2_with (refine wp_store_info rfl _ _ rfl (p + 1) (iv0 0 0 0) (iv0 0 0 0) TR2.out rfl rfl rfl rfl ?_; intro w4 hI4 hk4 hz4; (have HI4 := Lib.hid hI4); (have HK4 := Lib.hid hk4); clear hI4 hk4)
          refine bodyPost_ret (res_info Tryd.results40 HI4.out _ _ rfl rfl) rfl ?_
          have hszp := TB.out.size
          have hBp : Below p w0 w4 := (TB.out.mono (by omega)).trans ((TK.out.below (by omega) (by omega)).trans (HK4.out.below (by omega) (by omega)))
          have hB : Below w.heap.size w w4 := HB0.out.trans (hBp.mono (by rw [HP.out]; omega))
          refine ⟨hB, ?_⟩
          rw [TE.out]
          refine ⟨_, rfl, ?_⟩
          exact (HV.out.blk fun g h1 h2 => HK4.out.block g h2 (by omega)).mono (by rw [HP.out]; omega)
        | ok il =>
          obtain ⟨I2, l2⟩ := il
          rw [hu] at TU
          have TE := Lib.hid (HAH.out.trans hu)
          obtain ⟨ht2, hs2, hl2⟩ := unpad_same hu
          clear hu TNE
          go_wp2_with fail
          refine TU.out.mono ?_
          rintro e w2 ⟨hk2, a2, n2, c2, rfl, hI2, hS2, hb2⟩
          have hz2 := hk2.size
          have TK := Lib.hid hk2
          have TR2 := Lib.hid (TR.out.blk (hk2.block (p + 1) (by omega) (by omega)))
          have hn2 : n2 ≤ pn := by have h1 := hS2.len; have h2 := TS.out.len; omega
          have TN2 : Hid (∀ q, a2 = some q → 0 < n2 → q.block < p) := Lib.hid (fun q h1 h2 => by
            obtain ⟨q0, h3, h4⟩ := hb2 q h1
            have h5 := HPB.out q0 h3 (by omega)
            have h6 := HP.out
            omega)
          have TB2 := Lib.hid hb2
          have TS2 := Lib.hid hS2
          have TQ := Lib.hid (HRD.out ib I2 a2 n2 c2 l2 w2 hI2 (ht2.trans TTH.out) ⟨hs2.1.trans TUH.out.1, hs2.2.1.trans TUH.out.2.1, hs2.2.2.trans TUH.out.2.2⟩ hS2 (by omega) (fun q h1 h2 => by have := TN2.out q h1 h2; omega))
          have TL2 := (World.cell?_of_block (a := ⟨lb, 2, none⟩) (hk2.block lb hlb2 hlb1)).trans TL
          have HN2 := Lib.hid hn2
          clear hk2 hb2 hI2 hS2 ht2 hs2 hl2 hn2
          cases hr : R w2.heap.size I2 (.slice a2 n2 c2) l2 with
          | er k s =>
            rw [hr] at TQ
            have TRR := Lib.hid hr
            clear hr
            go_wp2_with fail
            refine TQ.out.mono ?_
            rintro e w3 ⟨hk3, v, rfl, hv⟩
            have HV := Lib.hid hv
            obtain ⟨g, _, hvg, _, _⟩ := hv
            subst hvg
            have TK3 := Lib.hid hk3
            have hz3 := hk3.size
            have TR3 := Lib.hid (TR2.out.blk (hk3.block (p + 1) (by omega) (by omega)))
            clear hk3
            go_wp2_with (refine wp_store_info rfl _ _ rfl (p + 1) (iv0 0 0 0) (iv0 0 0 0) TR3.out rfl rfl rfl rfl ?_; intro w4 hI4 hk4 hz4; (have HI4 := Lib.hid hI4); (have HK4 := Lib.hid hk4); clear hI4 hk4)
            refine bodyPost_ret (res_info Tryd.results40 HI4.out _ _ rfl rfl) rfl ?_
            have hszp := TB.out.size
            have hBp : Below p w0 w4 := (TB.out.mono (by omega)).trans ((TK.out.below (by omega) (by omega)).trans ((TK3.out.below (by omega) (by omega)).trans (HK4.out.below (by omega) (by omega))))
            have hB : Below w.heap.size w w4 := HB0.out.trans (hBp.mono (by rw [HP.out]; omega))
            refine ⟨hB, ?_⟩
            rw [TE.out]
            refine ⟨w2.heap.size, a2, n2, c2, by rw [HP.out]; omega, (sl_kb (sl_kb TS2.out TK3.out fun q h1 h2 => by have := TN2.out q h1 h2; omega) HK4.out fun q h1 h2 => by have := TN2.out q h1 h2; omega), TB2.out, ?_⟩
            rw [TRR.out]
            refine ⟨_, rfl, ?_⟩
            exact (HV.out.blk fun g h1 h2 => HK4.out.block g h2 (by omega)).mono (by rw [HP.out]; omega)
          | ok P =>
            rw [hr] at TQ
            have TRR := Lib.hid hr
            clear hr
            go_wp2_with fail
            refine TQ.out.mono ?_
            rintro e w3 ⟨hk3, J, rfl, hJ, hPJ⟩
            obtain ⟨ho1, ho2⟩ := HOO.out _ _ _ _ _ TRR.out J w3 hPJ
            have TO1 := Lib.hid ho1
            have TO2 := Lib.hid ho2
            have TPJ := Lib.hid hPJ
            have TJ := Lib.hid hJ
            have TK3 := Lib.hid hk3
            have hz3 := hk3.size
            have TR3 := Lib.hid (TR2.out.blk (hk3.block (p + 1) (by omega) (by omega)))
            clear hk3 hJ hPJ ho1 ho2
            go_wp2_with (first | (refine wp_load_info rfl _ rfl ib J TJ.out rfl ?_) | (refine wp_store_info rfl _ _ rfl (p + 1) (iv0 0 0 0) J TR3.out rfl rfl TO1.out TO2.out ?_; intro w4 hI4 hk4 hz4; (have HI4 := Lib.hid hI4); (have HK4 := Lib.hid hk4); clear hI4 hk4))
            refine bodyPost_ret (res_info Tryd.results40 HI4.out _ _ rfl rfl) rfl ?_
            have hszp := TB.out.size
            have hBp : Below p w0 w4 := (TB.out.mono (by omega)).trans ((TK.out.below (by omega) (by omega)).trans ((TK3.out.below (by omega) (by omega)).trans (HK4.out.below (by omega) (by omega))))
            have hB : Below w.heap.size w w4 := HB0.out.trans (hBp.mono (by rw [HP.out]; omega))
            refine ⟨hB, ?_⟩
            rw [TE.out]
            refine ⟨w2.heap.size, a2, n2, c2, by rw [HP.out]; omega, (sl_kb (sl_kb TS2.out TK3.out fun q h1 h2 => by have := TN2.out q h1 h2; omega) HK4.out fun q h1 h2 => by have := TN2.out q h1 h2; omega), TB2.out, ?_⟩
            rw [TRR.out]
            exact ⟨J, rfl, HPP.out _ _ _ _ _ TRR.out J w3 w4 (p + 1) (by omega) TPJ.out HK4.out⟩
/-- said, whatever the type. -/
theorem said_any (ty fl st : Int) (pa : Option Addr) (pn pc : Nat) (l : List UInt8) (w : World) (hp : Sl w pa pn pc l) (hn : pn ≤ 20000000) (hty : (Lit.int .i64 ty).wf = true) (R : RdF) (hpb : ∀ q, pa = some q → 0 < pn → q.block < w.heap.size)
    (hcf : ∀ args W, (callFunc (layM ty).rd args).run Tryd.prog W = .ok (.enter (layM ty).rd args) W)
    (hrd : ∀ p I a n c l W, Ib W p I → I.ty = ty → I.st = st ∧ I.sv = .slice none 0 0 ∧ I.dv = .slice none 0 0 → Sl W a n c l → n ≤ 20000000 → (∀ q, a = some q → 0 < n → q.block ≠ p) → Calls Tryd.prog (layM ty).rd #[.pointer (some ⟨p, 0, none⟩), .slice a n c] W (ReadPost p (R W.heap.size I (.slice a n c) l) W))
    (hP : ∀ B I v l P, R B I v l = .ok P → ∀ J W W' b, b < B → P J W → Kb b W W' → P J W') (hO : ∀ B I v l P, R B I v l = .ok P → ∀ J W, P J W → J.sv.oneCell' = true ∧ J.dv.oneCell' = true) :
    Calls Tryd.prog 40 #[frV ty fl st pa pn pc] w (SaidPost pa (ahead ty fl st l) R w) := by
  by_cases hk : Known ty
  · exact said_known ty fl st hk pa pn pc l w hp hn hty R hpb hcf hrd hP hO
  · exact said_other ty fl st hk pa pn pc l w hp hn hty R hpb hcf hrd hP hO
end Go.Proofs.YtefdkbdblocikaaDoor
