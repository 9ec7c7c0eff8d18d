/-
  CONTRACTS: said, whatever the type.
-/
import Derived.Test.YtefdkbdblocikaaDoorP
import Derived.Test.YtefdkbdblocikaaDoorB
import Derived.Test.YtefdkbdblocikaaDoorIa
import Derived.Deep.RegionHeld3
import Derived.Deep.CutBlock
namespace Go.Proofs.YtefdkbdblocikaaDoor
open Go.RowKit Hu

theorem four_set {w : World} {b : Nat} {x0 x1 x2 x3 : Value} (v0 v1 v2 v3 : Value) (h0 : w.cell? ⟨b, 0, none⟩ = some x0) (h1 : w.cell? ⟨b, 1, none⟩ = some x1) (h2 : w.cell? ⟨b, 2, none⟩ = some x2) (h3 : w.cell? ⟨b, 3, none⟩ = some x3) :
    ((((w.setCell ⟨b, 0, none⟩ v0).setCell ⟨b, 1, none⟩ v1).setCell ⟨b, 2, none⟩ v2).setCell ⟨b, 3, none⟩ v3).cell? ⟨b, 0, none⟩ = some v0 ∧ ((((w.setCell ⟨b, 0, none⟩ v0).setCell ⟨b, 1, none⟩ v1).setCell ⟨b, 2, none⟩ v2).setCell ⟨b, 3, none⟩ v3).cell? ⟨b, 1, none⟩ = some v1 ∧
    ((((w.setCell ⟨b, 0, none⟩ v0).setCell ⟨b, 1, none⟩ v1).setCell ⟨b, 2, none⟩ v2).setCell ⟨b, 3, none⟩ v3).cell? ⟨b, 2, none⟩ = some v2 ∧ ((((w.setCell ⟨b, 0, none⟩ v0).setCell ⟨b, 1, none⟩ v1).setCell ⟨b, 2, none⟩ v2).setCell ⟨b, 3, none⟩ v3).cell? ⟨b, 3, none⟩ = some v3 := by
  refine ⟨?_, ?_, ?_, ?_⟩
  · rw [cell_setN _ _ _ _ _ (by omega), cell_setN _ _ _ _ _ (by omega), cell_setN _ _ _ _ _ (by omega)]; exact cell_setS _ _ _ _ _ h0
  · rw [cell_setN _ _ _ _ _ (by omega), cell_setN _ _ _ _ _ (by omega)]; exact cell_setS _ _ _ _ _ (by rw [cell_setN _ _ _ _ _ (by omega)]; exact h1)
  · rw [cell_setN _ _ _ _ _ (by omega)]; exact cell_setS _ _ _ _ _ (by rw [cell_setN _ _ _ _ _ (by omega), cell_setN _ _ _ _ _ (by omega)]; exact h2)
  · exact cell_setS _ _ _ _ _ (by rw [cell_setN _ _ _ _ _ (by omega), cell_setN _ _ _ _ _ (by omega), cell_setN _ _ _ _ _ (by omega)]; exact h3)
/-- What a reading is, by the world's size ahead of it, what was read ahead, the slice, its bytes. -/
abbrev RdF := Nat → IV → Value → List UInt8 → Rd
/-- What a frame's marks and padding say. -/
def ahead (ty fl st : Int) (l : List UInt8) : Except (Int × Int) (IV × List UInt8) :=
  if allowsM (layM ty).wh st = false then .error (1, 0) else unpad (flagsF fl (layM ty).F (iv0 ty (if Known ty then 0 else fl) st)) l
def SaidPost (pa : Option Addr) (x : Except (Int × Int) (IV × List UInt8)) (R : RdF) (w : World) (e : Ending) (w' : World) : Prop := Below w.heap.size w w' ∧ match x with
  | .error (k, s) => ∃ v, e = .returned (.tuple #[(iv0 0 0 0).val, v]) ∧ HErr w' w.heap.size v k s
  | .ok (I, l) => ∃ B a n c, w.heap.size ≤ B ∧ Sl w' a n c l ∧ (∀ q, a = some q → ∃ q0, pa = some q0 ∧ q.block = q0.block) ∧ match R B I (.slice a n c) l with
    | .er k s => ∃ v, e = .returned (.tuple #[(iv0 0 0 0).val, v]) ∧ HErr w' w.heap.size v k s
    | .ok P => ∃ J, e = .returned (.tuple #[J.val, .nilIface]) ∧ P J w'

theorem ib_flag {w : World} {p : Nat} {I : IV} (h : Ib w p I) {off : Nat} (h3 : 3 ≤ off) (h7 : off ≤ 7) : ∃ b, w.cell? ⟨p, off, none⟩ = some (.bool b) := by
  have hc : off = 3 ∨ off = 4 ∨ off = 5 ∨ off = 6 ∨ off = 7 := by omega
  rcases hc with rfl | rfl | rfl | rfl | rfl
  all_goals exact ⟨_, h.c _ _ rfl⟩
theorem unpad_same {I J : IV} {l m : List UInt8} (h : unpad I l = .ok (J, m)) : J.ty = I.ty ∧ (J.st = I.st ∧ J.sv = I.sv ∧ J.dv = I.dv) ∧ m.length ≤ l.length := by
  unfold unpad at h
  split at h
  · cases h
    exact ⟨rfl, ⟨rfl, rfl, rfl⟩, Nat.le_refl _⟩
  · split at h
    · cases h
    · split at h
      · cases h
      · cases h
        exact ⟨rfl, ⟨rfl, rfl, rfl⟩, by simp only [List.length_take, List.length_cons]; omega⟩
theorem setF_same (I : IV) (off : Nat) (b : Bool) : (setF I off b).ty = I.ty ∧ (setF I off b).st = I.st ∧ (setF I off b).sv = I.sv ∧ (setF I off b).dv = I.dv := by
  unfold setF
  repeat' split
  all_goals exact ⟨rfl, rfl, rfl, rfl⟩
theorem flagsF_same (fl : Int) : ∀ (F : List Flg) (I : IV), (flagsF fl F I).ty = I.ty ∧ (flagsF fl F I).st = I.st ∧ (flagsF fl F I).sv = I.sv ∧ (flagsF fl F I).dv = I.dv
  | [], _ => ⟨rfl, rfl, rfl, rfl⟩
  | f :: F, I => by
    have h := flagsF_same fl F (setF I f.off (fbit fl f.bit))
    have k := setF_same I f.off (fbit fl f.bit)
    exact ⟨h.1.trans k.1, h.2.1.trans k.2.1, h.2.2.1.trans k.2.2.1, h.2.2.2.trans k.2.2.2⟩
theorem f_len (ty : Int) : (layM ty).F.length ≤ 4 := by
  unfold layM
  repeat' split
  all_goals decide
theorem frozen_new (w : World) (cs : Array Value) (ty : TypeId) (i : Nat) : (w.alloc (.cells cs ty)).frozen? ⟨w.heap.size, i, none⟩ = false := by
  have hb := (MapKept.heap_alloc w (.cells cs ty)).1
  simp only [World.frozen?, hb]
  simp
theorem frozen_newD (w : World) (cs : Array Value) (ty : TypeId) (i : Nat) : (w.alloc (.cells cs ty)).drew.frozen? ⟨w.heap.size, i, none⟩ = false := frozen_new w cs ty i
theorem wh_any (ty : Int) : (layM ty).wh = 0 ∨ (layM ty).wh = 1 ∨ (layM ty).wh = 2 := by
  unfold layM
  repeat' split
  all_goals simp
set_option maxRecDepth 100000 in
set_option maxHeartbeats 8000000 in
theorem said_known (ty fl st : Int) (hk : Known ty) (pa : Option Addr) (pn pc : Nat) (l : List UInt8) (w : World) (hp : Sl w pa pn pc l) (hn : pn ≤ 20000000) (hty : (Lit.int .i64 ty).wf = true) (R : RdF) (hpb : ∀ q, pa = some q → 0 < pn → q.block < w.heap.size)
    (hcf : ∀ args W, (callFunc (layM ty).rd args).run Tryd.prog W = .ok (.enter (layM ty).rd args) W)
    (hrd : ∀ p I a n c l W, Ib W p I → I.ty = ty → I.st = st ∧ I.sv = .slice none 0 0 ∧ I.dv = .slice none 0 0 → Sl W a n c l → n ≤ 20000000 → (∀ q, a = some q → 0 < n → q.block ≠ p) → Calls Tryd.prog (layM ty).rd #[.pointer (some ⟨p, 0, none⟩), .slice a n c] W (ReadPost p (R W.heap.size I (.slice a n c) l) W))
    (hP : ∀ B I v l P, R B I v l = .ok P → ∀ J W W' b, b < B → P J W → Kb b W W' → P J W') (hO : ∀ B I v l P, R B I v l = .ok P → ∀ J W, P J W → J.sv.oneCell' = true ∧ J.dv.oneCell' = true) :
    Calls Tryd.prog 40 #[frV ty fl st pa pn pc] w (SaidPost pa (ahead ty fl st l) R w) := by
  have hF0 := fb_new w ty fl st pa pn pc
  have hz0 : ((w.alloc (.cells #[.int .i64 ty, .int .i64 fl, .int .i64 st, .slice pa pn pc] 24)).alloc (.cells #[.int .i64 0, .int .i64 0, .int .i64 0, .bool false, .bool false, .bool false, .bool false, .bool false, .bool false, .int .i64 0, .int .i64 0, .int .i64 0, .int .i64 0, .int .i64 0, .int .i64 0, .int .i64 0, .slice none 0 0, .slice none 0 0] 47)).heap.size = w.heap.size + 1 + 1 := by simp
  have hr0 := ib_new (w.alloc (.cells #[.int .i64 ty, .int .i64 fl, .int .i64 st, .slice pa pn pc] 24)) (iv0 0 0 0)
  have hb0 : Below w.heap.size w ((w.alloc (.cells #[.int .i64 ty, .int .i64 fl, .int .i64 st, .slice pa pn pc] 24)).alloc (.cells #[.int .i64 0, .int .i64 0, .int .i64 0, .bool false, .bool false, .bool false, .bool false, .bool false, .bool false, .int .i64 0, .int .i64 0, .int .i64 0, .int .i64 0, .int .i64 0, .int .i64 0, .int .i64 0, .slice none 0 0, .slice none 0 0] 47)) := ((Below.refl _ w).alloc (Nat.le_refl _) _).alloc (by simp) _
  have hF1 := hF0.kept (B := w.heap.size + 1) (w' := (w.alloc (.cells #[.int .i64 ty, .int .i64 fl, .int .i64 st, .slice pa pn pc] 24)).alloc (.cells #[.int .i64 0, .int .i64 0, .int .i64 0, .bool false, .bool false, .bool false, .bool false, .bool false, .bool false, .int .i64 0, .int .i64 0, .int .i64 0, .int .i64 0, .int .i64 0, .int .i64 0, .int .i64 0, .slice none 0 0, .slice none 0 0] 47)) ((Below.refl _ _).alloc (by simp) _) (by omega)
  simp only [iv0, World.size_alloc] at hr0
  generalize hw0 : (w.alloc (.cells #[.int .i64 ty, .int .i64 fl, .int .i64 st, .slice pa pn pc] 24)).alloc (.cells #[.int .i64 0, .int .i64 0, .int .i64 0, .bool false, .bool false, .bool false, .bool false, .bool false, .bool false, .int .i64 0, .int .i64 0, .int .i64 0, .int .i64 0, .int .i64 0, .int .i64 0, .int .i64 0, .slice none 0 0, .slice none 0 0] 47) = w0 at hz0 hr0 hb0 hF1
  have HW0 := Lib.hid hw0
  have HF1 := Lib.hid hF1
  have HR0 := Lib.hid hr0
  have HB0 := Lib.hid hb0
  have HPW := Lib.hid hp
  have HRD := Lib.hid hrd
  have HPP := Lib.hid hP
  have HOO := Lib.hid hO
  have HPB := Lib.hid hpb
  have HTY := Lib.hid hty
  clear hF0 hr0 hb0 hF1 hw0 hp hrd hP hO hpb hty
  generalize hpz : w.heap.size = p at hz0 HF1 HR0
  have HP := Lib.hid hpz
  clear hpz
  go_enter Tryd.func40, Tryd.ntmps40
  go_upto_region 1 with fail
  rw [HW0.out, HP.out]
  have f0 := HF1.out.c0
  have HLAY : Hid (∀ W, Below w0.heap.size w0 W → Calls Tryd.prog 56 #[] W fun e w' => ∃ mb s0 s1 s4 s5 s6 s9, e = .returned (.map (some mb)) ∧ Lays w' mb s0 s1 s4 s5 s6 s9 ∧ Below W.heap.size W w' ∧ (W.heap.size ≤ s0 ∧ W.heap.size ≤ s1 ∧ W.heap.size ≤ s4 ∧ W.heap.size ≤ s5 ∧ W.heap.size ≤ s6 ∧ W.heap.size ≤ s9) ∧ w'.cell? ⟨p, 0, none⟩ = some (.int .i64 ty) ∧ (∀ o, w0.heap.size < W.heap.size → w'.cell? ⟨w0.heap.size, o, none⟩ = W.cell? ⟨w0.heap.size, o, none⟩) ∧ (∀ o, w0.heap.size < W.heap.size → w'.frozen? ⟨w0.heap.size, o, none⟩ = W.frozen? ⟨w0.heap.size, o, none⟩)) := Lib.hid (fun W hW => (layouts_any W).mono fun e w' ⟨mb, s0, s1, s4, s5, s6, s9, he, hL, hb, hss⟩ => ⟨mb, s0, s1, s4, s5, s6, s9, he, hL, hb, hss, ((hW.trans (hb.mono hW.size)).cell (p := ⟨p, 0, none⟩) (show p < w0.heap.size from Hu.cell_lt f0)).trans f0, fun o h => hb.cell (p := ⟨w0.heap.size, o, none⟩) h, fun o h => hb.frozen (p := ⟨w0.heap.size, o, none⟩) h⟩)
  have HZ0 := Lib.hid hz0
  have hne0 : ¬ p = w0.heap.size := by omega
  have hne1 : ¬ w0.heap.size = p := by omega
  have hlt0 : p < w0.heap.size := by omega
  have f0a : (w0.alloc (.cells #[.int .i64 0, .slice none 0 0, .nilFunc, .nilFunc] 97)).cell? ⟨p, 0, none⟩ = some (.int .i64 ty) := (World.cell?_alloc_lt _ _ _ (Hu.cell_lt f0)).trans f0
  clear hz0
  · go_cut [4, 5] from 11 to 17 (fun s4 s5 wx => ∃ lb s, s4 = .pointer (some ⟨lb, 0, none⟩) ∧ s5 = .bool true ∧ p + 2 ≤ lb ∧ Below (p + 2) w0 wx ∧ Fls wx s (layM ty).F ∧ wx.cell? ⟨lb, 0, none⟩ = some (.int .i64 (layM ty).wh) ∧ wx.cell? ⟨lb, 1, none⟩ = some s ∧ wx.cell? ⟨lb, 2, none⟩ = some (fnV (layM ty).rd) ∧ wx.cell? ⟨lb, 3, none⟩ = some (fnV (layM ty).wr))
    case first =>
      go_region_with (first | (refine (HLAY.out _ (by repeat (first | exact Below.refl _ _ | (refine Below.drew ?_) | (refine Below.alloc ?_ (by first | omega | (simp; omega)) _) | (refine bdN ?_ _)))).mono ?_; rintro e w1 ⟨mb, s0, s1, s4, s5, s6, s9, rfl, hL, hb1, hss, f1, hcl, hfl⟩; (have f1a : (w1.alloc (.cells #[.int .i64 0, .slice none 0 0, .nilFunc, .nilFunc] 97)).cell? ⟨p, 0, none⟩ = some (.int .i64 ty) := (World.cell?_alloc_lt _ _ _ (Hu.cell_lt f1)).trans f1); (have hlk := lays_yes hL ty hk); (have hlk2 := lays_yes (hL.kept ((Below.refl _ w1).alloc (Nat.le_refl _) (.cells #[.int .i64 0, .slice none 0 0, .nilFunc, .nilFunc] 97))) ty hk); (have hfs := lays_fls hL ty hk); obtain ⟨sa, hse, hrow⟩ := hfs.form; rw [hse] at hlk hlk2; (have HFS := Lib.hid hfs); (have HSE := Lib.hid hse); (have HB1 := Lib.hid hb1); (have HCL := Lib.hid hcl); (have HSA := Lib.hid (layS_at hss hse)); clear hfs hb1 hse hrow hL hss; go_simp))
      all_goals (go_wp2_with fail; go_meet)
      all_goals (have hfs := HFS.out; rw [HSE.out] at hfs)
      all_goals (have h1 := HB1.out.size; have h2 := HZ0.out; simp at h1)
      all_goals first
        | exact ⟨_, _, rfl, rfl, by omega, (((Below.refl _ w0).drew).trans (HB1.out.mono (by simp; omega))).alloc (by omega) _, hfs.kept ((Below.refl _ _).alloc (Nat.le_refl _) _), by simp, by simp, by simp, by simp⟩
        | (have q := four_set (b := w0.heap.size) (x0 := .int .i64 0) (x1 := .slice none 0 0) (x2 := .nilFunc) (x3 := .nilFunc) (.int .i64 (layM ty).wh) (.slice sa (layM ty).F.length (layM ty).F.length) (fnV (layM ty).rd) (fnV (layM ty).wr) ((HCL.out 0 (by simp)).trans (by simp)) ((HCL.out 1 (by simp)).trans (by simp)) ((HCL.out 2 (by simp)).trans (by simp)) ((HCL.out 3 (by simp)).trans (by simp))
           have hsa : ∀ q, sa = some q → q.block ≠ w0.heap.size := fun q hq => by
             have := HSA.out q hq
             simp at this
             omega
           have hB1 : Below (p + 2) w0 w1 := by
             refine Below.trans ?_ (HB1.out.mono (by simp; omega))
             repeat (first | exact Below.refl _ _ | (refine Below.drew ?_) | (refine Below.alloc ?_ (by first | omega | (simp; omega)) _))
           exact ⟨_, _, rfl, rfl, by omega, (((hB1.setCell (show p + 2 ≤ w0.heap.size by omega) _).setCell (show p + 2 ≤ w0.heap.size by omega) _).setCell (show p + 2 ≤ w0.heap.size by omega) _).setCell (show p + 2 ≤ w0.heap.size by omega) _, (((hfs.setCell hsa _ _).setCell hsa _ _).setCell hsa _ _).setCell hsa _ _, q⟩)
    case rest =>
      obtain ⟨lb, s, rfl, rfl, hlb, hbc, hfs, l0, l1, l2, l3⟩ := hcut
      obtain ⟨sa, hse, hrow⟩ := hfs.form
      subst hse
      have HFS := Lib.hid hfs
      have HBC := Lib.hid hbc
      have hzc := hbc.size
      have hz0 := HZ0.out
      obtain ⟨g0, g1, g2, g3⟩ := HF1.out.kept hbc (by omega)
      have HRB := Lib.hid (HR0.out.kept hbc (by omega))
      have HFB : Hid (Fb wc p ty fl st pa pn pc) := Lib.hid ⟨g0, g1, g2, g3⟩
      have HLB : Hid (wc.cell? ⟨lb, 0, none⟩ = some (.int .i64 (layM ty).wh) ∧ wc.cell? ⟨lb, 1, none⟩ = some (.slice sa (layM ty).F.length (layM ty).F.length) ∧ wc.cell? ⟨lb, 2, none⟩ = some (fnV (layM ty).rd)) := Lib.hid ⟨l0, l1, l2⟩
      have hlbl := Hu.cell_lt l0
      simp only at hlbl
      clear hfs hbc hrow f0 f0a HLAY hne0 hne1 hlt0
      have hpl : p < wc.heap.size := by omega
      go_upto_region 6 with fail
      have hib := ib_new wc (iv0 ty 0 st)
      simp only [iv0] at hib
      have hz2 : (wc.alloc (.cells #[.int .i64 ty, .int .i64 0, .int .i64 st, .bool false, .bool false, .bool false, .bool false, .bool false, .bool false, .int .i64 0, .int .i64 0, .int .i64 0, .int .i64 0, .int .i64 0, .int .i64 0, .int .i64 0, .slice none 0 0, .slice none 0 0] 47)).heap.size = wc.heap.size + 1 := by simp
      have hb2 : Below wc.heap.size wc (wc.alloc (.cells #[.int .i64 ty, .int .i64 0, .int .i64 st, .bool false, .bool false, .bool false, .bool false, .bool false, .bool false, .int .i64 0, .int .i64 0, .int .i64 0, .int .i64 0, .int .i64 0, .int .i64 0, .int .i64 0, .slice none 0 0, .slice none 0 0] 47)) := (Below.refl _ wc).alloc (Nat.le_refl _) _
      generalize wc.alloc (.cells #[.int .i64 ty, .int .i64 0, .int .i64 st, .bool false, .bool false, .bool false, .bool false, .bool false, .bool false, .int .i64 0, .int .i64 0, .int .i64 0, .int .i64 0, .int .i64 0, .int .i64 0, .int .i64 0, .slice none 0 0, .slice none 0 0] 47) = w2 at hib hz2 hb2 ⊢
      have HIB : Hid (Ib w2 wc.heap.size (iv0 ty 0 st)) := Lib.hid hib
      have HFS2 := Lib.hid (HFS.out.kept hb2)
      have HFB2 := Lib.hid (HFB.out.kept hb2 hpl)
      have HRB2 := Lib.hid (HRB.out.kept hb2 (by omega))
      have l02 := (hb2.cell (p := ⟨lb, 0, none⟩) hlbl).trans l0
      have l12 := (hb2.cell (p := ⟨lb, 1, none⟩) hlbl).trans l1
      have l22 := (hb2.cell (p := ⟨lb, 2, none⟩) hlbl).trans l2
      obtain ⟨g02, g12, g22, g32⟩ := HFB2.out
      have HB2 : Hid (Below (p + 2) w0 w2) := Lib.hid (HBC.out.trans (hb2.mono (by omega)))
      have HB2C := Lib.hid hb2
      have HPLC := Lib.hid hpl
      generalize hib' : wc.heap.size = ib at hib hz2 hb2 HIB hlbl hpl hzc HB2C ⊢
      have HIBE := Lib.hid hib'
      clear hib hb2 g0 g1 g2 g3 l0 l1 l2 l3 hib'
      have HAL := Lib.hid (allows_any (layM ty).wh st (wh_any ty) w2)
      cases hal : allowsM (layM ty).wh st with
      | false =>
        have HAH : Hid (ahead ty fl st l = .error (1, 0)) := Lib.hid (by unfold ahead; rw [if_pos hal])
        rw [hal] at HAL
        go_wp2_with fail
        refine HAL.out.mono ?_
        rintro e w' ⟨rfl, rfl⟩
        go_wp2_with fail
        refine (h2_any _ _ _).mono ?_
        rintro e w3 ⟨⟨v, rfl, hv⟩, hb3⟩
        have HV : Hid (HErr w3 w2.heap.size v 1 0) := Lib.hid hv
        obtain ⟨g, _, hvg, _, _⟩ := hv
        subst hvg
        have HR3 := Lib.hid (HRB2.out.kept hb3 (by omega))
        clear HAL l02 l12 l22 g02 g12 g22 g32
        have hz3 := hb3.size
        have HB3 := Lib.hid hb3
        clear hb3
        go_wp2_with (refine wp_store_info rfl _ _ rfl (p + 1) (iv0 0 0 0) (iv0 0 0 0) HR3.out rfl rfl rfl rfl ?_; intro w4 hI4 hk4 hz4; (have HI4 := Lib.hid hI4); (have HK4 := Lib.hid hk4); clear hI4 hk4)
        refine bodyPost_ret (res_info Tryd.results40 HI4.out _ _ rfl rfl) rfl ?_
        have hBp : Below p w0 w4 := (HB2.out.mono (by omega)).trans ((HB3.out.mono (by omega)).trans (HK4.out.below (by omega) (by omega)))
        have hB : Below w.heap.size w w4 := HB0.out.trans (hBp.mono (by rw [HP.out]; omega))
        refine ⟨hB, ?_⟩
        rw [HAH.out]
        refine ⟨_, rfl, ?_⟩
        exact (HV.out.blk fun g h1 h2 => HK4.out.block g h2 (by omega)).mono (by have h1 := HB2.out.size; have h2 := HB0.out.size; omega)
      | true =>
        have HAH : Hid (ahead ty fl st l = unpad (flagsF fl (layM ty).F (iv0 ty 0 st)) l) := Lib.hid (by unfold ahead; rw [if_neg (by rw [hal]; decide), if_pos hk])
        rw [hal] at HAL
        go_wp2_with fail
        refine HAL.out.mono ?_
        rintro e w' ⟨rfl, rfl⟩
        have hfa := flag_any ty
        have HFA := Lib.hid hfa
        clear hfa g02 g12 g22 g32 l02 l22 HAL
        have HF4 := Lib.hid (f_len ty)
        generalize hF : (layM ty).F = F at *
        go_wp2_with fail
        go_loopw [40] (fun s40 wr => ∃ i : Nat, s40 = .int .i64 (i : Int) ∧ i ≤ F.length ∧ Below ib wc wr ∧ Ib wr ib (flagsF fl (F.take i) (iv0 ty 0 st))) (fun s40 _ => F.length - (intOf s40).toNat)
        case atStart => exact ⟨0, rfl, by omega, HB2C.out, by simpa [flagsF] using HIB.out⟩
        case round =>
          obtain ⟨i, rfl, hi, hBr, hIr⟩ := hrel
          have hzr := hBr.size
          have HBR := Lib.hid hBr
          have HIR := Lib.hid hIr
          clear hIr
          have hsz : ib ≤ wr.heap.size := by have := HIBE.out; omega
          by_cases hiF : i < F.length
          · have hlt : (i : Int) < (F.length : Int) := by omega
            have hfr := HFS.out.kept (w' := wr) (by rw [HIBE.out]; exact hBr)
            obtain ⟨a0, he0, hrow⟩ := hfr.form
            obtain ⟨b, hab, q0, q1⟩ := hrow i hiF
            rw [hab] at he0
            injection he0 with he0
            subst he0
            obtain ⟨r0, r1, r2, r3⟩ := HFB.out.kept hBr hpl
            obtain ⟨⟨hcf1, hfn1⟩, _, ho3, ho7⟩ := HFA.out F[i] (List.getElem_mem hiF)
            have HFT := Lib.hid (flagsF_take fl F (iv0 ty 0 st) hiF)
            obtain ⟨b0, c0⟩ := ib_flag HIR.out ho3 ho7
            have z0 := HIR.out.z (F[i]).off
            have HSF := Lib.hid (fun W => Ib.setF (w := W) (p := ib) (I := flagsF fl (F.take i) (iv0 ty 0 st)) (off := (F[i]).off) (h3 := ho3) (h7 := ho7))
            generalize F[i].bit = bit at q0 HFT
            generalize F[i].fn = fn at q1 hcf1 hfn1
            generalize F[i].off = off at HFT c0 z0 hfn1 HSF
            have HFN := Lib.hid hfn1
            have HHI := Lib.hid hi
            have hil := HIR.out.lt
            have hpr : p < wr.heap.size := by omega
            clear hfr hrow r0 r2 r3 hab hBr hi hfn1 ho3 ho7
            go_upto_region 11 with fail
            have k0 : (wr.alloc (.cells #[.int .i64 (bit : Int), .func (.func fn) #[] #[]] 105)).cell? ⟨wr.heap.size, 0, none⟩ = some (.int .i64 (bit : Int)) := by simp
            have k1 : (wr.alloc (.cells #[.int .i64 (bit : Int), .func (.func fn) #[] #[]] 105)).cell? ⟨wr.heap.size, 1, none⟩ = some (.func (.func fn) #[] #[]) := by simp
            have kp : (wr.alloc (.cells #[.int .i64 (bit : Int), .func (.func fn) #[] #[]] 105)).cell? ⟨p, 1, none⟩ = some (.int .i64 fl) := (World.cell?_alloc_lt _ _ _ hpr).trans r1
            have ki : (wr.alloc (.cells #[.int .i64 (bit : Int), .func (.func fn) #[] #[]] 105)).cell? ⟨ib, off, none⟩ = some (.bool b0) := (World.cell?_alloc_lt _ _ _ hil).trans c0
            have kb := (Below.refl _ wr).alloc (Nat.le_refl _) (.cells #[.int .i64 (bit : Int), .func (.func fn) #[] #[]] 105)
            have kz : (wr.alloc (.cells #[.int .i64 (bit : Int), .func (.func fn) #[] #[]] 105)).frozen? ⟨ib, off, none⟩ = false := (kb.frozen (p := ⟨ib, off, none⟩) hil).trans z0
            have KI := Lib.hid (HIR.out.kept kb hil)
            have KB := Lib.hid (HBR.out.trans (kb.mono hsz))
            generalize wr.alloc (.cells #[.int .i64 (bit : Int), .func (.func fn) #[] #[]] 105) = w3 at k0 k1 kp ki kz KI KB ⊢
            clear kb c0 z0 q0 q1 r1
            go_region_with (first | (refine (HFN.out _ _).mono ?_; rintro e w' ⟨rfl, rfl⟩; go_simp))
            all_goals
              have h4 := HF4.out
              have h5 := HHI.out
              go_wp2_with fail
              refine ⟨⟨i + 1, by go_num, by omega, (KB.out.setCell (Nat.le_refl ib) _).drew, ?_⟩, by simp [intOf]; omega⟩
              rw [HFT.out]
              exact (HSF.out w3 KI.out (fbit fl bit)).blk rfl
          · have hge : ¬ (i : Int) < (F.length : Int) := by omega
            obtain rfl : i = F.length := by omega
            have TI : Hid (Ib wr ib (flagsF fl F (iv0 ty 0 st))) := Lib.hid (by have := HIR.out; rwa [List.take_length] at this)
            have TB : Hid (Below (p + 2) w0 wr) := Lib.hid (HBC.out.trans (hBr.mono (by omega)))
            have TR := Lib.hid (HRB.out.kept hBr (by omega))
            have TL := (hBr.cell (p := ⟨lb, 2, none⟩) hlbl).trans HLB.out.2.2
            obtain ⟨_, _, _, TF⟩ := HFB.out.kept hBr hpl
            have hpz := HP.out
            have TS := Lib.hid (HPW.out.kept (HB0.out.trans (TB.out.mono (by omega))))
            obtain ⟨TT, TU⟩ := flagsF_same fl F (iv0 ty 0 st)
            have TTH := Lib.hid TT
            have TUH := Lib.hid TU
            have hlb1 : lb ≠ ib := by omega
            have hp1 : p + 2 ≤ ib := by have := HIBE.out; omega
            clear HFA HIR hge HRB HFB HFS HLB HBR hBr hpz TT TU HIB HFB2 HRB2 HB2 HB2C HFS2
            generalize flagsF fl F (iv0 ty 0 st) = I1 at TI TTH TUH HAH
            have TNE : ∀ q, pa = some q → 0 < pn → q.block ≠ ib := fun q h1 h2 => by have := HPB.out q h1 h2; have := HP.out; omega
            have TU := Lib.hid (unpad_any ib I1 pa pn pc l wr TI.out TS.out hn TNE)
            have hib1 := TI.out.lt
            have hlb2 := Hu.cell_lt TL
            simp only at hlb2
            cases hu : unpad I1 l with
            | error ks =>
              obtain ⟨k, s⟩ := ks
              rw [hu] at TU
              have TE := Lib.hid (HAH.out.trans hu)
              clear hu TNE
              go_wp2_with fail
              refine TU.out.mono ?_
              rintro e w2 ⟨hk2, v, rfl, hv⟩
              have HV := Lib.hid hv
              obtain ⟨g, _, hvg, _, _⟩ := hv
              subst hvg
              have TK := Lib.hid hk2
              have hz2 := hk2.size
              have TR2 := Lib.hid (TR.out.blk (hk2.block (p + 1) (by omega) (by omega)))
              clear hk2
              go_wp2_with (refine wp_store_info rfl _ _ rfl (p + 1) (iv0 0 0 0) (iv0 0 0 0) TR2.out rfl rfl rfl rfl ?_; intro w4 hI4 hk4 hz4; (have HI4 := Lib.hid hI4); (have HK4 := Lib.hid hk4); clear hI4 hk4)
              refine bodyPost_ret (res_info Tryd.results40 HI4.out _ _ rfl rfl) rfl ?_
              have hszp := TB.out.size
              have hBp : Below p w0 w4 := (TB.out.mono (by omega)).trans ((TK.out.below (by omega) (by omega)).trans (HK4.out.below (by omega) (by omega)))
              have hB : Below w.heap.size w w4 := HB0.out.trans (hBp.mono (by rw [HP.out]; omega))
              refine ⟨hB, ?_⟩
              rw [TE.out]
              refine ⟨_, rfl, ?_⟩
              exact (HV.out.blk fun g h1 h2 => HK4.out.block g h2 (by omega)).mono (by rw [HP.out]; omega)
            | ok il =>
              obtain ⟨I2, l2⟩ := il
              rw [hu] at TU
              have TE := Lib.hid (HAH.out.trans hu)
              obtain ⟨ht2, hs2, hl2⟩ := unpad_same hu
              clear hu TNE
              go_wp2_with fail
              refine TU.out.mono ?_
              rintro e w2 ⟨hk2, a2, n2, c2, rfl, hI2, hS2, hb2⟩
              have hz2 := hk2.size
              have TK := Lib.hid hk2
              have TR2 := Lib.hid (TR.out.blk (hk2.block (p + 1) (by omega) (by omega)))
              have hn2 : n2 ≤ pn := by have h1 := hS2.len; have h2 := TS.out.len; omega
              have TN2 : Hid (∀ q, a2 = some q → 0 < n2 → q.block < p) := Lib.hid (fun q h1 h2 => by
                obtain ⟨q0, h3, h4⟩ := hb2 q h1
                have h5 := HPB.out q0 h3 (by omega)
                have h6 := HP.out
                omega)
              have TB2 := Lib.hid hb2
              have TS2 := Lib.hid hS2
              have TQ := Lib.hid (HRD.out ib I2 a2 n2 c2 l2 w2 hI2 (ht2.trans TTH.out) ⟨hs2.1.trans TUH.out.1, hs2.2.1.trans TUH.out.2.1, hs2.2.2.trans TUH.out.2.2⟩ hS2 (by omega) (fun q h1 h2 => by have := TN2.out q h1 h2; omega))
              have TL2 := (World.cell?_of_block (a := ⟨lb, 2, none⟩) (hk2.block lb hlb2 hlb1)).trans TL
              have HN2 := Lib.hid hn2
              clear hk2 hb2 hI2 hS2 ht2 hs2 hl2 hn2
              cases hr : R w2.heap.size I2 (.slice a2 n2 c2) l2 with
              | er k s =>
                rw [hr] at TQ
                have TRR := Lib.hid hr
                clear hr
                go_wp2_with fail
                refine TQ.out.mono ?_
                rintro e w3 ⟨hk3, v, rfl, hv⟩
                have HV := Lib.hid hv
                obtain ⟨g, _, hvg, _, _⟩ := hv
                subst hvg
                have TK3 := Lib.hid hk3
                have hz3 := hk3.size
                have TR3 := Lib.hid (TR2.out.blk (hk3.block (p + 1) (by omega) (by omega)))
                clear hk3
                go_wp2_with (refine wp_store_info rfl _ _ rfl (p + 1) (iv0 0 0 0) (iv0 0 0 0) TR3.out rfl rfl rfl rfl ?_; intro w4 hI4 hk4 hz4; (have HI4 := Lib.hid hI4); (have HK4 := Lib.hid hk4); clear hI4 hk4)
                refine bodyPost_ret (res_info Tryd.results40 HI4.out _ _ rfl rfl) rfl ?_
                have hszp := TB.out.size
                have hBp : Below p w0 w4 := (TB.out.mono (by omega)).trans ((TK.out.below (by omega) (by omega)).trans ((TK3.out.below (by omega) (by omega)).trans (HK4.out.below (by omega) (by omega))))
                have hB : Below w.heap.size w w4 := HB0.out.trans (hBp.mono (by rw [HP.out]; omega))
                refine ⟨hB, ?_⟩
                rw [TE.out]
                refine ⟨w2.heap.size, a2, n2, c2, by rw [HP.out]; omega, (sl_kb (sl_kb TS2.out TK3.out fun q h1 h2 => by have := TN2.out q h1 h2; omega) HK4.out fun q h1 h2 => by have := TN2.out q h1 h2; omega), TB2.out, ?_⟩
                rw [TRR.out]
                refine ⟨_, rfl, ?_⟩
                exact (HV.out.blk fun g h1 h2 => HK4.out.block g h2 (by omega)).mono (by rw [HP.out]; omega)
              | ok P =>
                rw [hr] at TQ
                have TRR := Lib.hid hr
                clear hr
                go_wp2_with fail
                refine TQ.out.mono ?_
                rintro e w3 ⟨hk3, J, rfl, hJ, hPJ⟩
                obtain ⟨ho1, ho2⟩ := HOO.out _ _ _ _ _ TRR.out J w3 hPJ
                have TO1 := Lib.hid ho1
                have TO2 := Lib.hid ho2
                have TPJ := Lib.hid hPJ
                have TJ := Lib.hid hJ
                have TK3 := Lib.hid hk3
                have hz3 := hk3.size
                have TR3 := Lib.hid (TR2.out.blk (hk3.block (p + 1) (by omega) (by omega)))
                clear hk3 hJ hPJ ho1 ho2
                go_wp2_with (first | (refine wp_load_info rfl _ rfl ib J TJ.out rfl ?_) | (refine wp_store_info rfl _ _ rfl (p + 1) (iv0 0 0 0) J TR3.out rfl rfl TO1.out TO2.out ?_; intro w4 hI4 hk4 hz4; (have HI4 := Lib.hid hI4); (have HK4 := Lib.hid hk4); clear hI4 hk4))
                refine bodyPost_ret (res_info Tryd.results40 HI4.out _ _ rfl rfl) rfl ?_
                have hszp := TB.out.size
                have hBp : Below p w0 w4 := (TB.out.mono (by omega)).trans ((TK.out.below (by omega) (by omega)).trans ((TK3.out.below (by omega) (by omega)).trans (HK4.out.below (by omega) (by omega))))
                have hB : Below w.heap.size w w4 := HB0.out.trans (hBp.mono (by rw [HP.out]; omega))
                refine ⟨hB, ?_⟩
                rw [TE.out]
                refine ⟨w2.heap.size, a2, n2, c2, by rw [HP.out]; omega, (sl_kb (sl_kb TS2.out TK3.out fun q h1 h2 => by have := TN2.out q h1 h2; omega) HK4.out fun q h1 h2 => by have := TN2.out q h1 h2; omega), TB2.out, ?_⟩
                rw [TRR.out]
                exact ⟨J, rfl, HPP.out _ _ _ _ _ TRR.out J w3 w4 (p + 1) (by omega) TPJ.out HK4.out⟩
end Go.Proofs.YtefdkbdblocikaaDoor
