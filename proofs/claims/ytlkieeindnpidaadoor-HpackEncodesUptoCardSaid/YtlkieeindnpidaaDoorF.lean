/-
  CONTRACTS: the encoder's addHeader.
-/
import Derived.Test.YtlkieeindnpidaaDoorE
import Derived.Deep.DeepCutAuto
import Derived.Deep.CutBlock
namespace Go.Proofs.YtlkieeindnpidaaDoor
open Go.RowKit Tt Hu Hu.Hf

theorem fnd_le (n v : ByteArray) (K : Nat) (l : List Tt.Told) (h : ∀ y ∈ l, y.1 ≤ K) : (fnd n v l).1 ≤ K := by
  unfold fnd
  cases hf : l.find? (hit n v) with
  | some x => exact h x (List.mem_of_find?_eq_some hf)
  | none =>
    have key : ∀ (l : List Tt.Told) (a : Nat), a ≤ K → (∀ y ∈ l, y.1 ≤ K) → l.foldl (fun a x => if x.2.1 = n then (if a = 0 then x.1 else a) else a) a ≤ K := by
      intro l
      induction l with
      | nil => intro a ha _; exact ha
      | cons x t ih =>
        intro a ha hl
        refine ih _ ?_ (fun y hy => hl y (List.mem_cons_of_mem _ hy))
        have hx := hl x List.mem_cons_self
        show (if x.2.1 = n then (if a = 0 then x.1 else a) else a) ≤ K
        split
        · split
          · exact hx
          · exact ha
        · exact ha
    exact key l 0 (Nat.zero_le _) h
theorem allL_le (M : List Hd) : ∀ y ∈ allL M, y.1 ≤ 61 + M.length := by
  intro y hy
  simp only [allL, stU, tabU, List.mem_append, List.mem_map, List.mem_range] at hy
  rcases hy with ⟨n, hn, rfl⟩ | ⟨n, hn, rfl⟩
  · show n + 1 ≤ _; omega
  · show 62 + n ≤ _; omega
theorem Own_below {w w' : World} {B : Nat} {v : Value} {l : List UInt8} (h : Hu.Own w B v l) (hb : Below w.heap.size w w') : Hu.Own w' B v l := h.kept hb

/-- Behind the index, before the texts. -/
def LitC (B b A H m : Nat) (M : List Hd) (o : Option Nat) (l : List UInt8) (hn hv : ByteArray) (nv : Bool) (fi : Nat) (w : World) (s1 : Value) (wx : World) : Prop := ∃ (a5 : Option Addr) (N5 c5 : Nat) (P : List UInt8) (M' : List Hd), s1 = .slice a5 N5 c5 ∧ Hu.Own wx B (.slice a5 N5 c5) (l ++ P) ∧ P.length ≤ 6 ∧
  Hid (encH m M ((hn, hv), nv) = (P ++ (if fi = 0 then ptext hn else []) ++ ptext hv, M')) ∧ Ec wx b A ⟨m, M', o⟩ ∧ Kq B A b w wx ∧ wx.cell? ⟨H, 0, none⟩ = some (.string hn) ∧ wx.cell? ⟨H, 1, none⟩ = some (.string hv) ∧ (Value.slice a5 N5 c5).ownBlock ≠ some H
theorem own_old {w : World} {B : Nat} {v : Value} {l : List UInt8} (h : Hu.Own w B v l) {x : Nat} (hx : w.heap.size ≤ x) : v.ownBlock ≠ some x := by
  intro e
  have := (World.ownsRow.lt h x e).2
  omega
set_option maxRecDepth 100000 in
set_option maxHeartbeats 8000000 in
theorem addHeader_any (B b A : Nat) (s : ES) (h : Hn) (a : Option Addr) (N c : Nat) (l : List UInt8) (w : World) (hE : Ec w b A s) (ho : Hu.Own w B (.slice a N c) l) (hB : B ≤ w.heap.size) (hb : b < B)
    (h1 : h.1.1.size ≤ 1048576) (h2 : h.1.2.size ≤ 1048576) (hl : l.length ≤ 800000000) :
    Calls Tryd.prog 56 #[.pointer (some ⟨b, 0, none⟩), .slice a N c, hdN h.1 h.2] w (EncOut B b A (l ++ (encH s.m s.M h).1) ⟨s.m, (encH s.m s.M h).2, s.asked⟩ w) := by
  obtain ⟨m, M, o⟩ := s
  obtain ⟨⟨hn, hv⟩, nv⟩ := h
  simp only at h1 h2 ⊢
  have hm := hE.m
  have hT := hE.has.total_le
  have hge := total_ge M
  simp only at hm hT
  have hfi := fnd_le hn hv (61 + M.length) (allL M) (allL_le M)
  have HEH : Hid (encH m M ((hn, hv), nv) = (if nv = true then (litB 16 4 (fnd hn hv (allL M)).1 (hn, hv), M) else if (fnd hn hv (allL M)).2 = true then (pint 128 7 (fnd hn hv (allL M)).1, M)
      else if m < sizeH (hn, hv) then (litB 0 4 (fnd hn hv (allL M)).1 (hn, hv), M) else (litB 64 6 (fnd hn hv (allL M)).1 (hn, hv), addM m M (hn, hv)))) := Lib.hid rfl
  generalize hw0 : w.alloc (.cells #[.string hn, .string hv, .bool nv] 77) = w0
  have hb0 : Below w.heap.size w w0 := by rw [← hw0]; exact (Below.refl _ w).alloc (Nat.le_refl _) _
  have hz0 : w.heap.size < w0.heap.size := by rw [← hw0]; simp
  have k0 : w0.cell? ⟨w.heap.size, 0, none⟩ = some (.string hn) := by rw [← hw0]; simp
  have k1 : w0.cell? ⟨w.heap.size, 1, none⟩ = some (.string hv) := by rw [← hw0]; simp
  have k2 : w0.cell? ⟨w.heap.size, 2, none⟩ = some (.bool nv) := by rw [← hw0]; simp
  have HE0 := Lib.hid (hE.below hb0)
  have HO0 := Lib.hid (ho.kept hb0)
  have hoH : (Value.slice a N c).ownBlock ≠ some w.heap.size := own_old ho (Nat.le_refl _)
  have HOH := Lib.hid hoH
  clear hoH
  have q0 := HE0.out.c0
  have hbl : b < w0.heap.size := HE0.out.lt
  have HW0 := Lib.hid hw0
  have HB0 := Lib.hid hb0
  have hwB : B ≤ w.heap.size := hB
  generalize hH : w.heap.size = H at k0 k1 k2 hz0 hwB HOH
  have HHS := Lib.hid hH
  have HF : Hid (∀ W, Below w0.heap.size w0 W → Calls Tryd.prog 80 #[.pointer (some ⟨A, 0, none⟩), .string hn, .string hv] W fun e w' => e = .returned (.tuple #[.int .i64 ((fnd hn hv (allL M)).1 : Int), .bool (fnd hn hv (allL M)).2]) ∧
      w'.cell? ⟨b, 0, none⟩ = some (.pointer (some ⟨A, 0, none⟩)) ∧ w'.cell? ⟨H, 0, none⟩ = some (.string hn) ∧ w'.cell? ⟨H, 1, none⟩ = some (.string hv) ∧ Below w0.heap.size w0 w') := Lib.hid (fun W hW => by
    refine (has_find (HE0.out.has.below hW) hn hv).mono ?_
    rintro e w' ⟨rfl, hx⟩
    have hX : Below w0.heap.size w0 w' := hW.trans (hx.mono hW.size)
    exact ⟨rfl, (hX.cell (p := ⟨b, 0, none⟩) hbl).trans q0, (hX.cell (p := ⟨H, 0, none⟩) hz0).trans k0, (hX.cell (p := ⟨H, 1, none⟩) hz0).trans k1, hX⟩)
  generalize (fnd hn hv (allL M)).1 = fi at hfi HEH HF
  generalize (fnd hn hv (allL M)).2 = fw at HEH HF
  clear hE ho hw0 hb0 hB hH
  go_enter Tryd.func56, Tryd.ntmps56
  go_upto_region 1 with fail
  rw [HW0.out, HHS.out]
  go_cut [7, 8] from 9 to 20 (fun s7 s8 wx => s7 = .int .i64 (fi : Int) ∧ s8 = .bool fw ∧ Below w0.heap.size w0 wx)
  case first =>
    go_region_held3 (fun w' => w'.cell? ⟨b, 0, none⟩ = some (.pointer (some ⟨A, 0, none⟩)) ∧ w'.cell? ⟨H, 0, none⟩ = some (.string hn) ∧ w'.cell? ⟨H, 1, none⟩ = some (.string hv) ∧ Below w0.heap.size w0 w')
      (refine ⟨?_, ?_, ?_, ?_⟩ <;> first | assumption | (exact Below.drew (Below.refl _ _)) | (refine Below.drew ?_; assumption))
      ((go_at_call 80; refine (HF.out _ (by first | assumption | exact Below.refl _ _ | exact Below.drew (Below.refl _ _) | exact Below.drew (by assumption))).mono ?_; rintro e w' ⟨rfl, hw1, hw2, hw3, hw4⟩))
    all_goals
      rename_i hSS
      have hX := hSS.2.2.2
      clear hSS
      go_wp2_with fail
      go_meet
      exact ⟨rfl, rfl, hX⟩
  case rest =>
  obtain ⟨rfl, rfl, hB1⟩ := hcut
  obtain ⟨wF, rfl⟩ : ∃ wF : World, wF = wc := ⟨_, rfl⟩
  have hs2 := (hB1.cell (p := ⟨H, 0, none⟩) hz0).trans k0
  have hs3 := (hB1.cell (p := ⟨H, 1, none⟩) hz0).trans k1
  have hzF := hB1.size
  have HF1 := Lib.hid hB1
  have HEF := Lib.hid (HE0.out.below hB1)
  have HOF := Lib.hid (HO0.out.kept hB1)
  have kF2 := (hB1.cell (p := ⟨H, 2, none⟩) hz0).trans k2
  have hzH : H < wF.heap.size := by omega
  have hfb : fi ≤ 2147483647 := by omega
  have HADD := Lib.hid (fun (q k : Nat) (hk1 : 1 ≤ k) (hk8 : k ≤ 8) (hq : q * 2 ^ k < 256) => addInt_any B a N c l q k fi hk1 hk8 hq hfb)
  clear hB1 HF HE0 HO0 q0 k0 k1 k2
  have HKF : Hid (Kq B A b w wF) := Lib.hid (Kq.of_below ((HB0.out.mono (by rw [HHS.out]; exact hwB)).trans (HF1.out.mono (by omega))))
  go_upto_block 0 with fail
  go_cut [1] from 21 to 52 (fun s1 wx => LitC B b A H m M o l hn hv nv fi w s1 wx)
  case first =>
    cases nv with
    | true =>
      have HEQ : Hid (encH m M ((hn, hv), true) = (pint 16 4 fi ++ (if fi = 0 then ptext hn else []) ++ ptext hv, M)) := Lib.hid (by rw [HEH.out, if_pos rfl]; rfl)
      have HA1 := Lib.hid (HADD.out 1 4 (by omega) (by omega) (by omega) wF HOF.out (by omega) (by omega))
      go_wp2_with fail
      refine HA1.out.mono ?_
      rintro e w5 ⟨a5, N5, c5, rfl, hN5, ho5, hb5, hap5⟩
      obtain ⟨hbH, hoH5⟩ := hap5 H hzH HOH.out
      go_wp2_with fail
      go_meet
      exact ⟨_, _, _, _, _, rfl, ho5, pint_len hfb, HEQ, HEF.out.old hb5 hb, HKF.out.trans (Kq.of_below hb5), (World.cell?_of_block hbH).trans hs2, (World.cell?_of_block hbH).trans hs3, hoH5⟩
    | false =>
      cases fw with
      | true =>
        have HEQ : Hid (encH m M ((hn, hv), false) = (pint 128 7 fi, M)) := Lib.hid (by rw [HEH.out, if_neg (by simp), if_pos rfl])
        have HA1 := Lib.hid (HADD.out 1 7 (by omega) (by omega) (by omega) wF HOF.out (by omega) (by omega))
        go_wp2_with fail
        refine HA1.out.mono ?_
        rintro e w5 ⟨a5, N5, c5, rfl, hN5, ho5, hb5, hap5⟩
        go_wp2_with fail
        go_ret
        exact ⟨_, _, _, rfl, by rw [HEQ.out]; exact hN5, by rw [HEQ.out]; exact ho5, by rw [HEQ.out]; exact HEF.out.old hb5 hb, HKF.out.trans (Kq.of_below hb5)⟩
      | false =>
        have c0 := HEF.out.c0
        have hbF := HEF.out.lt
        have HSZ : Hid (∀ W, Below wF.heap.size wF W → Calls Tryd.prog 59 #[hdN (hn, hv) false] W fun e w' => e = .returned (.int .i64 (sizeH (hn, hv) : Int)) ∧
            w'.cell? ⟨b, 0, none⟩ = some (.pointer (some ⟨A, 0, none⟩)) ∧ w'.cell? ⟨H, 0, none⟩ = some (.string hn) ∧ w'.cell? ⟨H, 1, none⟩ = some (.string hv) ∧ w'.cell? ⟨H, 2, none⟩ = some (.bool false) ∧ Below wF.heap.size wF w') := Lib.hid (fun W hW => by
          refine (Tt.sizeOf_any (hn, hv) false W (by simp only []; omega) (by simp only []; omega)).mono ?_
          rintro e w' ⟨rfl, rfl⟩
          have hX := hW.alloc hW.size (.cells #[.string hn, .string hv, .bool false] 77)
          exact ⟨rfl, (hX.cell (p := ⟨b, 0, none⟩) hbF).trans c0, (hX.cell (p := ⟨H, 0, none⟩) hzH).trans hs2, (hX.cell (p := ⟨H, 1, none⟩) hzH).trans hs3, (hX.cell (p := ⟨H, 2, none⟩) hzH).trans kF2, hX⟩)
        have HMO : Hid (∀ W, Below wF.heap.size wF W → Calls Tryd.prog 79 #[.pointer (some ⟨A, 0, none⟩)] W fun e w' => e = .returned (.int .i64 (m : Int)) ∧ W = w') := Lib.hid (fun W hW => has_most (HEF.out.has.below hW))
        have HG : Hid (encH m M ((hn, hv), false) = if m < sizeH (hn, hv) then (litB 0 4 fi (hn, hv), M) else (litB 64 6 fi (hn, hv), addM m M (hn, hv))) := Lib.hid (by rw [HEH.out, if_neg (by simp), if_neg (by simp)])
        have hGb : sizeH (hn, hv) ≤ 3000000 := by simp only [sizeH]; omega
        generalize sizeH (hn, hv) = G at HSZ HG hGb
        go_upto_region 8 with fail
        go_cut [41] from 42 to 49 (fun s41 wx => s41 = .bool (decide (m < G)) ∧ Below wF.heap.size wF wx)
        case first =>
          go_region_held3 (fun w' => w'.cell? ⟨b, 0, none⟩ = some (.pointer (some ⟨A, 0, none⟩)) ∧ w'.cell? ⟨H, 0, none⟩ = some (.string hn) ∧ w'.cell? ⟨H, 1, none⟩ = some (.string hv) ∧ w'.cell? ⟨H, 2, none⟩ = some (.bool false) ∧ Below wF.heap.size wF w')
            (refine ⟨?_, ?_, ?_, ?_, ?_⟩ <;> first | assumption | (exact Below.drew (Below.refl _ _)) | (refine Below.drew ?_; assumption))
            (first | (go_at_call 59; refine (HSZ.out _ (by first | assumption | exact Below.refl _ _ | exact Below.drew (Below.refl _ _) | exact Below.drew (by assumption))).mono ?_; rintro e w' ⟨rfl, hw1, hw2, hw3, hw4, hw5⟩) | (go_at_call 79; refine (HMO.out _ (by first | assumption | exact Below.refl _ _ | exact Below.drew (Below.refl _ _) | exact Below.drew (by assumption))).mono ?_; rintro e w' ⟨rfl, rfl⟩))
          all_goals
            rename_i hSS
            have hX := hSS.2.2.2.2
            clear hSS
            go_wp2_with fail
            go_meet
            exact ⟨by simp, hX⟩
        case rest =>
          obtain ⟨rfl, hBG⟩ := hcut
          obtain ⟨wG, rfl⟩ : ∃ wG : World, wG = wc := ⟨_, rfl⟩
          have hzG := hBG.size
          have HEG := Lib.hid (HEF.out.below hBG)
          have HOG := Lib.hid (HOF.out.kept hBG)
          have g0 := (hBG.cell (p := ⟨H, 0, none⟩) hzH).trans hs2
          have g1 := (hBG.cell (p := ⟨H, 1, none⟩) hzH).trans hs3
          have g2 := (hBG.cell (p := ⟨H, 2, none⟩) hzH).trans kF2
          have HKG : Hid (Kq B A b w wG) := Lib.hid (HKF.out.trans (Kq.of_below (hBG.mono (by omega))))
          have hHG : H < wG.heap.size := by omega
          clear hs2 hs3 kF2 c0 hBG HSZ HMO
          by_cases hmG : m < G
          · have hdc : decide (m < G) = true := by simpa using hmG
            have HEQ : Hid (encH m M ((hn, hv), false) = (pint 0 4 fi ++ (if fi = 0 then ptext hn else []) ++ ptext hv, M)) := Lib.hid (by rw [HG.out, if_pos hmG]; rfl)
            have HA1 := Lib.hid (HADD.out 0 4 (by omega) (by omega) (by omega) wG HOG.out (by omega) (by omega))
            rw [hdc]
            go_wp2_with fail
            refine HA1.out.mono ?_
            rintro e w5 ⟨a5, N5, c5, rfl, hN5, ho5, hb5, hap5⟩
            obtain ⟨hbH, hoH5⟩ := hap5 H hHG HOH.out
            go_wp2_with fail
            go_meet
            exact ⟨_, _, _, _, _, rfl, ho5, pint_len hfb, HEQ, HEG.out.old hb5 hb, HKG.out.trans (Kq.of_below hb5), (World.cell?_of_block hbH).trans g0, (World.cell?_of_block hbH).trans g1, hoH5⟩
          · have hdc : decide (m < G) = false := by simpa using hmG
            have HEQ : Hid (encH m M ((hn, hv), false) = (pint 64 6 fi ++ (if fi = 0 then ptext hn else []) ++ ptext hv, addM m M (hn, hv))) := Lib.hid (by rw [HG.out, if_neg hmG]; rfl)
            have HA1 := Lib.hid (HADD.out 1 6 (by omega) (by omega) (by omega) wG HOG.out (by omega) (by omega))
            rw [hdc]
            go_wp2_with fail
            refine HA1.out.mono ?_
            rintro e w5 ⟨a5, N5, c5, rfl, hN5, ho5, hb5, hap5⟩
            obtain ⟨hbH, hoH5⟩ := hap5 H hHG HOH.out
            have hz5 := hb5.size
            have HE5 := Lib.hid (HEG.out.old hb5 hb)
            have r0 := (World.cell?_of_block (a := ⟨H, 0, none⟩) hbH).trans g0
            have r1 := (World.cell?_of_block (a := ⟨H, 1, none⟩) hbH).trans g1
            have r2 := (World.cell?_of_block (a := ⟨H, 2, none⟩) hbH).trans g2
            have rc := HE5.out.c0
            have HK5 : Hid (Kq B A b w w5) := Lib.hid (HKG.out.trans (Kq.of_below hb5))
            have HO5 := Lib.hid ho5
            have HP5 := Lib.hid (pint_len (first := 64) (bits := 6) hfb)
            have HADT : Hid (∀ W, Below w5.heap.size w5 W → Calls Tryd.prog 81 #[.pointer (some ⟨A, 0, none⟩), hdN (hn, hv) false] W fun e w' => e = .returned (.tuple #[]) ∧ Has w' A m (addM m M (hn, hv)) ∧ Kp A W w') := Lib.hid (fun W hW => has_add (HE5.out.has.below hW) hm (hn, hv) false (by simp only []; omega) (by simp only []; omega))
            have hAB : A < B := by have := HE5.out.ne; omega
            clear HA1 ho5 hb5 hap5 hbH g0 g1 g2 HADD
            go_upto_region 3 with fail
            go_region_law (go_simp; (with_reducible_and_instances refine Calls.mono (HADT.out _ (by first | assumption | exact Below.refl _ _ | exact Below.drew (Below.refl _ _))) ?_); rintro e w6 ⟨rfl, hA6, hk6⟩; go_simp)
            all_goals
              have hk56 : Kp A w5 w6 := ((Kp.refl A w5).drew).trans hk6
              go_wp2_with fail
              go_meet
              have hbH6 : w6.heap[H]? = w5.heap[H]? := hk56.block H (by omega) (by omega)
              exact ⟨_, _, _, _, _, rfl, own_kp HO5.out hk56 hAB, HP5.out, HEQ, HE5.out.tab hk56 hm hA6, HK5.out.trans (Kq.of_kp hk56 (by omega)), (World.cell?_of_block hbH6).trans r0, (World.cell?_of_block hbH6).trans r1, hoH5⟩
  case rest =>
    obtain ⟨a5, N5, c5, P, M', rfl, ho5, hP6, HEQ, hE5, hK5, r0, r1, hoH5⟩ := hcut
    obtain ⟨w5, rfl⟩ : ∃ w5 : World, w5 = wc := ⟨_, rfl⟩
    have HO5 := Lib.hid ho5
    have HE5 := Lib.hid hE5
    have HK5 := Lib.hid hK5
    have hH5 : H < w5.heap.size := Hu.cell_lt r0
    clear ho5 hE5 hK5 HADD HEF HOF HKF hs2 hs3 kF2
    by_cases hf0 : fi = 0
    · have HEQ : Hid (encH m M ((hn, hv), nv) = (P ++ ptext hn ++ ptext hv, M')) := Lib.hid (by rw [HEQ.out, if_pos hf0])
      have hfz : ((fi : Int) == 0) = true := by rw [hf0]; rfl
      have HT1 := Lib.hid (addText_any B a5 N5 c5 (l ++ P) hn w5 HO5.out (by omega) (by omega) (by simp; omega))
      have hpl1 := ptext_len (s := hn) (by omega)
      go_wp2_with fail
      refine HT1.out.mono ?_
      rintro e w6 ⟨a6, N6, c6, rfl, hN6, ho6, hb6, hap6⟩
      obtain ⟨hbH6, hoH6⟩ := hap6 H (by omega) hoH5
      have t1 := (World.cell?_of_block (a := ⟨H, 1, none⟩) hbH6).trans r1
      have hz6 := hb6.size
      have HT2 := Lib.hid (addText_any B a6 N6 c6 _ hv w6 ho6 (by omega) (by omega) (by simp; omega))
      clear HT1 hap6
      go_wp2_with fail
      refine HT2.out.mono ?_
      rintro e w7 ⟨a7, N7, c7, rfl, hN7, ho7, hb7, hap7⟩
      go_wp2_with fail
      go_ret
      have e1 : l ++ (P ++ ptext hn ++ ptext hv) = l ++ P ++ ptext hn ++ ptext hv := by simp only [List.append_assoc]
      exact ⟨_, _, _, rfl, by rw [HEQ.out, e1]; exact hN7, by rw [HEQ.out, e1]; exact ho7, by rw [HEQ.out]; exact (HE5.out.old hb6 hb).old hb7 hb, (HK5.out.trans (Kq.of_below hb6)).trans (Kq.of_below hb7)⟩
    · have HEQ : Hid (encH m M ((hn, hv), nv) = (P ++ [] ++ ptext hv, M')) := Lib.hid (by rw [HEQ.out, if_neg hf0])
      have hfz : ((fi : Int) == 0) = false := by rw [beq_eq_false_iff_ne]; omega
      have HT2 := Lib.hid (addText_any B a5 N5 c5 (l ++ P) hv w5 HO5.out (by omega) (by omega) (by simp; omega))
      go_wp2_with fail
      refine HT2.out.mono ?_
      rintro e w7 ⟨a7, N7, c7, rfl, hN7, ho7, hb7, hap7⟩
      go_wp2_with fail
      go_ret
      have e1 : l ++ (P ++ [] ++ ptext hv) = l ++ P ++ ptext hv := by simp only [List.append_assoc, List.append_nil]
      exact ⟨_, _, _, rfl, by rw [HEQ.out, e1]; exact hN7, by rw [HEQ.out, e1]; exact ho7, by rw [HEQ.out]; exact HE5.out.old hb7 hb, HK5.out.trans (Kq.of_below hb7)⟩
end Go.Proofs.YtlkieeindnpidaaDoor
