/-
  THE DOCUMENT's ENCODER: a header.
-/
import Derived.Test.YtlkieeindnpidaaDoorEd
import Derived.Test.YtlkieeindnpidaaDoorTa
import Derived.Deep.DeepCutAuto
import Derived.Deep.CutBlock
namespace Go.Proofs.YtlkieeindnpidaaDoor
open Go.RowKit Tt Hu Hu.Hf

theorem total_add' {m : Nat} {M : List Hd} (h : total M ≤ m) (g : Hd) : total (addM m M g) ≤ m := by
  unfold addM
  split
  · have := (shr_le (m - sizeH g) M).1
    rw [total_app]
    simp only [total]
    omega
  · simp [total]
theorem putInt_never {y : Nat} (hy : y ≤ 2147483647) : putInt 16 4 (y : Int) = pint 16 4 y := by
  unfold putInt
  rw [if_pos ⟨by decide, by decide, by omega, by omega, by decide, by decide, by decide⟩]
  rfl
theorem putInt_plain {y : Nat} (hy : y ≤ 2147483647) : putInt 0 4 (y : Int) = pint 0 4 y := by
  unfold putInt
  rw [if_pos ⟨by decide, by decide, by omega, by omega, by decide, by decide, by decide⟩]
  rfl
theorem putInt_added {y : Nat} (hy : y ≤ 2147483647) : putInt 64 6 (y : Int) = pint 64 6 y := by
  unfold putInt
  rw [if_pos ⟨by decide, by decide, by omega, by omega, by decide, by decide, by decide⟩]
  rfl
theorem putInt_size {y : Nat} (hy : y ≤ 2147483647) : putInt 32 5 (y : Int) = pint 32 5 y := by
  unfold putInt
  rw [if_pos ⟨by decide, by decide, by omega, by omega, by decide, by decide, by decide⟩]
  rfl
theorem own_mono {w : World} {B B' : Nat} {v : Value} {l : List UInt8} (h : Hu.Own w B v l) (hB : B' ≤ B) : Hu.Own w B' v l := by
  obtain ⟨h1, h2⟩ := h
  refine ⟨h1, ?_⟩
  rcases h2 with h2 | ⟨g, cap, cur, hv, hg, r⟩
  · exact Or.inl h2
  · exact Or.inr ⟨g, cap, cur, hv, by omega, r⟩
/-- Behind the index, before the texts. -/
def LitD (B x t H m : Nat) (M : List Hd) (o : Option Nat) (hn hv : ByteArray) (nv : Bool) (fi : Nat) (w : World) (s : Value) (wx : World) : Prop := ∃ (a5 : Option Addr) (N5 c5 : Nat) (P : List UInt8) (M' : List Hd), s = .slice a5 N5 c5 ∧ Hu.Own wx B (.slice a5 N5 c5) P ∧ P.length ≤ 6 ∧
  Hid (encH m M ((hn, hv), nv) = (P ++ (if fi = 0 then ptext hn else []) ++ ptext hv, M')) ∧ Ed wx x t ⟨m, M', o⟩ ∧ Kq B t x w wx ∧ wx.cell? ⟨H, 0, none⟩ = some (.string hn) ∧ wx.cell? ⟨H, 1, none⟩ = some (.string hv)
/-- Bytes of the call's own, of l; the document's encoder holds s; below block B only it has turned. -/
def EncD (B x t : Nat) (l : List UInt8) (s : ES) (w : World) (e : Ending) (w' : World) : Prop := ∃ a N c, e = .returned (.slice a N c) ∧ Hid (N = l.length) ∧ Hu.Own w' B (.slice a N c) l ∧ Ed w' x t s ∧ Kq B t x w w'
set_option maxRecDepth 100000 in
set_option maxHeartbeats 8000000 in
theorem oneD_any (x t : Nat) (s : ES) (h : Hn) (w : World) (hE : Ed w x t s) (h1 : h.1.1.size ≤ 1048576) (h2 : h.1.2.size ≤ 1048576) :
    Calls Tryd.prog 57 #[.pointer (some ⟨x, 0, none⟩), hdN h.1 h.2] w (EncD w.heap.size x t (encH s.m s.M h).1 ⟨s.m, (encH s.m s.M h).2, s.asked⟩ w) := by
  obtain ⟨m, M, o⟩ := s
  obtain ⟨⟨hn, hv⟩, nv⟩ := h
  simp only at h1 h2 ⊢
  have hm := hE.m
  have hT := hE.tot
  have hge := total_ge M
  have hne := hE.ne
  simp only at hm hT
  have hfi := fnd_le hn hv (61 + M.length) (allL M) (allL_le M)
  have HEH : Hid (encH m M ((hn, hv), nv) = (if nv = true then (litB 16 4 (fnd hn hv (allL M)).1 (hn, hv), M) else if (fnd hn hv (allL M)).2 = true then (pint 128 7 (fnd hn hv (allL M)).1, M)
      else if m < sizeH (hn, hv) then (litB 0 4 (fnd hn hv (allL M)).1 (hn, hv), M) else (litB 64 6 (fnd hn hv (allL M)).1 (hn, hv), addM m M (hn, hv)))) := Lib.hid rfl
  generalize hw0 : w.alloc (.cells #[.string hn, .string hv, .bool nv] 77) = w0
  have hb0 : Below w.heap.size w w0 := by rw [← hw0]; exact (Below.refl _ w).alloc (Nat.le_refl _) _
  have hz0 : w.heap.size < w0.heap.size := by rw [← hw0]; simp
  have k0 : w0.cell? ⟨w.heap.size, 0, none⟩ = some (.string hn) := by rw [← hw0]; simp
  have k1 : w0.cell? ⟨w.heap.size, 1, none⟩ = some (.string hv) := by rw [← hw0]; simp
  have k2 : w0.cell? ⟨w.heap.size, 2, none⟩ = some (.bool nv) := by rw [← hw0]; simp
  have HE0 := Lib.hid (hE.below hb0)
  have hxl : x < w.heap.size := hE.lt
  have htl : t < w.heap.size := hE.dt.lt
  have HW0 := Lib.hid hw0
  have HB0 := Lib.hid hb0
  generalize hH : w.heap.size = H at k0 k1 k2 hz0 hxl htl
  have HHS := Lib.hid hH
  generalize hBB : w0.heap.size = B at hz0
  have HBB := Lib.hid hBB
  obtain ⟨n2, n3, hblk, hnn⟩ := HE0.out.blk
  have q0 : w0.cell? ⟨x, 0, none⟩ = some (.pointer (some ⟨t, 0, none⟩)) := by rw [blk_cell hblk]; rfl
  have HF : Hid (∀ W, Below w0.heap.size w0 W → Calls Tryd.prog 82 #[.pointer (some ⟨t, 0, none⟩), .string hn, .string hv] W fun e w' => e = .returned (.tuple #[.int .i64 ((fnd hn hv (allL M)).1 : Int), .bool (fnd hn hv (allL M)).2]) ∧
      w'.cell? ⟨x, 0, none⟩ = some (.pointer (some ⟨t, 0, none⟩)) ∧ w'.cell? ⟨H, 0, none⟩ = some (.string hn) ∧ w'.cell? ⟨H, 1, none⟩ = some (.string hv) ∧ w'.cell? ⟨H, 2, none⟩ = some (.bool nv) ∧ Below w0.heap.size w0 w') := Lib.hid (fun W hW => by
    refine (Tt.dfind_any t m hn hv M W (HE0.out.dt.below hW) (by omega)).mono ?_
    rintro e w' ⟨rfl, hx⟩
    have hX : Below w0.heap.size w0 w' := hW.trans (hx.mono hW.size)
    have hzB := HBB.out
    exact ⟨rfl, (hX.cell (p := ⟨x, 0, none⟩) (by simp only; omega)).trans q0, (hX.cell (p := ⟨H, 0, none⟩) (by simp only; omega)).trans k0, (hX.cell (p := ⟨H, 1, none⟩) (by simp only; omega)).trans k1, (hX.cell (p := ⟨H, 2, none⟩) (by simp only; omega)).trans k2, hX⟩)
  generalize (fnd hn hv (allL M)).1 = fi at hfi HEH HF
  generalize (fnd hn hv (allL M)).2 = fw at HEH HF
  clear hE hw0 hb0 hH hBB hblk hnn
  go_enter Tryd.func57, Tryd.ntmps57
  go_upto_region 1 with fail
  rw [HW0.out, HHS.out]
  go_cut [5, 6] from 8 to 19 (fun s7 s8 wx => s7 = .int .i64 (fi : Int) ∧ s8 = .bool fw ∧ Below w0.heap.size w0 wx)
  case first =>
    go_region_held3 (fun w' => w'.cell? ⟨x, 0, none⟩ = some (.pointer (some ⟨t, 0, none⟩)) ∧ w'.cell? ⟨H, 0, none⟩ = some (.string hn) ∧ w'.cell? ⟨H, 1, none⟩ = some (.string hv) ∧ w'.cell? ⟨H, 2, none⟩ = some (.bool nv) ∧ Below w0.heap.size w0 w')
      (refine ⟨?_, ?_, ?_, ?_, ?_⟩ <;> first | assumption | (exact Below.drew (Below.refl _ _)) | (refine Below.drew ?_; assumption))
      ((go_at_call 82; refine (HF.out _ (by first | assumption | exact Below.refl _ _ | exact Below.drew (Below.refl _ _) | exact Below.drew (by assumption))).mono ?_; rintro e w' ⟨rfl, hw1, hw2, hw3, hw4, hw5⟩))
    all_goals
      rename_i hSS
      have hX := hSS.2.2.2.2
      clear hSS
      go_wp2_with fail
      go_meet
      exact ⟨rfl, rfl, hX⟩
  case rest =>
  obtain ⟨rfl, rfl, hB1⟩ := hcut
  obtain ⟨wF, rfl⟩ : ∃ wF : World, wF = wc := ⟨_, rfl⟩
  have hzB := HBB.out
  have g0 := (hB1.cell (p := ⟨H, 0, none⟩) (by simp only; omega)).trans k0
  have g1 := (hB1.cell (p := ⟨H, 1, none⟩) (by simp only; omega)).trans k1
  have g2 := (hB1.cell (p := ⟨H, 2, none⟩) (by simp only; omega)).trans k2
  have hzF := hB1.size
  have HEF := Lib.hid (HE0.out.below hB1)
  have hfb : fi ≤ 2147483647 := by omega
  have HPW := Lib.hid (fun W => (by have := dput_any 128 7 (fi : Int) W (by omega); rw [putInt_huff hfb] at this; exact this : Calls Tryd.prog 15 #[.int .i64 128, .int .i64 7, .int .i64 (fi : Int)] W (OwnOut W.heap.size (pint 128 7 fi) W)))
  have HPN := Lib.hid (fun W => (by have := dput_any 16 4 (fi : Int) W (by omega); rw [putInt_never hfb] at this; exact this : Calls Tryd.prog 15 #[.int .i64 16, .int .i64 4, .int .i64 (fi : Int)] W (OwnOut W.heap.size (pint 16 4 fi) W)))
  have HPP := Lib.hid (fun W => (by have := dput_any 0 4 (fi : Int) W (by omega); rw [putInt_plain hfb] at this; exact this : Calls Tryd.prog 15 #[.int .i64 0, .int .i64 4, .int .i64 (fi : Int)] W (OwnOut W.heap.size (pint 0 4 fi) W)))
  have HPA := Lib.hid (fun W => (by have := dput_any 64 6 (fi : Int) W (by omega); rw [putInt_added hfb] at this; exact this : Calls Tryd.prog 15 #[.int .i64 64, .int .i64 6, .int .i64 (fi : Int)] W (OwnOut W.heap.size (pint 64 6 fi) W)))
  have HKF : Hid (Kq B t x w0 wF) := Lib.hid (Kq.of_below (hB1.mono (by omega)))
  have HK0 : Hid (∀ W, Kq B t x w0 W → Kq H t x w W) := Lib.hid (fun W hk => (Kq.of_below (by rw [← HHS.out]; exact HB0.out)).trans (hk.mono (by omega)))
  have HBw : Hid (H ≤ B) := Lib.hid (by omega)
  clear hB1 HF HE0 q0 k0 k1 k2
  go_upto_region 2 with fail
  go_cut [25] from 20 to 25 (fun s25 wx => s25 = .bool (fw && !nv) ∧ wF = wx)
  case first =>
    cases fw <;> cases nv
    all_goals
      go_wp2_with fail
      go_meet
      exact ⟨rfl, rfl⟩
  case rest =>
  obtain ⟨rfl, rfl⟩ := hcut
  cases hc : (fw && !nv) with
  | true =>
    obtain ⟨rfl, rfl⟩ : fw = true ∧ nv = false := by cases fw <;> cases nv <;> simp_all
    have HEQ : Hid (encH m M ((hn, hv), false) = (pint 128 7 fi, M)) := Lib.hid (by rw [HEH.out, if_neg (by simp), if_pos rfl])
    clear hc
    go_wp2_with fail
    refine (HPW.out _).mono ?_
    rintro e w5 ⟨a5, N5, c5, rfl, hN5, ho5, hb5⟩
    go_wp2_with fail
    go_ret
    exact ⟨_, _, _, rfl, by rw [HEQ.out]; exact hN5, by rw [HEQ.out]; exact own_mono ho5 (by have := HBw.out; omega), by rw [HEQ.out]; exact HEF.out.below hb5, HK0.out _ (HKF.out.trans (Kq.of_below (hb5.mono (by omega))))⟩
  | false =>
  go_upto_block 0 with fail
  go_cut [7] from 28 to 53 (fun s7 wx => LitD B x t H m M o hn hv nv fi w0 s7 wx)
  case first =>
    as_aux_lemma =>
    cases nv with
    | true =>
      have HEQ : Hid (encH m M ((hn, hv), true) = (pint 16 4 fi ++ (if fi = 0 then ptext hn else []) ++ ptext hv, M)) := Lib.hid (by rw [HEH.out, if_pos rfl]; rfl)
      go_wp2_with fail
      refine (HPN.out _).mono ?_
      rintro e w5 ⟨a5, N5, c5, rfl, hN5, ho5, hb5⟩
      go_wp2_with fail
      go_meet
      exact ⟨_, _, _, _, _, rfl, own_mono ho5 (by omega), pint_len hfb, HEQ, HEF.out.below hb5, HKF.out.trans (Kq.of_below (hb5.mono (by omega))), (hb5.cell (p := ⟨H, 0, none⟩) (by simp only; omega)).trans g0, (hb5.cell (p := ⟨H, 1, none⟩) (by simp only; omega)).trans g1⟩
    | false =>
      obtain rfl : fw = false := by cases fw <;> simp_all
      clear hc
      obtain ⟨n2, n3, hblk, hnn⟩ := HEF.out.blk
      have c0 : wF.cell? ⟨x, 0, none⟩ = some (.pointer (some ⟨t, 0, none⟩)) := by rw [blk_cell hblk]; rfl
      have cm : wF.cell? ⟨t, 1, none⟩ = some (.int .i64 (m : Int)) := HEF.out.dt.most
      have HSZ : Hid (∀ W, Below wF.heap.size wF W → Calls Tryd.prog 60 #[hdN (hn, hv) false] W fun e w' => e = .returned (.int .i64 (sizeH (hn, hv) : Int)) ∧
          w'.cell? ⟨x, 0, none⟩ = some (.pointer (some ⟨t, 0, none⟩)) ∧ w'.cell? ⟨t, 1, none⟩ = some (.int .i64 (m : Int)) ∧ w'.cell? ⟨H, 0, none⟩ = some (.string hn) ∧ w'.cell? ⟨H, 1, none⟩ = some (.string hv) ∧ w'.cell? ⟨H, 2, none⟩ = some (.bool false) ∧ Below wF.heap.size wF w') := Lib.hid (fun W hW => by
        refine (Tt.dsizeOf_any (hn, hv) false W (by simp only []; omega) (by simp only []; omega)).mono ?_
        rintro e w' ⟨rfl, hb⟩
        have hX := hW.trans (hb.mono hW.size)
        exact ⟨rfl, (hX.cell (p := ⟨x, 0, none⟩) (by simp only; omega)).trans c0, (hX.cell (p := ⟨t, 1, none⟩) (by simp only; omega)).trans cm, (hX.cell (p := ⟨H, 0, none⟩) (by simp only; omega)).trans g0, (hX.cell (p := ⟨H, 1, none⟩) (by simp only; omega)).trans g1, (hX.cell (p := ⟨H, 2, none⟩) (by simp only; omega)).trans g2, hX⟩)
      have HG : Hid (encH m M ((hn, hv), false) = if m < sizeH (hn, hv) then (litB 0 4 fi (hn, hv), M) else (litB 64 6 fi (hn, hv), addM m M (hn, hv))) := Lib.hid (by rw [HEH.out, if_neg (by simp), if_neg (by simp)])
      have hGb : sizeH (hn, hv) ≤ 3000000 := by simp only [sizeH]; omega
      generalize sizeH (hn, hv) = G at HSZ HG hGb
      clear hblk hnn
      go_upto_region 9 with fail
      go_cut [41] from 42 to 51 (fun s41 wx => s41 = .bool (decide (m < G)) ∧ Below wF.heap.size wF wx)
      case first =>
        go_region_held3 (fun w' => w'.cell? ⟨x, 0, none⟩ = some (.pointer (some ⟨t, 0, none⟩)) ∧ w'.cell? ⟨t, 1, none⟩ = some (.int .i64 (m : Int)) ∧ w'.cell? ⟨H, 0, none⟩ = some (.string hn) ∧ w'.cell? ⟨H, 1, none⟩ = some (.string hv) ∧ w'.cell? ⟨H, 2, none⟩ = some (.bool false) ∧ Below wF.heap.size wF w')
          (refine ⟨?_, ?_, ?_, ?_, ?_, ?_⟩ <;> first | assumption | (exact Below.drew (Below.refl _ _)) | (refine Below.drew ?_; assumption))
          ((go_at_call 60; refine (HSZ.out _ (by first | assumption | exact Below.refl _ _ | exact Below.drew (Below.refl _ _) | exact Below.drew (by assumption))).mono ?_; rintro e w' ⟨rfl, hw1, hw2, hw3, hw4, hw5, hw6⟩))
        all_goals
          rename_i hSS
          have hX := hSS.2.2.2.2.2
          clear hSS
          go_wp2_with fail
          go_meet
          exact ⟨by simp, hX⟩
      case rest =>
        obtain ⟨rfl, hBG⟩ := hcut
        obtain ⟨wG, rfl⟩ : ∃ wG : World, wG = wc := ⟨_, rfl⟩
        have hzG := hBG.size
        have HEG := Lib.hid (HEF.out.below hBG)
        have r0 := (hBG.cell (p := ⟨H, 0, none⟩) (by simp only; omega)).trans g0
        have r1 := (hBG.cell (p := ⟨H, 1, none⟩) (by simp only; omega)).trans g1
        have r2 := (hBG.cell (p := ⟨H, 2, none⟩) (by simp only; omega)).trans g2
        have d0 := (hBG.cell (p := ⟨x, 0, none⟩) (by simp only; omega)).trans c0
        have HKG : Hid (Kq B t x w0 wG) := Lib.hid (HKF.out.trans (Kq.of_below (hBG.mono (by omega))))
        clear g0 g1 g2 c0 cm hBG HSZ HEF
        by_cases hmG : m < G
        · have hdc : decide (m < G) = true := by simpa using hmG
          have HEQ : Hid (encH m M ((hn, hv), false) = (pint 0 4 fi ++ (if fi = 0 then ptext hn else []) ++ ptext hv, M)) := Lib.hid (by rw [HG.out, if_pos hmG]; rfl)
          rw [hdc]
          go_wp2_with fail
          refine (HPP.out _).mono ?_
          rintro e w5 ⟨a5, N5, c5, rfl, hN5, ho5, hb5⟩
          go_wp2_with fail
          go_meet
          exact ⟨_, _, _, _, _, rfl, own_mono ho5 (by omega), pint_len hfb, HEQ, HEG.out.below hb5, HKG.out.trans (Kq.of_below (hb5.mono (by omega))), (hb5.cell (p := ⟨H, 0, none⟩) (by simp only; omega)).trans r0, (hb5.cell (p := ⟨H, 1, none⟩) (by simp only; omega)).trans r1⟩
        · have hdc : decide (m < G) = false := by simpa using hmG
          have HEQ : Hid (encH m M ((hn, hv), false) = (pint 64 6 fi ++ (if fi = 0 then ptext hn else []) ++ ptext hv, addM m M (hn, hv))) := Lib.hid (by rw [HG.out, if_neg hmG]; rfl)
          rw [hdc]
          go_wp2_with fail
          refine (HPA.out _).mono ?_
          rintro e w5 ⟨a5, N5, c5, rfl, hN5, ho5, hb5⟩
          have hz5 := hb5.size
          have HE5 := Lib.hid (HEG.out.below hb5)
          have t0 := (hb5.cell (p := ⟨H, 0, none⟩) (by simp only; omega)).trans r0
          have t1 := (hb5.cell (p := ⟨H, 1, none⟩) (by simp only; omega)).trans r1
          have t2 := (hb5.cell (p := ⟨H, 2, none⟩) (by simp only; omega)).trans r2
          have rc := (hb5.cell (p := ⟨x, 0, none⟩) (by simp only; omega)).trans d0
          have HK5 : Hid (Kq B t x w0 w5) := Lib.hid (HKG.out.trans (Kq.of_below (hb5.mono (by omega))))
          have HO5 := Lib.hid (own_mono ho5 (show B ≤ _ by omega))
          have HP5 := Lib.hid (pint_len (first := 64) (bits := 6) hfb)
          have HADT : Hid (∀ W, Below w5.heap.size w5 W → Calls Tryd.prog 83 #[.pointer (some ⟨t, 0, none⟩), hdN (hn, hv) false] W fun e w' => e = .returned (.tuple #[]) ∧ Tt.Dt w' t (addM m M (hn, hv)).reverse m ∧ Kp t W w') := Lib.hid (fun W hW => Tt.dadd_any t m M (hn, hv) false W (HE5.out.dt.below hW) hT hm (by simp only []; omega) (by simp only []; omega))
          clear ho5 hb5 r0 r1 r2 d0 HPW HPN HPP HPA HEG HKG HKF
          go_upto_region 6 with fail
          go_region_law (go_simp; (with_reducible_and_instances refine Calls.mono (HADT.out _ (by first | assumption | exact Below.refl _ _ | exact Below.drew (Below.refl _ _))) ?_); rintro e w6 ⟨rfl, hA6, hk6⟩; go_simp)
          all_goals
            have hk56 : Kp t w5 w6 := ((Kp.refl t w5).drew).trans hk6
            go_wp2_with fail
            go_meet
            have hbH6 : w6.heap[H]? = w5.heap[H]? := hk56.block H (by omega) (by omega)
            exact ⟨_, _, _, _, _, rfl, own_kp HO5.out hk56 (by omega), HP5.out, HEQ, HE5.out.tab hk56 hA6 (fun _ => rfl) (total_add' hT _) hm, HK5.out.trans (Kq.of_kp hk56 (by omega)), (World.cell?_of_block hbH6).trans t0, (World.cell?_of_block hbH6).trans t1⟩
  case rest =>
    obtain ⟨a5, N5, c5, P, M', rfl, ho5, hP6, HEQ, hE5, hK5, r0, r1⟩ := hcut
    obtain ⟨w5, rfl⟩ : ∃ w5 : World, w5 = wc := ⟨_, rfl⟩
    have HO5 := Lib.hid ho5
    have HE5 := Lib.hid hE5
    have HK5 := Lib.hid hK5
    have hz5 : B ≤ w5.heap.size := by have := hK5.size; omega
    have HT1 := Lib.hid (fun W => dputText_any hn W h1)
    have HT2 := Lib.hid (fun W => dputText_any hv W h2)
    have hp1 := ptext_len h1
    have hp2 := ptext_len h2
    generalize ptext hn = Q1 at HEQ HT1 hp1
    generalize ptext hv = Q2 at HEQ HT2 hp2
    clear ho5 hE5 hK5 HEF HKF g0 g1 g2 HPW HPN HPP HPA HEH
    by_cases hf0 : fi = 0
    · have HEQ : Hid (encH m M ((hn, hv), nv) = (P ++ Q1 ++ Q2, M')) := Lib.hid (by rw [HEQ.out, if_pos hf0])
      have hfz : ((fi : Int) == 0) = true := by rw [hf0]; rfl
      go_wp2_with fail
      refine (HT1.out _).mono ?_
      rintro e w6 ⟨a6, N6, c6, rfl, hN6, ho6, hb6⟩
      have hz6 := hb6.size
      have HO6 := Lib.hid (HO5.out.kept hb6)
      have HS6 := Lib.hid (sl_own ho6)
      have u1 := (hb6.cell (p := ⟨H, 1, none⟩) (by simp only; omega)).trans r1
      have HE6 := Lib.hid (HE5.out.below hb6)
      have HK6 : Hid (Kq B t x w0 w6) := Lib.hid (HK5.out.trans (Kq.of_below (hb6.mono (by omega))))
      have hN := hN6.out
      subst hN
      clear ho6 hb6 r0 r1
      go_upto_region 13 with (at_builtin; (refine wp_append_bytes_x rfl _ _ rfl _ P Q1 rfl B HO6.out a6 _ c6 rfl HS6.out (by omega) (by omega) ?_); intro w7 a7 N7 c7 hN7 ho7 hb7 hap7)
      have hz7 := hb7.size
      have u1 := (hb7.cell (p := ⟨H, 1, none⟩) (by simp only; omega)).trans u1
      have HO7 := Lib.hid ho7
      have HE7 : Hid (Ed w7 x t ⟨m, M', o⟩) := Lib.hid (HE6.out.keep HO6.out hap7 (by omega) (by omega))
      have HK7 : Hid (Kq B t x w0 w7) := Lib.hid (HK6.out.trans (Kq.of_below hb7))
      clear ho7 hb7 hap7
      go_wp2_with fail
      refine (HT2.out _).mono ?_
      rintro e w8 ⟨a8, N8, c8, rfl, hN8, ho8, hb8⟩
      have hz8 := hb8.size
      have HO8 := Lib.hid (HO7.out.kept hb8)
      have HS8 := Lib.hid (sl_own ho8)
      have HE8 := Lib.hid (HE7.out.below hb8)
      have HK8 : Hid (Kq B t x w0 w8) := Lib.hid (HK7.out.trans (Kq.of_below (hb8.mono (by omega))))
      have hN' := hN8.out
      subst hN'
      clear ho8 hb8
      go_wp2_with (at_builtin; (refine wp_append_bytes_x rfl _ _ rfl _ (P ++ Q1) Q2 rfl B HO8.out a8 _ c8 rfl HS8.out (by simp; omega) (by omega) ?_); intro w9 a9 N9 c9 hN9 ho9 hb9 hap9)
      go_ret
      exact ⟨_, _, _, rfl, by rw [HEQ.out]; exact hN9, by rw [HEQ.out]; exact own_mono ho9 HBw.out, by rw [HEQ.out]; exact HE8.out.keep HO8.out hap9 (by omega) (by omega), HK0.out _ (HK8.out.trans (Kq.of_below hb9))⟩
    · have HEQ : Hid (encH m M ((hn, hv), nv) = (P ++ Q2, M')) := Lib.hid (by rw [HEQ.out, if_neg hf0, List.append_nil])
      have hfz : ((fi : Int) == 0) = false := by rw [beq_eq_false_iff_ne]; omega
      go_wp2_with fail
      refine (HT2.out _).mono ?_
      rintro e w8 ⟨a8, N8, c8, rfl, hN8, ho8, hb8⟩
      have hz8 := hb8.size
      have HO8 := Lib.hid (HO5.out.kept hb8)
      have HS8 := Lib.hid (sl_own ho8)
      have HE8 := Lib.hid (HE5.out.below hb8)
      have HK8 : Hid (Kq B t x w0 w8) := Lib.hid (HK5.out.trans (Kq.of_below (hb8.mono (by omega))))
      have hN' := hN8.out
      subst hN'
      clear ho8 hb8
      go_wp2_with (at_builtin; (refine wp_append_bytes_x rfl _ _ rfl _ P Q2 rfl B HO8.out a8 _ c8 rfl HS8.out (by omega) (by omega) ?_); intro w9 a9 N9 c9 hN9 ho9 hb9 hap9)
      go_ret
      exact ⟨_, _, _, rfl, by rw [HEQ.out]; exact hN9, by rw [HEQ.out]; exact own_mono ho9 HBw.out, by rw [HEQ.out]; exact HE8.out.keep HO8.out hap9 (by omega) (by omega), HK0.out _ (HK8.out.trans (Kq.of_below hb9))⟩
end Go.Proofs.YtlkieeindnpidaaDoor
