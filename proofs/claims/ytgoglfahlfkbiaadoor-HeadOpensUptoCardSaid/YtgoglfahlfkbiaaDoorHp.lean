/-
  THE LAW HeadOpens: the walk.
-/
import Derived.Test.YtgoglfahlfkbiaaDoorHo
import Derived.Test.YtgoglfahlfkbiaaDoorMo
namespace Go.Proofs.YtgoglfahlfkbiaaDoor
open Go.RowKit Tt

set_option maxRecDepth 100000 in
set_option maxHeartbeats 4000000 in
theorem opens_any (a : Option Addr) (n c : Nat) (L : List Hn) (x y : ByteArray) (w : World) (hs : Ns w a n c L) (hm : Sm L) (es : Nat → Addr) (hS : Hu.Sent w es) :
    Calls Tryd.prog 3 #[.slice a n c, .string x, .string y] w (Yes w) := by
  have hE : w.cell? ⟨0, 0, none⟩ = some (errV (es 11)) := hS.cell 11 0 rfl
  have HSN := Lib.hid hS
  clear hS
  have HSE : Hid (∀ (ok : Bool) (W : World), Below w.heap.size w W → Hu.Seen W (errO (es 11) ok) (hdC ok)) := Lib.hid fun ok W h => errO_seen HSN.out ok W h
  generalize es 11 = ea at hE HSE
  have hge := cell_lt hE
  simp only at hge
  have HS := Lib.hid hs
  have HM := Lib.hid hm
  have HE := Lib.hid hE
  have HF := Lib.hid (first_any w ea hE)
  clear hs hm hE HSN
  go_enter Tryd.func3, Tryd.ntmps3
  go_wp2_with fail
  refine HF.out.mono ?_
  rintro e w1 ⟨rfl, hb1⟩
  have HB1 := Lib.hid (show Below w.heap.size w w1 from hb1)
  have HL1 := Lib.hid (light_any a n c L w1 (HS.out.kept hb1) HM.out)
  clear hb1 HF
  go_wp2_with fail
  refine HL1.out.mono ?_
  rintro e w2 ⟨l1, rfl, hl1, hb2⟩
  have HB2 := Lib.hid (HB1.out.trans (hb2.mono HB1.out.size))
  clear HL1 hb2 HB1
  cases l1 with
  | false =>
    go_wp2_with fail
    go_ret
    exact ⟨rfl, HB2.out⟩
  | true =>
  have hn1 := hl1 rfl
  clear hl1
  by_cases z1 : 3000 < x.size
  · have hd1 : decide ((3000 : Int) < (x.size : Int)) = true := by simp; omega
    go_wp2_with fail
    go_ret
    exact ⟨rfl, HB2.out⟩
  have hd1 : decide ((3000 : Int) < (x.size : Int)) = false := by simp; omega
  by_cases z2 : 3000 < y.size
  · have hd2 : decide ((3000 : Int) < (y.size : Int)) = true := by simp; omega
    go_wp2_with fail
    go_ret
    exact ⟨rfl, HB2.out⟩
  have hd2 : decide ((3000 : Int) < (y.size : Int)) = false := by simp; omega
  have hx : x.size ≤ 140737488355328 := by omega
  have hy : y.size ≤ 140737488355328 := by omega
  clear z1 z2
  have HK := Lib.hid (headers_any a n c L w2 (HS.out.kept HB2.out) (by omega))
  go_wp2_with fail
  refine HK.out.mono ?_
  rintro e w3 ⟨ad, c3, rfl, ho3, hb3⟩
  have HB3 := Lib.hid (HB2.out.trans (hb3.mono HB2.out.size))
  have HKP := Lib.hid (NOwn.own' ho3)
  have HS3 := Lib.hid (HS.out.kept HB3.out)
  clear ho3 hb3 HB2 HK HS
  have HOP := Lib.hid (fun W (h : Below w3.heap.size w3 W) => rq_open (open_any a n c L W (HS3.out.kept h) HM.out (by omega) ea (((HB3.out.trans (h.mono HB3.out.size)).cell (p := ⟨0, 0, none⟩) hge).trans HE.out)))
  have HDO := Lib.hid (fun W (h : Below w3.heap.size w3 W) => rq_dopen (dopen_any a n c L W (HS3.out.kept h) HM.out (by omega)))
  have HOA := Lib.hid (fun W (h : Below w3.heap.size w3 W) => an_open (openA_any a n c L W (HS3.out.kept h) HM.out (by omega) ea (((HB3.out.trans (h.mono HB3.out.size)).cell (p := ⟨0, 0, none⟩) hge).trans HE.out)))
  have HDA := Lib.hid (fun W (h : Below w3.heap.size w3 W) => an_dopen (dopenA_any a n c L W (HS3.out.kept h) HM.out (by omega)))
  have HTR := Lib.hid (fun W (h : Below w3.heap.size w3 W) => on_trail (trail_any a n c L (errV ea) W (HS3.out.kept h) HM.out (((HB3.out.trans (h.mono HB3.out.size)).cell (p := ⟨0, 0, none⟩) hge).trans HE.out)))
  have HDT := Lib.hid (fun W (h : Below w3.heap.size w3 W) => dtrail_any a n c L W (HS3.out.kept h) HM.out)
  have HLE := Lib.hid (fun W (h : Below w3.heap.size w3 W) => ln_len (length_any a n c L (errV ea) W (HS3.out.kept h) HM.out (by omega) (((HB3.out.trans (h.mono HB3.out.size)).cell (p := ⟨0, 0, none⟩) hge).trans HE.out)))
  have HDL := Lib.hid (fun W (h : Below w3.heap.size w3 W) => ln_dlen (dlength_any a n c L W (HS3.out.kept h) HM.out (by omega)))
  have HGE := Lib.hid (fun W (h : Below w3.heap.size w3 W) => get_any a n c L x W (HS3.out.kept h) (by omega))
  have HAL := Lib.hid (fun W (h : Below w3.heap.size w3 W) => all_any a n c L x W (HS3.out.kept h) (by omega))
  have HAD := Lib.hid (fun W (h : Below w3.heap.size w3 W) => dall_any a n c L x W (HS3.out.kept h) (by omega))
  have HSM := Lib.hid (fun W (h : Below w3.heap.size w3 W) => sames_any a n c ad n c3 L W (HS3.out.kept h) (HKP.out.kept h))
  have HS1 := Lib.hid (fun W (h : Below w3.heap.size w3 W) => HSE.out (openR L).isSome W (HB3.out.trans (h.mono HB3.out.size)))
  have HS2 := Lib.hid (fun W (h : Below w3.heap.size w3 W) => HSE.out (openA L).isSome W (HB3.out.trans (h.mono HB3.out.size)))
  have HSC := Lib.hid (fun W (h : Below w3.heap.size w3 W) => HSE.out (trailB L) W (HB3.out.trans (h.mono HB3.out.size)))
  have HSD := Lib.hid (fun W (h : Below w3.heap.size w3 W) => HSE.out (lenR L).isSome W (HB3.out.trans (h.mono HB3.out.size)))
  have HFIN := Lib.hid (fun W (h : Below w3.heap.size w3 W) => (HB3.out.trans (h.mono HB3.out.size) : Below w.heap.size w W))
  unfold GetPost at HGE
  generalize reqO (openR L) = q at HOP HDO
  generalize rstO (openR L) = R1 at HOP HDO
  generalize errO ea (openR L).isSome = V1 at HOP HS1
  generalize hdC (openR L).isSome = C1 at HDO HS1
  generalize numO (openA L) = kk at HOA HDA
  generalize rstO (openA L) = R2 at HOA HDA
  generalize errO ea (openA L).isSome = V2 at HOA HS2
  generalize hdC (openA L).isSome = C2 at HDA HS2
  generalize errO ea (trailB L) = V3 at HTR HSC
  generalize hdC (trailB L) = C3 at HDT HSC
  generalize lenK (lenR L) = kl at HLE HDL
  generalize lenB (lenR L) = bl at HLE HDL
  generalize errO ea (lenR L).isSome = V4 at HLE HSD
  generalize hdC (lenR L).isSome = C4 at HDL HSD
  generalize allM L x = M at HGE HAL HAD
  clear HSE HE hge HM HS3 HKP HB3 hn1 ea
  have HU := HOP.out w3 (Below.refl _ _)
  go_wp2_with fail
  refine HU.mono ?_
  rintro e w4 ⟨a4, N4, c4, rfl, hn4, hb4⟩
  have H4 := Lib.hid (rq_new (q := q) (t := 27) hn4 hb4 (Below.refl w3.heap.size w3))
  clear HU HOP hn4 hb4
  go_upto_region 6 with fail
  generalize w4.alloc (.cells #[.string q.m, .string q.s, .string q.a, .string q.p, .slice a4 N4 c4] 27) = w5 at H4 ⊢
  generalize w4.heap.size = P1 at H4 ⊢
  have HU := HDO.out w5 H4.out.2.2.1
  clear w4
  go_wp2_with fail
  refine HU.mono ?_
  rintro e w6 ⟨a6, N6, c6, rfl, hn6, hb6⟩
  have H6 := Lib.hid (rq_new (q := q) (t := 32) hn6 hb6 H4.out.2.2.1)
  clear HU HDO hn6 hb6
  go_upto_region 7 with fail
  generalize w6.alloc (.cells #[.string q.m, .string q.s, .string q.a, .string q.p, .slice a6 N6 c6] 32) = w7 at H6 ⊢
  generalize w6.heap.size = P2 at H6 ⊢
  have HU := HOA.out w7 H6.out.2.2.1
  clear w6
  go_wp2_with fail
  refine HU.mono ?_
  rintro e w8 ⟨a8, N8, c8, rfl, hn8, hb8⟩
  have H8 := Lib.hid (an_new (k := kk) (t := 36) hn8 hb8 H6.out.2.2.1)
  clear HU HOA hn8 hb8
  go_upto_region 8 with fail
  generalize w8.alloc (.cells #[.int .i64 kk, .slice a8 N8 c8] 36) = w9 at H8 ⊢
  generalize w8.heap.size = P3 at H8 ⊢
  have HU := HDA.out w9 H8.out.2.2.1
  clear w8
  go_wp2_with fail
  refine HU.mono ?_
  rintro e w10 ⟨a10, N10, c10, rfl, hn10, hb10⟩
  have H10 := Lib.hid (an_new (k := kk) (t := 39) hn10 hb10 H8.out.2.2.1)
  clear HU HDA hn10 hb10
  go_upto_region 9 with fail
  generalize w10.alloc (.cells #[.int .i64 kk, .slice a10 N10 c10] 39) = w11 at H10 ⊢
  generalize w10.heap.size = P4 at H10 ⊢
  clear w10
  have HB11 := Lib.hid H10.out.2.2.1
  have HALL : Hid (∀ W, Below w11.heap.size w11 W → Rq5 W P1 q (.slice a4 N4 c4) ∧ Rq5 W P2 q (.slice a6 N6 c6) ∧ An2 W P3 kk (.slice a8 N8 c8) ∧ An2 W P4 kk (.slice a10 N10 c10) ∧ NOwn W w3.heap.size (.slice a4 N4 c4) R1 ∧ Ns W a6 N6 c6 R1 ∧ NOwn W w7.heap.size (.slice a8 N8 c8) R2 ∧ Ns W a10 N10 c10 R2 ∧ Below w3.heap.size w3 W) := Lib.hid fun W h => by
    have k9 : Below w9.heap.size w9 W := H10.out.2.2.2.1.trans (h.mono H10.out.2.2.2.1.size)
    have k7 : Below w7.heap.size w7 W := H8.out.2.2.2.1.trans (k9.mono H8.out.2.2.2.1.size)
    have k5 : Below w5.heap.size w5 W := H6.out.2.2.2.1.trans (k7.mono H6.out.2.2.2.1.size)
    exact ⟨H4.out.1.kept k5, H6.out.1.kept k7, H8.out.1.kept k9, H10.out.1.kept h, H4.out.2.1.kept k5, (NOwn.own' H6.out.2.1).kept k7, H8.out.2.1.kept k9, (NOwn.own' H10.out.2.1).kept h, HB11.out.trans (h.mono HB11.out.size)⟩
  have HX1 : Hid (N4 = R1.length ∧ (∀ g o, a4 = some ⟨g, o, none⟩ → g < P1) ∧ (∀ g o, a4 = some ⟨g, o, none⟩ → g < w7.heap.size) ∧ P1 < w7.heap.size ∧ N8 = R2.length ∧ (∀ g o, a8 = some ⟨g, o, none⟩ → g < P3) ∧ (∀ g o, a8 = some ⟨g, o, none⟩ → w7.heap.size ≤ g) ∧ w7.heap.size ≤ P3 ∧ w3.heap.size ≤ w7.heap.size) := Lib.hid (by
    obtain ⟨q1, _, _, _, q5, q6, _⟩ := H4.out
    obtain ⟨r1, _, _, r4, _, _, _⟩ := H6.out
    obtain ⟨s1, _, _, s4, s5, s6, s7⟩ := H8.out
    have z1 := q1.lt
    have z2 := r4.size
    have z3 := s1.lt
    have z4 := H6.out.2.2.1.size
    refine ⟨q5, fun g o h => (q6 g o h).2, fun g o h => by have := (q6 g o h).2; omega, by omega, s5, fun g o h => (s6 g o h).2, fun g o h => (s6 g o h).1, s7, z4⟩)
  clear H4 H6 H8 H10
  have HU := HTR.out w11 HB11.out
  go_wp2_with fail
  refine HU.mono ?_
  rintro e w12 ⟨rfl, hb12⟩
  have HC12 := Lib.hid (show Below w11.heap.size w11 w12 from hb12)
  clear HU HTR hb12
  have HU := HLE.out w12 (HALL.out w12 HC12.out).2.2.2.2.2.2.2.2
  go_wp2_with fail
  refine HU.mono ?_
  rintro e w13 ⟨rfl, hb13⟩
  have HC13 := Lib.hid (HC12.out.trans (hb13.mono HC12.out.size))
  clear HU HLE hb13 HC12
  have HU := HDL.out w13 (HALL.out w13 HC13.out).2.2.2.2.2.2.2.2
  go_wp2_with fail
  refine HU.mono ?_
  rintro e w14 ⟨rfl, hb14⟩
  have HC14 := Lib.hid (HC13.out.trans (hb14.mono HC13.out.size))
  clear HU HDL hb14 HC13
  obtain ⟨⟨-, p0, p1, p2, p3, p4⟩, ⟨-, s0, s1, s2, s3, s4⟩, ⟨-, r0, r1⟩, ⟨-, t0, t1⟩, hn4, hn6, hn8, hn10, hbb⟩ := HALL.out w14 HC14.out
  have HU := sames_any a4 N4 c4 a6 N6 c6 R1 w14 (NOwn.own' hn4) hn6
  clear hn4 hn6 hn8 hn10 hbb
  go_wp2_with fail
  refine HU.mono ?_
  rintro e w15 ⟨rfl, hb15⟩
  have HC15 := Lib.hid (HC14.out.trans (hb15.mono HC14.out.size))
  clear HU hb15 HC14 p0 p1 p2 p3 p4 s0 s1 s2 s3 s4 r0 r1 t0 t1
  obtain ⟨⟨-, p0, p1, p2, p3, p4⟩, ⟨-, s0, s1, s2, s3, s4⟩, ⟨-, r0, r1⟩, ⟨-, t0, t1⟩, hn4, hn6, hn8, hn10, hbb⟩ := HALL.out w15 HC15.out
  have HU := sames_any a8 N8 c8 a10 N10 c10 R2 w15 (NOwn.own' hn8) hn10
  clear hn4 hn6 hn8 hn10 hbb
  go_wp2_with fail
  refine HU.mono ?_
  rintro e w16 ⟨rfl, hb16⟩
  have HC16 := Lib.hid (HC15.out.trans (hb16.mono HC15.out.size))
  clear HU hb16 HC15 p0 p1 p2 p3 p4 s0 s1 s2 s3 s4 r0 r1 t0 t1
  obtain ⟨⟨-, p0, p1, p2, p3, p4⟩, ⟨-, s0, s1, s2, s3, s4⟩, ⟨-, r0, r1⟩, ⟨-, t0, t1⟩, hn4, hn6, hn8, hn10, hbb⟩ := HALL.out w16 HC16.out
  have HU := HGE.out w16 hbb
  clear hn4 hn6 hn8 hn10 hbb
  go_wp2_with fail
  refine HU.mono ?_
  rintro e w17 ⟨rfl, hb17⟩
  have HC17 := Lib.hid (HC16.out.trans (hb17.mono HC16.out.size))
  clear HU HGE hb17 HC16 p0 p1 p2 p3 p4 s0 s1 s2 s3 s4 r0 r1 t0 t1
  have HU := HAD.out w17 (HALL.out w17 HC17.out).2.2.2.2.2.2.2.2
  go_wp2_with fail
  refine HU.mono ?_
  rintro e w18 ⟨a18, N18, c18, rfl, hN18, ho18, hb18⟩
  have HC18 := Lib.hid (HC17.out.trans (hb18.mono HC17.out.size))
  have HO18 := Lib.hid ho18.own
  have HN18 := Lib.hid hN18.out
  clear HU HAD hb18 HC17 hN18 ho18
  go_upto_region 16 with fail
  go_cut [29] from 143 to 172 (fun s29 wx => s29 = .bool true ∧ Below w18.heap.size w18 wx)
  case first =>
    as_aux_lemma =>
      have HU := HAL.out w18 (HALL.out w18 HC18.out).2.2.2.2.2.2.2.2
      cases M with
      | nil =>
        obtain rfl : N18 = 0 := HN18.out
        have g1 : (getT ([] : List ByteArray)).1 = ⟨#[]⟩ := rfl
        have g2 : (getT ([] : List ByteArray)).2 = false := rfl
        rw [g1, g2]
        clear g1 g2
        go_wp2_with fail
        refine HU.mono ?_
        rintro e w19 ⟨a19, N19, c19, rfl, hN19, ho19, hb19⟩
        have HT := samet_any a19 N19 c19 a18 0 c18 [] w19 ho19.own (HO18.out.kept hb19)
        clear HU hN19 ho19
        go_wp2_with fail
        refine HT.mono ?_
        rintro e w20 ⟨rfl, hb20⟩
        go_wp2_with fail
        go_meet
        exact ⟨rfl, hb19.trans (hb20.mono hb19.size)⟩
      | cons t M =>
        have g1 : (getT (t :: M)).1 = t := rfl
        have g2 : (getT (t :: M)).2 = true := rfl
        rw [g1, g2]
        clear g1 g2
        obtain ⟨b, o, rfl, e0⟩ := HO18.out.row 0 (by simp)
        simp only [Nat.add_zero, List.getElem_cons_zero] at e0
        have hN : 0 < N18 := by have := HN18.out; rw [this]; simp
        have hd0 : decide ((0 : Int) < (N18 : Int)) = true := by simp; omega
        go_wp2_with fail
        refine HU.mono ?_
        rintro e w19 ⟨a19, N19, c19, rfl, hN19, ho19, hb19⟩
        have HT := samet_any a19 N19 c19 (some ⟨b, o, none⟩) N18 c18 (t :: M) w19 ho19.own (HO18.out.kept hb19)
        clear HU hN19 ho19 e0
        go_wp2_with fail
        refine HT.mono ?_
        rintro e w20 ⟨rfl, hb20⟩
        go_wp2_with fail
        go_meet
        exact ⟨rfl, hb19.trans (hb20.mono hb19.size)⟩
  case rest =>
  obtain ⟨rfl, hb20⟩ := hcut
  obtain ⟨w20, rfl⟩ : ∃ w20 : World, w20 = wc := ⟨_, rfl⟩
  have HC20 := Lib.hid (HC18.out.trans (hb20.mono HC18.out.size))
  clear hb20 HC18 HO18 HN18 HAL
  have HW := HALL.out w20 HC20.out
  have HQ1 := Lib.hid HW.1
  have HA3 := Lib.hid HW.2.2.1
  have HR1 := Lib.hid HW.2.2.2.2.1
  have HR2 := Lib.hid HW.2.2.2.2.2.2.1
  have HBB := Lib.hid HW.2.2.2.2.2.2.2.2
  have HW7 : Hid (w7.heap.size ≤ w20.heap.size) := Lib.hid (by
    have h1 := HQ1.out.lt
    have := HA3.out.lt
    have := HX1.out.2.2.2.2.2.2.2.1
    omega)
  have hb4 : N4 ≤ 9223372036854775807 := by
    have h1 := (NOwn.own' HR1.out).max
    have h2 := (NOwn.own' HR1.out).le
    unfold maxLen at h1
    omega
  have hb8 : N8 ≤ 9223372036854775807 := by
    have h1 := (NOwn.own' HR2.out).max
    have h2 := (NOwn.own' HR2.out).le
    unfold maxLen at h1
    omega
  clear HW HALL HC20
  generalize w7.heap.size = Z7 at HX1 HR2 HW7
  go_wp2_with fail
  go_loopw [30] (fun s30 wr => ∃ (i : Nat) (M1 : List Hn), s30 = .int .i64 (i : Int) ∧ i ≤ N4 ∧ Hid (M1.length = N4 ∧ NOwn wr w3.heap.size (.slice a4 N4 c4) M1 ∧ Tch a4 w20 wr ∧ Below w3.heap.size w3 wr)) (fun s30 _ => N4 - (intOf s30).toNat)
  case atStart => exact ⟨0, R1, rfl, Nat.zero_le _, Lib.hid ⟨HX1.out.1.symm, HR1.out, Tch.refl _ _, HBB.out⟩⟩
  case round =>
    obtain ⟨i, M1, rfl, hi, HL⟩ := hrel
    have p4 := (HQ1.out.tch HL.out.2.2.1 (fun o h => by have := HX1.out.2.1 _ _ h; omega)).c4
    by_cases hlt : i < N4
    · obtain ⟨g, ha, hg1, hg2, -, hgz, hgc⟩ := HL.out.2.1.spot (by have := HL.out.1; omega)
      subst ha
      have z0 := hgz (i * 3)
      obtain ⟨c0, -, -⟩ := hgc i (by have := HL.out.1; omega)
      have hia : (0 : Int) ≤ (i : Int) := by omega
      have hib : (i : Int) < (N4 : Int) := by omega
      clear hgz hgc
      go_wp2_with fail
      refine ⟨⟨i + 1, _, by go_num, by omega, Lib.hid ⟨?_, HL.out.2.1.setN (i := i) (by have := HL.out.1; omega) _, HL.out.2.2.1.step Tch.set, HL.out.2.2.2.setCell hg1 _⟩⟩, by simp [intOf]; omega⟩
      rw [List.length_set]
      exact HL.out.1
    · obtain rfl : i = N4 := by omega
      have hne3 : ∀ o, a4 ≠ some ⟨P3, o, none⟩ := fun o h => by
        have h1 := HX1.out.2.2.1 _ _ h
        have h2 := HX1.out.2.2.2.2.2.2.2.1
        omega
      have HA3 := Lib.hid (HA3.out.tch HL.out.2.2.1 hne3)
      have HR2 := Lib.hid (HR2.out.tch HL.out.2.2.1 HX1.out.2.2.1)
      have HBB := Lib.hid HL.out.2.2.2
      have HX2 := Lib.hid (⟨HX1.out.2.2.2.2.1, HX1.out.2.2.2.2.2.1, fun g o h => Nat.le_trans HX1.out.2.2.2.2.2.2.2.2 (HX1.out.2.2.2.2.2.2.1 g o h)⟩ : N8 = R2.length ∧ (∀ g o, a8 = some ⟨g, o, none⟩ → g < P3) ∧ (∀ g o, a8 = some ⟨g, o, none⟩ → w3.heap.size ≤ g))
      clear HL hne3 HX1 HR1 HQ1 HW7 hlt hi hb4 R1 M1
      obtain ⟨w21, rfl⟩ : ∃ w21 : World, w21 = wr := ⟨_, rfl⟩
      go_wp2_with fail
      go_loopw [31] (fun s31 wr => ∃ (j : Nat) (M2 : List Hn), s31 = .int .i64 (j : Int) ∧ j ≤ N8 ∧ Hid (M2.length = N8 ∧ NOwn wr Z7 (.slice a8 N8 c8) M2 ∧ Tch a8 w21 wr ∧ Below w3.heap.size w3 wr)) (fun s31 _ => N8 - (intOf s31).toNat)
      case atStart => exact ⟨0, R2, rfl, Nat.zero_le _, Lib.hid ⟨HX2.out.1.symm, HR2.out, Tch.refl _ _, HBB.out⟩⟩
      case round =>
        obtain ⟨j, M2, rfl, hj, HL⟩ := hrel
        have r1 := (HA3.out.tch HL.out.2.2.1 (fun o h => by have := HX2.out.2.1 _ _ h; omega)).c1
        by_cases hlt : j < N8
        · obtain ⟨g, ha, hg1, hg2, -, hgz, hgc⟩ := HL.out.2.1.spot (by have := HL.out.1; omega)
          subst ha
          have hg3 : w3.heap.size ≤ g := HX2.out.2.2 _ _ rfl
          have z0 := hgz (j * 3)
          obtain ⟨c0, -, -⟩ := hgc j (by have := HL.out.1; omega)
          have hia : (0 : Int) ≤ (j : Int) := by omega
          have hib : (j : Int) < (N8 : Int) := by omega
          clear hgz hgc
          go_wp2_with fail
          refine ⟨⟨j + 1, _, by go_num, by omega, Lib.hid ⟨?_, HL.out.2.1.setN (i := j) (by have := HL.out.1; omega) _, HL.out.2.2.1.step Tch.set, HL.out.2.2.2.setCell hg3 _⟩⟩, by simp [intOf]; omega⟩
          rw [List.length_set]
          exact HL.out.1
        · obtain rfl : j = N8 := by omega
          have HBC := Lib.hid HL.out.2.2.2
          obtain ⟨w22, rfl⟩ : ∃ w22 : World, w22 = wr := ⟨_, rfl⟩
          clear HL hlt hj hb8 HX2 HR2 HA3 M2 HBB
          have HU := HSM.out w22 HBC.out
          go_wp2_with fail
          refine HU.mono ?_
          rintro e w23 ⟨rfl, hb23⟩
          have HB23 := Lib.hid (HBC.out.trans (hb23.mono HBC.out.size))
          have HN1 := name_any x w23 hx
          have HN2 := dname_any x w23 hx
          have hqb := eq_bool
          clear HU HSM hb23 HBC
          go_wp2_with fail
          refine HN1.mono ?_
          rintro e w24 ⟨rfl, rfl⟩
          go_wp2_with fail
          refine HN2.mono ?_
          rintro e w24 ⟨rfl, rfl⟩
          have HU := value_any y w23 hy
          clear HN1 HN2
          go_wp2_with fail
          refine HU.mono ?_
          rintro e w24 ⟨rfl, hb24⟩
          have HB24 := Lib.hid (HB23.out.trans (hb24.mono HB23.out.size))
          have HU := dvalue_any y w24 hy
          clear hb24 HB23
          go_wp2_with fail
          refine HU.mono ?_
          rintro e w25 ⟨rfl, hb25⟩
          have HB25 := Lib.hid (HB24.out.trans (hb25.mono HB24.out.size))
          have HU := Hu.is_seen V1 C1 C1 w25 (HS1.out w25 HB25.out)
          rw [show (C1 == C1) = true from beq_self_eq_true C1] at HU
          clear hb25 HB24
          go_wp2_with fail
          refine HU.mono ?_
          rintro e w26 ⟨rfl, hb26⟩
          have HB26 := Lib.hid (HB25.out.trans (hb26.mono HB25.out.size))
          have HU := Hu.is_seen V2 C2 C2 w26 (HS2.out w26 HB26.out)
          rw [show (C2 == C2) = true from beq_self_eq_true C2] at HU
          clear hb26 HB25
          go_wp2_with fail
          refine HU.mono ?_
          rintro e w27 ⟨rfl, hb27⟩
          have HB27 := Lib.hid (HB26.out.trans (hb27.mono HB26.out.size))
          have HU := HDT.out w27 HB27.out
          clear hb27 HB26 HDT
          go_wp2_with fail
          refine HU.mono ?_
          rintro e w28 ⟨rfl, hb28⟩
          have HB28 := Lib.hid (HB27.out.trans (hb28.mono HB27.out.size))
          have HU := Hu.is_seen V3 C3 C3 w28 (HSC.out w28 HB28.out)
          rw [show (C3 == C3) = true from beq_self_eq_true C3] at HU
          clear hb28 HB27
          go_wp2_with fail
          refine HU.mono ?_
          rintro e w29 ⟨rfl, hb29⟩
          have HB29 := Lib.hid (HB28.out.trans (hb29.mono HB28.out.size))
          have HU := Hu.is_seen V4 C4 C4 w29 (HSD.out w29 HB29.out)
          rw [show (C4 == C4) = true from beq_self_eq_true C4] at HU
          clear hb29 HB28
          go_wp2_with fail
          refine HU.mono ?_
          rintro e w30 ⟨rfl, hb30⟩
          go_wp2_with fail
          go_ret
          exact ⟨rfl, HFIN.out w30 (HB29.out.trans (hb30.mono HB29.out.size))⟩
end Go.Proofs.YtgoglfahlfkbiaaDoor
