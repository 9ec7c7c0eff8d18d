/-
  THE LAW HeadBack: the walk. Written by gen_bk.py.
-/
import Derived.Test.YtmabnljnochdcaaDoorBv
import Derived.Test.YtmabnljnochdcaaDoorBs
namespace Go.Proofs.YtmabnljnochdcaaDoor
open Go.RowKit Tt

set_option maxRecDepth 100000 in
set_option maxHeartbeats 4000000 in
theorem back_any (q : RQ) (ar : Option Addr) (nr cr : Nat) (rest : List Hn) (st : Int) (aa : Option Addr) (na ca : Nat) (rest2 : List Hn) (w : World) (hs : Ns w ar nr cr rest) (hm : Sm rest) (hs2 : Ns w aa na ca rest2) (hm2 : Sm rest2)
    (q1 : q.m.size ≤ 140737488355328) (q2 : q.s.size ≤ 140737488355328) (q3 : q.a.size ≤ 140737488355328) (q4 : q.p.size ≤ 140737488355328) (hst : -9223372036854775808 ≤ st ∧ st ≤ 9223372036854775807) (ea : Addr)
    (hE : w.cell? ⟨0, 0, none⟩ = some (errV ea)) (ht : ∀ W, Below w.heap.size w W → Tab W) :
    Calls Tryd.prog 5 #[.agg #[.string q.m, .string q.s, .string q.a, .string q.p, .slice ar nr cr], .agg #[.int .i64 st, .slice aa na ca]] w (Yes w) := by
  have hge := cell_lt hE
  simp only at hge
  have hb0 : Below w.heap.size w ((w.alloc (.cells #[.string q.m, .string q.s, .string q.a, .string q.p, .slice ar nr cr] 32)).alloc (.cells #[.int .i64 st, .slice aa na ca] 39)) := ((Below.refl _ w).alloc (Nat.le_refl _) _).alloc (by simp) _
  have p0 : ((w.alloc (.cells #[.string q.m, .string q.s, .string q.a, .string q.p, .slice ar nr cr] 32)).alloc (.cells #[.int .i64 st, .slice aa na ca] 39)).cell? ⟨w.heap.size, 0, none⟩ = some (.string q.m) := by simp
  have p1 : ((w.alloc (.cells #[.string q.m, .string q.s, .string q.a, .string q.p, .slice ar nr cr] 32)).alloc (.cells #[.int .i64 st, .slice aa na ca] 39)).cell? ⟨w.heap.size, 1, none⟩ = some (.string q.s) := by simp
  have p2 : ((w.alloc (.cells #[.string q.m, .string q.s, .string q.a, .string q.p, .slice ar nr cr] 32)).alloc (.cells #[.int .i64 st, .slice aa na ca] 39)).cell? ⟨w.heap.size, 2, none⟩ = some (.string q.a) := by simp
  have p3 : ((w.alloc (.cells #[.string q.m, .string q.s, .string q.a, .string q.p, .slice ar nr cr] 32)).alloc (.cells #[.int .i64 st, .slice aa na ca] 39)).cell? ⟨w.heap.size, 3, none⟩ = some (.string q.p) := by simp
  have p4 : ((w.alloc (.cells #[.string q.m, .string q.s, .string q.a, .string q.p, .slice ar nr cr] 32)).alloc (.cells #[.int .i64 st, .slice aa na ca] 39)).cell? ⟨w.heap.size, 4, none⟩ = some (.slice ar nr cr) := by simp
  have r0 : ((w.alloc (.cells #[.string q.m, .string q.s, .string q.a, .string q.p, .slice ar nr cr] 32)).alloc (.cells #[.int .i64 st, .slice aa na ca] 39)).cell? ⟨w.heap.size + 1, 0, none⟩ = some (.int .i64 st) := by simp
  have r1 : ((w.alloc (.cells #[.string q.m, .string q.s, .string q.a, .string q.p, .slice ar nr cr] 32)).alloc (.cells #[.int .i64 st, .slice aa na ca] 39)).cell? ⟨w.heap.size + 1, 1, none⟩ = some (.slice aa na ca) := by simp
  have hz0 : ((w.alloc (.cells #[.string q.m, .string q.s, .string q.a, .string q.p, .slice ar nr cr] 32)).alloc (.cells #[.int .i64 st, .slice aa na ca] 39)).heap.size = w.heap.size + 2 := by simp
  generalize hw0 : (w.alloc (.cells #[.string q.m, .string q.s, .string q.a, .string q.p, .slice ar nr cr] 32)).alloc (.cells #[.int .i64 st, .slice aa na ca] 39) = w0 at hb0 p0 p1 p2 p3 p4 r0 r1 hz0
  have HW0 := Lib.hid hw0
  have HS := Lib.hid hs
  have HS2 := Lib.hid hs2
  have HB0 := Lib.hid hb0
  have HM := Lib.hid hm
  have HM2 := Lib.hid hm2
  have HT := Lib.hid ht
  have HP := Lib.hid (fun (W : World) (h : Below w0.heap.size w0 W) => (⟨(h.cell (p := ⟨w.heap.size, 0, none⟩) (by simp only; omega)).trans p0, (h.cell (p := ⟨w.heap.size, 1, none⟩) (by simp only; omega)).trans p1, (h.cell (p := ⟨w.heap.size, 2, none⟩) (by simp only; omega)).trans p2, (h.cell (p := ⟨w.heap.size, 3, none⟩) (by simp only; omega)).trans p3, (h.cell (p := ⟨w.heap.size, 4, none⟩) (by simp only; omega)).trans p4, (h.cell (p := ⟨w.heap.size + 1, 0, none⟩) (by simp only; omega)).trans r0, (h.cell (p := ⟨w.heap.size + 1, 1, none⟩) (by simp only; omega)).trans r1⟩ : _ ∧ _ ∧ _ ∧ _ ∧ _ ∧ _ ∧ _))
  have HE := Lib.hid hE
  have HF := Lib.hid (first_any w0 ea ((hb0.cell (p := ⟨0, 0, none⟩) hge).trans hE))
  clear hs hs2 hw0 hb0 hm hm2 hE ht p0 p1 p2 p3 p4 r0 r1
  go_enter Tryd.func5, Tryd.ntmps5
  go_upto_region 1 with fail
  rw [HW0.out]
  go_wp2_with fail
  refine HF.out.mono ?_
  rintro e w1 ⟨rfl, hb1⟩
  have HB1 := Lib.hid (show Below w0.heap.size w0 w1 from hb1)
  obtain ⟨p0, p1, p2, p3, p4, r0, r1⟩ := HP.out w1 hb1
  have HL1 := Lib.hid (light_any ar nr cr rest w1 (HS.out.kept (HB0.out.trans (hb1.mono (by omega)))) HM.out)
  clear hb1 HF
  go_wp2_with fail
  refine HL1.out.mono ?_
  rintro e w2 ⟨l1, rfl, hl1, hb2⟩
  have HB2 := Lib.hid (HB1.out.trans (hb2.mono HB1.out.size))
  clear HL1 hb2 p0 p1 p2 p3 p4 r0 r1
  obtain ⟨p0, p1, p2, p3, p4, r0, r1⟩ := HP.out w2 HB2.out
  cases l1 with
  | false =>
    go_wp2_with fail
    go_ret
    exact ⟨rfl, HB0.out.trans (HB2.out.mono (by omega))⟩
  | true =>
  have hn1 := hl1 rfl
  clear hl1
  have HL2 := Lib.hid (light_any aa na ca rest2 w2 (HS2.out.kept (HB0.out.trans (HB2.out.mono (by omega)))) HM2.out)
  go_wp2_with fail
  refine HL2.out.mono ?_
  rintro e w3 ⟨l2, rfl, hl2, hb3⟩
  have HB3 := Lib.hid (HB2.out.trans (hb3.mono HB2.out.size))
  clear HL2 hb3 p0 p1 p2 p3 p4 r0 r1 HB1 HB2
  obtain ⟨p0, p1, p2, p3, p4, r0, r1⟩ := HP.out w3 HB3.out
  cases l2 with
  | false =>
    go_wp2_with fail
    go_ret
    exact ⟨rfl, HB0.out.trans (HB3.out.mono (by omega))⟩
  | true =>
  have hn2 := hl2 rfl
  clear hl2
  by_cases z1 : 3000 < q.m.size + q.s.size
  · have hd1 : decide ((3000 : Int) < (q.m.size : Int) + (q.s.size : Int)) = true := by simp; omega
    go_wp2_with fail
    go_ret
    exact ⟨rfl, HB0.out.trans (HB3.out.mono (by omega))⟩
  have hd1 : decide ((3000 : Int) < (q.m.size : Int) + (q.s.size : Int)) = false := by simp; omega
  by_cases z2 : 3000 < q.a.size + q.p.size
  · have hd2 : decide ((3000 : Int) < (q.a.size : Int) + (q.p.size : Int)) = true := by simp; omega
    go_wp2_with fail
    go_ret
    exact ⟨rfl, HB0.out.trans (HB3.out.mono (by omega))⟩
  have hd2 : decide ((3000 : Int) < (q.a.size : Int) + (q.p.size : Int)) = false := by simp; omega
  have HBU := Lib.hid (build_any q ar nr cr rest w3 (HS.out.kept (HB0.out.trans (HB3.out.mono (by omega)))) HM.out (by omega) (by omega) (by omega) (by omega) (by omega) ea (((HB0.out.trans (HB3.out.mono (by omega))).cell (p := ⟨0, 0, none⟩) hge).trans HE.out))
  unfold BuildPost at HBU
  unfold errV at HBU
  have hz3 := HB3.out.size
  cases hok : okReq q rest with
  | false =>
    rw [hok] at HBU
    simp only [Bool.false_eq_true, if_false] at HBU
    go_wp2_with fail
    refine HBU.out.mono ?_
    rintro e w7 ⟨hb7, rfl⟩
    have HB7 := Lib.hid (HB3.out.trans (hb7.mono hz3))
    clear HBU hb7 HB3 p0 p1 p2 p3 p4 r0 r1 hz3
    obtain ⟨p0, p1, p2, p3, p4, r0, r1⟩ := HP.out w7 HB7.out
    have HBA := Lib.hid (buildA_any st hst aa na ca rest2 w7 (HS2.out.kept (HB0.out.trans (HB7.out.mono (by omega)))) HM2.out (by omega) ea (((HB0.out.trans (HB7.out.mono (by omega))).cell (p := ⟨0, 0, none⟩) hge).trans HE.out) (fun W' h => HT.out W' ((HB0.out.trans (HB7.out.mono (by omega))).trans (h.mono (by have := HB7.out.size; omega)))))
    unfold BuildAPost at HBA
    unfold errV at HBA
    have hzw := HB7.out.size
    go_wp2_with fail
    refine HBA.out.mono ?_
    clear HBA
    cases ho : openA (hA st :: rest2) with
    | none =>
      simp only [Option.isSome_none, Bool.false_eq_true, if_false]
      rintro e w8 ⟨hb8, rfl⟩
      go_wp2_with fail
      go_ret
      exact ⟨rfl, HB0.out.trans ((HB7.out.trans (hb8.mono hzw)).mono (by omega))⟩
    | some x =>
      obtain ⟨kk, R⟩ := x
      obtain ⟨hk, hR'⟩ := back_openA ho
      subst hR'
      subst hk
      simp only [Option.isSome_some, if_true]
      rintro e w8 ⟨hb8, a8, N8, c8, rfl, hN8, ho8⟩
      have HB8 := Lib.hid (HB7.out.trans (hb8.mono hzw))
      have HN8 := Lib.hid hN8.out
      have HN2 := Lib.hid HS2.out.len
      have hBw : Below w.heap.size w w8 := HB0.out.trans (HB8.out.mono (by omega))
      have HOP := Lib.hid (openA_any a8 N8 c8 (hA (kk : Int) :: R) w8 (NOwn.own' ho8) (sm_hA hst HM2.out) (by have h1 := HN8.out; have h2 := HN2.out; omega) ea ((hBw.cell (p := ⟨0, 0, none⟩) hge).trans HE.out))
      unfold OpenAPost at HOP
      rw [ho] at HOP
      have HBW := Lib.hid hBw
      clear hb8 ho8 hBw hN8 p0 p1 p2 p3 p4 r0 r1 hzw
      go_wp2_with fail
      refine HOP.out.mono ?_
      rintro e w9 ⟨hb9, a9, N9, c9, rfl, ho9⟩
      have hN9 : N9 = R.length := by
        obtain ⟨a', c', he, _⟩ := ho9.ns
        cases he
        rfl
      subst hN9
      have hbz := HB8.out.size
      have hb10 : Below w8.heap.size w8 (w9.alloc (.cells #[.int .i64 (kk : Int), .slice a9 R.length c9] 36)) := hb9.alloc hb9.size _
      have hns : Ns (w9.alloc (.cells #[.int .i64 (kk : Int), .slice a9 R.length c9] 36)) a9 R.length c9 R := (NOwn.own' ho9).kept ((Below.refl _ _).alloc (Nat.le_refl _) _)
      have s0 : (w9.alloc (.cells #[.int .i64 (kk : Int), .slice a9 R.length c9] 36)).cell? ⟨w9.heap.size, 0, none⟩ = some (.int .i64 (kk : Int)) := by simp
      have s1 : (w9.alloc (.cells #[.int .i64 (kk : Int), .slice a9 R.length c9] 36)).cell? ⟨w9.heap.size, 1, none⟩ = some (.slice a9 R.length c9) := by simp
      have hzz : w9.heap.size < (w9.alloc (.cells #[.int .i64 (kk : Int), .slice a9 R.length c9] 36)).heap.size := by simp
      clear HOP hb9 ho9
      go_upto_region 14 with fail
      generalize w9.alloc (.cells #[.int .i64 (kk : Int), .slice a9 R.length c9] 36) = w10 at hb10 hns s0 s1 hzz ⊢
      have HB10 := Lib.hid (HB8.out.trans (hb10.mono hbz))
      obtain ⟨p0, p1, p2, p3, p4, r0, r1⟩ := HP.out w10 HB10.out
      have HSM := Lib.hid (sames_any a9 R.length c9 aa na ca R w10 hns (HS2.out.kept (HB0.out.trans (HB10.out.mono (by omega)))))
      clear hb10 hns hbz p0 p1 p2 p3 p4
      go_wp2_with fail
      refine HSM.out.mono ?_
      rintro e w11 ⟨rfl, hb11⟩
      have HB11 := Lib.hid (HB10.out.trans (hb11.mono HB10.out.size))
      obtain ⟨p0, p1, p2, p3, p4, r0, r1⟩ := HP.out w11 HB11.out
      have s0' := (hb11.cell (p := ⟨w9.heap.size, 0, none⟩) hzz).trans s0
      clear hb11 HSM s0 s1 p0 p1 p2 p3 p4
      have hnn : IntKind.i64.wrap ((na : Int) + 1) = (N8 : Int) := by
        have h1 := HN8.out
        have h2 := HN2.out
        rw [IntKind.wrap_i64]; omega
      have hn1 : (na : Int) + 1 = (N8 : Int) := by
        have h1 := HN8.out
        have h2 := HN2.out
        omega
      go_wp2_with fail
      all_goals go_ret
      all_goals exact ⟨by simp_all, HB0.out.trans (HB11.out.mono (by omega))⟩
  | true =>
    have hop := okReq_open hok
    rw [hok] at HBU
    simp only [if_true] at HBU
    have hlen : (hR q).length ≤ 4 := by unfold hR; split <;> simp
    go_wp2_with fail
    refine HBU.out.mono ?_
    rintro e w4 ⟨hb4, a4, N4, c4, rfl, hN4, ho4⟩
    have HB4 := Lib.hid (HB3.out.trans (hb4.mono hz3))
    have hBw : Below w.heap.size w w4 := HB0.out.trans (HB4.out.mono (by omega))
    have HOP := Lib.hid (open_any a4 N4 c4 (hR q ++ rest) w4 (NOwn.own' ho4) (sm_app (sm_hR (by omega) (by omega) (by omega) (by omega)) HM.out) (by have h1 := hN4.out; have h2 := HS.out.len; rw [List.length_append] at h1; omega) ea ((hBw.cell (p := ⟨0, 0, none⟩) hge).trans HE.out))
    unfold OpenPost at HOP
    rw [hop] at HOP
    clear HBU hb4 ho4 HB3 p0 p1 p2 p3 p4 r0 r1 hz3 hN4 hBw hlen
    go_wp2_with fail
    refine HOP.out.mono ?_
    rintro e w5 ⟨hb5, a5, N5, c5, rfl, ho5⟩
    have hN5 : N5 = rest.length := by
      obtain ⟨a', c', he, _⟩ := ho5.ns
      cases he
      rfl
    subst hN5
    have hz4 := HB4.out.size
    have hb6 : Below w4.heap.size w4 (w5.alloc (.cells #[.string q.m, .string q.s, .string q.a, .string q.p, .slice a5 rest.length c5] 27)) := hb5.alloc hb5.size _
    have hns : Ns (w5.alloc (.cells #[.string q.m, .string q.s, .string q.a, .string q.p, .slice a5 rest.length c5] 27)) a5 rest.length c5 rest := (NOwn.own' ho5).kept ((Below.refl _ _).alloc (Nat.le_refl _) _)
    have s0 : (w5.alloc (.cells #[.string q.m, .string q.s, .string q.a, .string q.p, .slice a5 rest.length c5] 27)).cell? ⟨w5.heap.size, 0, none⟩ = some (.string q.m) := by simp
    have s1 : (w5.alloc (.cells #[.string q.m, .string q.s, .string q.a, .string q.p, .slice a5 rest.length c5] 27)).cell? ⟨w5.heap.size, 1, none⟩ = some (.string q.s) := by simp
    have s2 : (w5.alloc (.cells #[.string q.m, .string q.s, .string q.a, .string q.p, .slice a5 rest.length c5] 27)).cell? ⟨w5.heap.size, 2, none⟩ = some (.string q.a) := by simp
    have s3 : (w5.alloc (.cells #[.string q.m, .string q.s, .string q.a, .string q.p, .slice a5 rest.length c5] 27)).cell? ⟨w5.heap.size, 3, none⟩ = some (.string q.p) := by simp
    have s4 : (w5.alloc (.cells #[.string q.m, .string q.s, .string q.a, .string q.p, .slice a5 rest.length c5] 27)).cell? ⟨w5.heap.size, 4, none⟩ = some (.slice a5 rest.length c5) := by simp
    have hzz : w5.heap.size < (w5.alloc (.cells #[.string q.m, .string q.s, .string q.a, .string q.p, .slice a5 rest.length c5] 27)).heap.size := by simp
    clear HOP hb5 ho5
    go_upto_region 7 with fail
    generalize w5.alloc (.cells #[.string q.m, .string q.s, .string q.a, .string q.p, .slice a5 rest.length c5] 27) = w6 at hb6 hns s0 s1 s2 s3 s4 hzz ⊢
    have HB6 := Lib.hid (HB4.out.trans (hb6.mono hz4))
    obtain ⟨p0, p1, p2, p3, p4, r0, r1⟩ := HP.out w6 HB6.out
    have HSM := Lib.hid (sames_any a5 rest.length c5 ar nr cr rest w6 hns (HS.out.kept (HB0.out.trans (HB6.out.mono (by omega)))))
    clear hb6 hns hz4 HB4
    go_wp2_with fail
    refine HSM.out.mono ?_
    rintro e w7 ⟨rfl, hb7⟩
    have HB7 := Lib.hid (HB6.out.trans (hb7.mono HB6.out.size))
    replace s0 := (hb7.cell (p := ⟨w5.heap.size, 0, none⟩) hzz).trans s0
    replace s1 := (hb7.cell (p := ⟨w5.heap.size, 1, none⟩) hzz).trans s1
    replace s2 := (hb7.cell (p := ⟨w5.heap.size, 2, none⟩) hzz).trans s2
    replace s3 := (hb7.cell (p := ⟨w5.heap.size, 3, none⟩) hzz).trans s3
    clear hb7 HSM p0 p1 p2 p3 p4 r0 r1 s4
    obtain ⟨p0, p1, p2, p3, p4, r0, r1⟩ := HP.out w7 HB7.out
    clear HB6
    go_upto_region 10 with fail
    clear s0 s1 s2 s3 hzz p0 p1 p2 p3 p4 r0 r1
    obtain ⟨p0, p1, p2, p3, p4, r0, r1⟩ := HP.out w7 HB7.out
    have HBA := Lib.hid (buildA_any st hst aa na ca rest2 w7 (HS2.out.kept (HB0.out.trans (HB7.out.mono (by omega)))) HM2.out (by omega) ea (((HB0.out.trans (HB7.out.mono (by omega))).cell (p := ⟨0, 0, none⟩) hge).trans HE.out) (fun W' h => HT.out W' ((HB0.out.trans (HB7.out.mono (by omega))).trans (h.mono (by have := HB7.out.size; omega)))))
    unfold BuildAPost at HBA
    unfold errV at HBA
    have hzw := HB7.out.size
    go_wp2_with fail
    refine HBA.out.mono ?_
    clear HBA
    cases ho : openA (hA st :: rest2) with
    | none =>
      simp only [Option.isSome_none, Bool.false_eq_true, if_false]
      rintro e w8 ⟨hb8, rfl⟩
      go_wp2_with fail
      go_ret
      exact ⟨rfl, HB0.out.trans ((HB7.out.trans (hb8.mono hzw)).mono (by omega))⟩
    | some x =>
      obtain ⟨kk, R⟩ := x
      obtain ⟨hk, hR'⟩ := back_openA ho
      subst hR'
      subst hk
      simp only [Option.isSome_some, if_true]
      rintro e w8 ⟨hb8, a8, N8, c8, rfl, hN8, ho8⟩
      have HB8 := Lib.hid (HB7.out.trans (hb8.mono hzw))
      have HN8 := Lib.hid hN8.out
      have HN2 := Lib.hid HS2.out.len
      have hBw : Below w.heap.size w w8 := HB0.out.trans (HB8.out.mono (by omega))
      have HOP := Lib.hid (openA_any a8 N8 c8 (hA (kk : Int) :: R) w8 (NOwn.own' ho8) (sm_hA hst HM2.out) (by have h1 := HN8.out; have h2 := HN2.out; omega) ea ((hBw.cell (p := ⟨0, 0, none⟩) hge).trans HE.out))
      unfold OpenAPost at HOP
      rw [ho] at HOP
      have HBW := Lib.hid hBw
      clear hb8 ho8 hBw hN8 p0 p1 p2 p3 p4 r0 r1 hzw
      go_wp2_with fail
      refine HOP.out.mono ?_
      rintro e w9 ⟨hb9, a9, N9, c9, rfl, ho9⟩
      have hN9 : N9 = R.length := by
        obtain ⟨a', c', he, _⟩ := ho9.ns
        cases he
        rfl
      subst hN9
      have hbz := HB8.out.size
      have hb10 : Below w8.heap.size w8 (w9.alloc (.cells #[.int .i64 (kk : Int), .slice a9 R.length c9] 36)) := hb9.alloc hb9.size _
      have hns : Ns (w9.alloc (.cells #[.int .i64 (kk : Int), .slice a9 R.length c9] 36)) a9 R.length c9 R := (NOwn.own' ho9).kept ((Below.refl _ _).alloc (Nat.le_refl _) _)
      have s0 : (w9.alloc (.cells #[.int .i64 (kk : Int), .slice a9 R.length c9] 36)).cell? ⟨w9.heap.size, 0, none⟩ = some (.int .i64 (kk : Int)) := by simp
      have s1 : (w9.alloc (.cells #[.int .i64 (kk : Int), .slice a9 R.length c9] 36)).cell? ⟨w9.heap.size, 1, none⟩ = some (.slice a9 R.length c9) := by simp
      have hzz : w9.heap.size < (w9.alloc (.cells #[.int .i64 (kk : Int), .slice a9 R.length c9] 36)).heap.size := by simp
      clear HOP hb9 ho9
      go_upto_region 14 with fail
      generalize w9.alloc (.cells #[.int .i64 (kk : Int), .slice a9 R.length c9] 36) = w10 at hb10 hns s0 s1 hzz ⊢
      have HB10 := Lib.hid (HB8.out.trans (hb10.mono hbz))
      obtain ⟨p0, p1, p2, p3, p4, r0, r1⟩ := HP.out w10 HB10.out
      have HSM := Lib.hid (sames_any a9 R.length c9 aa na ca R w10 hns (HS2.out.kept (HB0.out.trans (HB10.out.mono (by omega)))))
      clear hb10 hns hbz p0 p1 p2 p3 p4
      go_wp2_with fail
      refine HSM.out.mono ?_
      rintro e w11 ⟨rfl, hb11⟩
      have HB11 := Lib.hid (HB10.out.trans (hb11.mono HB10.out.size))
      obtain ⟨p0, p1, p2, p3, p4, r0, r1⟩ := HP.out w11 HB11.out
      have s0' := (hb11.cell (p := ⟨w9.heap.size, 0, none⟩) hzz).trans s0
      clear hb11 HSM s0 s1 p0 p1 p2 p3 p4
      have hnn : IntKind.i64.wrap ((na : Int) + 1) = (N8 : Int) := by
        have h1 := HN8.out
        have h2 := HN2.out
        rw [IntKind.wrap_i64]; omega
      have hn1 : (na : Int) + 1 = (N8 : Int) := by
        have h1 := HN8.out
        have h2 := HN2.out
        omega
      go_wp2_with fail
      all_goals go_ret
      all_goals exact ⟨by simp_all, HB0.out.trans (HB11.out.mono (by omega))⟩
end Go.Proofs.YtmabnljnochdcaaDoor
