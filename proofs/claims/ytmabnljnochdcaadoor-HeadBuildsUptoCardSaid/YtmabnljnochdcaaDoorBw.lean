/-
  THE LAW HeadBuilds: the walk. Written by gen_bw.py.
-/
import Derived.Test.YtmabnljnochdcaaDoorBl
import Derived.Test.YtmabnljnochdcaaDoorDBld
namespace Go.Proofs.YtmabnljnochdcaaDoor
open Go.RowKit Tt

/-- An error, as the code says it. -/
def vE (ok : Bool) (ea : Addr) : Value := if ok then .nilIface else errV ea
theorem vE_seen {w : World} {es : Nat → Addr} (S : Hu.Sent w es) (ok : Bool) (W : World) (h : Below w.heap.size w W) : Hu.Seen W (vE ok (es 11)) (hdC ok) := by
  cases ok with
  | true => exact Hu.seen_nil W
  | false => exact Hu.seen_err (S.kept h) (i := 11) (by decide)
def oneL (ok : Bool) (L : List Hn) : List Hn := if ok then L else []
/-- A list and a fault, as they are answered. -/
def Two (L : List Hn) (v : Value) (w : World) (e : Ending) (w' : World) : Prop := ∃ a N c, e = .returned (.tuple #[.slice a N c, v]) ∧ Ns w' a N c L ∧ Below w.heap.size w w'
theorem ns_none (W : World) : Ns W none 0 0 [] := NOwn.own' (NOwn.nil W 0)
theorem two_build {q : RQ} {ar : Option Addr} {nr cr : Nat} {rest : List Hn} {w : World} {ea : Addr} (h : Calls Tryd.prog 29 #[.agg #[.string q.m, .string q.s, .string q.a, .string q.p, .slice ar nr cr]] w (BuildPost q rest ea w)) :
    Calls Tryd.prog 29 #[.agg #[.string q.m, .string q.s, .string q.a, .string q.p, .slice ar nr cr]] w (Two (oneL (okReq q rest) (hR q ++ rest)) (vE (okReq q rest) ea) w) := by
  refine h.mono fun e w' hp => ?_
  unfold BuildPost at hp
  obtain ⟨hb, hp⟩ := hp
  cases hok : okReq q rest with
  | true =>
    rw [hok, if_pos rfl] at hp
    obtain ⟨a, N, c, rfl, hN, ho⟩ := hp
    have hN := hN.out
    exact ⟨a, N, c, rfl, NOwn.own' ho, hb⟩
  | false =>
    rw [hok, if_neg (by decide)] at hp
    subst hp
    exact ⟨none, 0, 0, rfl, ns_none _, hb⟩
theorem two_dbuild {q : RQ} {ar : Option Addr} {nr cr : Nat} {rest : List Hn} {w : World} (h : Calls Tryd.prog 30 #[.agg #[.string q.m, .string q.s, .string q.a, .string q.p, .slice ar nr cr]] w (DBuildPost q rest w)) :
    Calls Tryd.prog 30 #[.agg #[.string q.m, .string q.s, .string q.a, .string q.p, .slice ar nr cr]] w (Two (oneL (okReq q rest) (hR q ++ rest)) (.int .i64 (hdC (okReq q rest))) w) := by
  refine h.mono fun e w' hp => ?_
  unfold DBuildPost at hp
  obtain ⟨hb, hp⟩ := hp
  cases hok : okReq q rest with
  | true =>
    rw [hok, if_pos rfl] at hp
    obtain ⟨a, N, c, rfl, hN, ho⟩ := hp
    exact ⟨a, N, c, rfl, NOwn.own' ho, hb⟩
  | false =>
    rw [hok, if_neg (by decide)] at hp
    subst hp
    exact ⟨none, 0, 0, rfl, ns_none _, hb⟩
theorem two_buildA {st : Int} {aa : Option Addr} {na ca : Nat} {rest : List Hn} {w : World} {ea : Addr} (h : Calls Tryd.prog 31 #[ansV st (.slice aa na ca)] w (BuildAPost st rest ea w)) :
    Calls Tryd.prog 31 #[ansV st (.slice aa na ca)] w (Two (oneL (openA (hA st :: rest)).isSome (hA st :: rest)) (vE (openA (hA st :: rest)).isSome ea) w) := by
  refine h.mono fun e w' hp => ?_
  unfold BuildAPost at hp
  obtain ⟨hb, hp⟩ := hp
  cases hok : (openA (hA st :: rest)).isSome with
  | true =>
    rw [hok, if_pos rfl] at hp
    obtain ⟨a, N, c, rfl, hN, ho⟩ := hp
    exact ⟨a, N, c, rfl, NOwn.own' ho, hb⟩
  | false =>
    rw [hok, if_neg (by decide)] at hp
    subst hp
    exact ⟨none, 0, 0, rfl, ns_none _, hb⟩
theorem two_dbuildA {st : Int} {aa : Option Addr} {na ca : Nat} {rest : List Hn} {w : World} (h : Calls Tryd.prog 32 #[ansV st (.slice aa na ca)] w (DBuildAPost st rest w)) :
    Calls Tryd.prog 32 #[ansV st (.slice aa na ca)] w (Two (oneL (openA (hA st :: rest)).isSome (hA st :: rest)) (.int .i64 (hdC (openA (hA st :: rest)).isSome)) w) := by
  refine h.mono fun e w' hp => ?_
  unfold DBuildAPost at hp
  obtain ⟨hb, hp⟩ := hp
  cases hok : (openA (hA st :: rest)).isSome with
  | true =>
    rw [hok, if_pos rfl] at hp
    obtain ⟨a, N, c, rfl, hN, ho⟩ := hp
    exact ⟨a, N, c, rfl, NOwn.own' ho, hb⟩
  | false =>
    rw [hok, if_neg (by decide)] at hp
    subst hp
    exact ⟨none, 0, 0, rfl, ns_none _, hb⟩
set_option maxRecDepth 100000 in
set_option maxHeartbeats 4000000 in
theorem builds_any (q : RQ) (ar : Option Addr) (nr cr : Nat) (rest : List Hn) (st : Int) (aa : Option Addr) (na ca : Nat) (rest2 : List Hn) (w : World) (hs : Ns w ar nr cr rest) (hm : Sm rest) (hs2 : Ns w aa na ca rest2) (hm2 : Sm rest2)
    (q1 : q.m.size ≤ 140737488355328) (q2 : q.s.size ≤ 140737488355328) (q3 : q.a.size ≤ 140737488355328) (q4 : q.p.size ≤ 140737488355328) (hst : -9223372036854775808 ≤ st ∧ st ≤ 9223372036854775807) (es : Nat → Addr)
    (hS : Hu.Sent w es) (ht : ∀ W, Below w.heap.size w W → Tab W) :
    Calls Tryd.prog 4 #[.agg #[.string q.m, .string q.s, .string q.a, .string q.p, .slice ar nr cr], .agg #[.int .i64 st, .slice aa na ca]] w (Yes w) := by
  have hE : w.cell? ⟨0, 0, none⟩ = some (errV (es 11)) := hS.cell 11 0 rfl
  have HSN := Lib.hid hS
  clear hS
  have HSE : Hid (∀ (ok : Bool) (W : World), Below w.heap.size w W → Hu.Seen W (vE ok (es 11)) (hdC ok)) := Lib.hid fun ok W h => vE_seen HSN.out ok W h
  generalize es 11 = ea at hE HSE
  have hge := cell_lt hE
  simp only at hge
  have hb0 : Below w.heap.size w ((w.alloc (.cells #[.string q.m, .string q.s, .string q.a, .string q.p, .slice ar nr cr] 32)).alloc (.cells #[.int .i64 st, .slice aa na ca] 39)) := ((Below.refl _ w).alloc (Nat.le_refl _) _).alloc (by simp) _
  have p0 : ((w.alloc (.cells #[.string q.m, .string q.s, .string q.a, .string q.p, .slice ar nr cr] 32)).alloc (.cells #[.int .i64 st, .slice aa na ca] 39)).cell? ⟨w.heap.size, 0, none⟩ = some (.string q.m) := by simp
  have p1 : ((w.alloc (.cells #[.string q.m, .string q.s, .string q.a, .string q.p, .slice ar nr cr] 32)).alloc (.cells #[.int .i64 st, .slice aa na ca] 39)).cell? ⟨w.heap.size, 1, none⟩ = some (.string q.s) := by simp
  have p2 : ((w.alloc (.cells #[.string q.m, .string q.s, .string q.a, .string q.p, .slice ar nr cr] 32)).alloc (.cells #[.int .i64 st, .slice aa na ca] 39)).cell? ⟨w.heap.size, 2, none⟩ = some (.string q.a) := by simp
  have p3 : ((w.alloc (.cells #[.string q.m, .string q.s, .string q.a, .string q.p, .slice ar nr cr] 32)).alloc (.cells #[.int .i64 st, .slice aa na ca] 39)).cell? ⟨w.heap.size, 3, none⟩ = some (.string q.p) := by simp
  have p4 : ((w.alloc (.cells #[.string q.m, .string q.s, .string q.a, .string q.p, .slice ar nr cr] 32)).alloc (.cells #[.int .i64 st, .slice aa na ca] 39)).cell? ⟨w.heap.size, 4, none⟩ = some (.slice ar nr cr) := by simp
  have r0 : ((w.alloc (.cells #[.string q.m, .string q.s, .string q.a, .string q.p, .slice ar nr cr] 32)).alloc (.cells #[.int .i64 st, .slice aa na ca] 39)).cell? ⟨w.heap.size + 1, 0, none⟩ = some (.int .i64 st) := by simp
  have r1 : ((w.alloc (.cells #[.string q.m, .string q.s, .string q.a, .string q.p, .slice ar nr cr] 32)).alloc (.cells #[.int .i64 st, .slice aa na ca] 39)).cell? ⟨w.heap.size + 1, 1, none⟩ = some (.slice aa na ca) := by simp
  have hz0 : ((w.alloc (.cells #[.string q.m, .string q.s, .string q.a, .string q.p, .slice ar nr cr] 32)).alloc (.cells #[.int .i64 st, .slice aa na ca] 39)).heap.size = w.heap.size + 2 := by simp
  generalize hw0 : (w.alloc (.cells #[.string q.m, .string q.s, .string q.a, .string q.p, .slice ar nr cr] 32)).alloc (.cells #[.int .i64 st, .slice aa na ca] 39) = w0 at hb0 p0 p1 p2 p3 p4 r0 r1 hz0
  have HW0 := Lib.hid hw0
  have HS := Lib.hid hs
  have HS2 := Lib.hid hs2
  have HB0 := Lib.hid hb0
  have HM := Lib.hid hm
  have HM2 := Lib.hid hm2
  have HT := Lib.hid ht
  have HP := Lib.hid (fun (W : World) (h : Below w0.heap.size w0 W) => (⟨(h.cell (p := ⟨w.heap.size, 0, none⟩) (by simp only; omega)).trans p0, (h.cell (p := ⟨w.heap.size, 1, none⟩) (by simp only; omega)).trans p1, (h.cell (p := ⟨w.heap.size, 2, none⟩) (by simp only; omega)).trans p2, (h.cell (p := ⟨w.heap.size, 3, none⟩) (by simp only; omega)).trans p3, (h.cell (p := ⟨w.heap.size, 4, none⟩) (by simp only; omega)).trans p4, (h.cell (p := ⟨w.heap.size + 1, 0, none⟩) (by simp only; omega)).trans r0, (h.cell (p := ⟨w.heap.size + 1, 1, none⟩) (by simp only; omega)).trans r1⟩ : _ ∧ _ ∧ _ ∧ _ ∧ _ ∧ _ ∧ _))
  have HE := Lib.hid hE
  have HF := Lib.hid (first_any w0 ea ((hb0.cell (p := ⟨0, 0, none⟩) hge).trans hE))
  clear hs hs2 hw0 hb0 hm hm2 hE ht p0 p1 p2 p3 p4 r0 r1
  go_enter Tryd.func4, Tryd.ntmps4
  go_upto_region 1 with fail
  rw [HW0.out]
  go_wp2_with fail
  refine HF.out.mono ?_
  rintro e w1 ⟨rfl, hb1⟩
  have HB1 := Lib.hid (show Below w0.heap.size w0 w1 from hb1)
  obtain ⟨p0, p1, p2, p3, p4, r0, r1⟩ := HP.out w1 hb1
  have HL1 := Lib.hid (light_any ar nr cr rest w1 (HS.out.kept (HB0.out.trans (hb1.mono (by omega)))) HM.out)
  clear hb1 HF
  go_wp2_with fail
  refine HL1.out.mono ?_
  rintro e w2 ⟨l1, rfl, hl1, hb2⟩
  have HB2 := Lib.hid (HB1.out.trans (hb2.mono HB1.out.size))
  clear HL1 hb2 p0 p1 p2 p3 p4 r0 r1
  obtain ⟨p0, p1, p2, p3, p4, r0, r1⟩ := HP.out w2 HB2.out
  cases l1 with
  | false =>
    go_wp2_with fail
    go_ret
    exact ⟨rfl, HB0.out.trans (HB2.out.mono (by omega))⟩
  | true =>
  have hn1 := hl1 rfl
  clear hl1
  have HL2 := Lib.hid (light_any aa na ca rest2 w2 (HS2.out.kept (HB0.out.trans (HB2.out.mono (by omega)))) HM2.out)
  go_wp2_with fail
  refine HL2.out.mono ?_
  rintro e w3 ⟨l2, rfl, hl2, hb3⟩
  have HB3 := Lib.hid (HB2.out.trans (hb3.mono HB2.out.size))
  clear HL2 hb3 p0 p1 p2 p3 p4 r0 r1 HB1 HB2
  obtain ⟨p0, p1, p2, p3, p4, r0, r1⟩ := HP.out w3 HB3.out
  cases l2 with
  | false =>
    go_wp2_with fail
    go_ret
    exact ⟨rfl, HB0.out.trans (HB3.out.mono (by omega))⟩
  | true =>
  have hn2 := hl2 rfl
  clear hl2
  by_cases z1 : 3000 < q.m.size + q.s.size
  · have hd1 : decide ((3000 : Int) < (q.m.size : Int) + (q.s.size : Int)) = true := by simp; omega
    go_wp2_with fail
    go_ret
    exact ⟨rfl, HB0.out.trans (HB3.out.mono (by omega))⟩
  have hd1 : decide ((3000 : Int) < (q.m.size : Int) + (q.s.size : Int)) = false := by simp; omega
  by_cases z2 : 3000 < q.a.size + q.p.size
  · have hd2 : decide ((3000 : Int) < (q.a.size : Int) + (q.p.size : Int)) = true := by simp; omega
    go_wp2_with fail
    go_ret
    exact ⟨rfl, HB0.out.trans (HB3.out.mono (by omega))⟩
  have hd2 : decide ((3000 : Int) < (q.a.size : Int) + (q.p.size : Int)) = false := by simp; omega
  have HBU := Lib.hid (fun W (h : Below w3.heap.size w3 W) => two_build (build_any q ar nr cr rest W ((HS.out.kept (HB0.out.trans (HB3.out.mono (by omega)))).kept h) HM.out (by omega) (by omega) (by omega) (by omega) (by omega) ea ((((HB0.out.trans (HB3.out.mono (by omega))).trans (h.mono (by have := HB3.out.size; omega))).cell (p := ⟨0, 0, none⟩) hge).trans HE.out)))
  have HDU := Lib.hid (fun W (h : Below w3.heap.size w3 W) => two_dbuild (dbuild_any q ar nr cr rest W ((HS.out.kept (HB0.out.trans (HB3.out.mono (by omega)))).kept h) HM.out (by omega) (by omega) (by omega) (by omega) (by omega)))
  have HBA := Lib.hid (fun W (h : Below w3.heap.size w3 W) => two_buildA (buildA_any st hst aa na ca rest2 W ((HS2.out.kept (HB0.out.trans (HB3.out.mono (by omega)))).kept h) HM2.out (by omega) ea ((((HB0.out.trans (HB3.out.mono (by omega))).trans (h.mono (by have := HB3.out.size; omega))).cell (p := ⟨0, 0, none⟩) hge).trans HE.out) (fun W' h' => HT.out W' (((HB0.out.trans (HB3.out.mono (by omega))).trans (h.mono (by have := HB3.out.size; omega))).trans (h'.mono (by have := HB3.out.size; have := h.size; omega))))))
  have HDA := Lib.hid (fun W (h : Below w3.heap.size w3 W) => two_dbuildA (dbuildA_any st hst aa na ca rest2 W ((HS2.out.kept (HB0.out.trans (HB3.out.mono (by omega)))).kept h) HM2.out (by omega)))
  have HS1 := Lib.hid (fun W (h : Below w3.heap.size w3 W) => HSE.out (okReq q rest) W ((HB0.out.trans (HB3.out.mono (by omega))).trans (h.mono (by have := HB3.out.size; omega))))
  have HS3 := Lib.hid (fun W (h : Below w3.heap.size w3 W) => HSE.out (openA (hA st :: rest2)).isSome W ((HB0.out.trans (HB3.out.mono (by omega))).trans (h.mono (by have := HB3.out.size; omega))))
  have HFIN := Lib.hid (fun W (h : Below w3.heap.size w3 W) => (HB0.out.trans (HB3.out.mono (by omega))).trans (h.mono (by have := HB3.out.size; omega) : Below w.heap.size w3 W))
  have HQ := Lib.hid (fun W (h : Below w3.heap.size w3 W) => HP.out W (HB3.out.trans (h.mono HB3.out.size)))
  generalize oneL (okReq q rest) (hR q ++ rest) = M1 at HBU HDU
  generalize vE (okReq q rest) ea = V1 at HBU HS1
  generalize hdC (okReq q rest) = C1 at HDU HS1
  generalize oneL (openA (hA st :: rest2)).isSome (hA st :: rest2) = M2 at HBA HDA
  generalize vE (openA (hA st :: rest2)).isSome ea = V2 at HBA HS3
  generalize hdC (openA (hA st :: rest2)).isSome = C2 at HDA HS3
  clear HS HS2 HM HM2 HT HE HSN HSE HP HB0 HB3 HW0 hge hn1 hn2 q1 q2 q3 q4 hst hz0
  have HU0 := HBU.out w3 (Below.refl _ _)
  go_upto_region 4 with fail
  go_wp2_with fail
  refine HU0.mono ?_
  rintro e w4 ⟨a4, N4, c4, rfl, hn4, hb4⟩
  clear HU0 HBU p0 p1 p2 p3 p4 r0 r1
  obtain ⟨p0, p1, p2, p3, p4, r0, r1⟩ := HQ.out w4 hb4
  have HN4 := Lib.hid hn4
  have HB4 := Lib.hid hb4
  have HU0 := HDU.out w4 hb4
  clear hn4 hb4
  go_wp2_with fail
  refine HU0.mono ?_
  rintro e w5 ⟨a5, N5, c5, rfl, hn5, hb5⟩
  clear HU0 HDU p0 p1 p2 p3 p4 r0 r1
  have HN4 := Lib.hid (HN4.out.kept hb5)
  have HN5 := Lib.hid hn5
  have HB5 := Lib.hid (HB4.out.trans (hb5.mono HB4.out.size))
  obtain ⟨p0, p1, p2, p3, p4, r0, r1⟩ := HQ.out w5 HB5.out
  have HU0 := HBA.out w5 HB5.out
  clear hn5 hb5 HB4
  go_wp2_with fail
  refine HU0.mono ?_
  rintro e w6 ⟨a6, N6, c6, rfl, hn6, hb6⟩
  clear HU0 HBA p0 p1 p2 p3 p4 r0 r1
  have HN4 := Lib.hid (HN4.out.kept hb6)
  have HN5 := Lib.hid (HN5.out.kept hb6)
  have HN6 := Lib.hid hn6
  have HB6 := Lib.hid (HB5.out.trans (hb6.mono HB5.out.size))
  obtain ⟨p0, p1, p2, p3, p4, r0, r1⟩ := HQ.out w6 HB6.out
  have HU0 := HDA.out w6 HB6.out
  clear hn6 hb6 HB5
  go_wp2_with fail
  refine HU0.mono ?_
  rintro e w7 ⟨a7, N7, c7, rfl, hn7, hb7⟩
  clear HU0 HDA p0 p1 p2 p3 p4 r0 r1
  have HN4 := Lib.hid (HN4.out.kept hb7)
  have HN5 := Lib.hid (HN5.out.kept hb7)
  have HN6 := Lib.hid (HN6.out.kept hb7)
  have HN7 := Lib.hid hn7
  have HB7 := Lib.hid (HB6.out.trans (hb7.mono HB6.out.size))
  have HU0 := Lib.hid (sames_any a4 N4 c4 a5 N5 c5 M1 w7 HN4.out HN5.out)
  clear hn7 hb7 HB6
  go_wp2_with fail
  refine HU0.out.mono ?_
  rintro e w8 ⟨rfl, hb8⟩
  have HB8 := Lib.hid (HB7.out.trans (hb8.mono HB7.out.size))
  have HU1 := Lib.hid (sames_any a6 N6 c6 a7 N7 c7 M2 w8 (HN6.out.kept hb8) (HN7.out.kept hb8))
  clear HU0 hb8 HN4 HN5 HN6 HN7 HB7
  go_wp2_with fail
  refine HU1.out.mono ?_
  rintro e w9 ⟨rfl, hb9⟩
  have HB9 := Lib.hid (HB8.out.trans (hb9.mono HB8.out.size))
  have HU0 := Lib.hid (Hu.is_seen V1 C1 C1 w9 (HS1.out w9 HB9.out))
  rw [show (C1 == C1) = true from beq_self_eq_true C1] at HU0
  clear HU1 hb9 HB8
  go_wp2_with fail
  refine HU0.out.mono ?_
  rintro e w10 ⟨rfl, hb10⟩
  have HB10 := Lib.hid (HB9.out.trans (hb10.mono HB9.out.size))
  have HU1 := Lib.hid (Hu.is_seen V2 C2 C2 w10 (HS3.out w10 HB10.out))
  rw [show (C2 == C2) = true from beq_self_eq_true C2] at HU1
  clear HU0 hb10 HB9
  go_wp2_with fail
  refine HU1.out.mono ?_
  rintro e w11 ⟨rfl, hb11⟩
  go_wp2_with fail
  go_ret
  exact ⟨rfl, HFIN.out w11 (HB10.out.trans (hb11.mono HB10.out.size))⟩
end Go.Proofs.YtmabnljnochdcaaDoor
