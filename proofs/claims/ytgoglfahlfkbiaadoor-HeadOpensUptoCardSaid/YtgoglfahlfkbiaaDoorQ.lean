/-
  CONTRACTS: Open.
-/
import Derived.Test.YtgoglfahlfkbiaaDoorP
namespace Go.Proofs.YtgoglfahlfkbiaaDoor
open Go.RowKit Tt

/-- The four names. -/
def markB (x : ByteArray) : Bool := decide (x.data.toList = mL) || decide (x.data.toList = sL) || decide (x.data.toList = aL) || decide (x.data.toList = pL)
def seenB (l : List ByteArray) (x : ByteArray) : Bool := l.any fun y => decide (y.data.toList = x.data.toList)
/-- A request's headers with a colon. -/
def takeR : SR → List Hn → Option (SR × List Hn)
  | S, [] => some (S, [])
  | S, h :: t => if pre1 58 h.1.1 = true then (if (markB h.1.1 && !seenB S.2 h.1.1) = true ∧ valueB h.1.2 = true ∧ okR h.1.1 h.1.2 = true then takeR (stR S h.1.1 h.1.2) t else none) else some (S, h :: t)
theorem takeR_eq {bx q1 q2 : Nat} {D : DataW Value} (h : Laid bx q1 q2 true true true true D) : ∀ (L : List Hn) (S : SR), takeG (fun S : SR => dels D S.2) (fun _ x v => okR x v) stR S L = takeR S L
  | [], S => rfl
  | C :: T, S => by
    have ih := fun S => takeR_eq h T S
    have hk : kn (dels D S.2) C.1.1 = (markB C.1.1 && !seenB S.2 C.1.1) := by
      unfold kn
      rw [dels_has, h.has]
      simp only [Bool.true_and]
      rfl
    simp only [takeG, takeR, hk, ih]
def q0 : RQ := ⟨⟨#[]⟩, ⟨#[]⟩, ⟨#[]⟩, ⟨#[]⟩⟩
/-- The request that a list is. -/
def openR (L : List Hn) : Option (RQ × List Hn) := match takeR (q0, []) L with
  | none => none
  | some (S, R) => if trailB R = true ∧ fullB S.1.m = true ∧ fullB S.1.s = true ∧ fullB S.1.p = true then some (S.1, R) else none
abbrev reqV (q : RQ) (rest : Value) : Value := .agg #[.string q.m, .string q.s, .string q.a, .string q.p, rest]
def OpenPost (L : List Hn) (ev : Value) (w : World) (e : Ending) (w' : World) : Prop := Below w.heap.size w w' ∧ match openR L with
  | none => e = .returned (.tuple #[reqV q0 (.slice none 0 0), ev])
  | some (q, R) => ∃ a N c, e = .returned (.tuple #[reqV q (.slice a N c), .nilIface]) ∧ NOwn w' w.heap.size (.slice a N c) R
theorem qb_new (w : World) : QB (w.alloc (.cells #[.string ⟨#[]⟩, .string ⟨#[]⟩, .string ⟨#[]⟩, .string ⟨#[]⟩, .slice none 0 0] 27)) w.heap.size q0 := ⟨by simp [q0], by simp [q0], by simp [q0], by simp [q0], by simp, fun i => by simp⟩
theorem take_len : ∀ (L : List Hn) (S S' : SR) (R : List Hn), takeR S L = some (S', R) → R.length ≤ L.length
  | [], S, S', R, h => by simp [takeR] at h; rw [← h.2]; simp
  | C :: T, S, S', R, h => by
    simp only [takeR] at h
    split at h
    · split at h
      · have := take_len T _ _ _ h
        simp; omega
      · cases h
    · simp only [Option.some.injEq, Prod.mk.injEq] at h
      rw [← h.2]
      exact Nat.le_refl _
theorem nown_at {w w' : World} {B : Nat} {v : Value} {L : List Hn} (h : NOwn w B v L) (hb : ∀ g, B ≤ g → g < w.heap.size → w'.heap[g]? = w.heap[g]?) : NOwn w' B v L := by
  obtain ⟨h1, h2⟩ := h
  refine ⟨h1, ?_⟩
  rcases h2 with h2 | ⟨g, cap, cur, hv, hg, hh, q⟩
  · exact Or.inl h2
  · exact Or.inr ⟨g, cap, cur, hv, hg, (hb g hg (Array.getElem?_eq_some_iff.1 hh).1).trans hh, q⟩
set_option maxRecDepth 100000 in
set_option maxHeartbeats 8000000 in
theorem open_any (a : Option Addr) (n c : Nat) (L : List Hn) (w : World) (hs : Ns w a n c L) (hm : Sm L) (hn : n ≤ 100000) (ea : Addr) (hE : w.cell? ⟨0, 0, none⟩ = some (.iface 148 (.pointer (some ea)))) :
    Calls Tryd.prog 11 #[.slice a n c] w (OpenPost L (.iface 148 (.pointer (some ea))) w) := by
  have hlen := hs.len
  have hge := cell_lt hE
  simp only at hge
  have hz0 := qb_new w
  have hb0 : Below w.heap.size w (w.alloc (.cells #[.string ⟨#[]⟩, .string ⟨#[]⟩, .string ⟨#[]⟩, .string ⟨#[]⟩, .slice none 0 0] 27)) := (Below.refl _ w).alloc (Nat.le_refl _) _
  have hsz0 : (w.alloc (.cells #[.string ⟨#[]⟩, .string ⟨#[]⟩, .string ⟨#[]⟩, .string ⟨#[]⟩, .slice none 0 0] 27)).heap.size = w.heap.size + 1 := by simp
  have hs0 := hs.kept hb0
  have hE0 := (hb0.cell (p := ⟨0, 0, none⟩) hge).trans hE
  generalize hw0 : w.alloc (.cells #[.string ⟨#[]⟩, .string ⟨#[]⟩, .string ⟨#[]⟩, .string ⟨#[]⟩, .slice none 0 0] 27) = w0 at hz0 hb0 hsz0 hs0 hE0
  have hz1 := qb_new w0
  have hb1 : Below w0.heap.size w0 (w0.alloc (.cells #[.string ⟨#[]⟩, .string ⟨#[]⟩, .string ⟨#[]⟩, .string ⟨#[]⟩, .slice none 0 0] 27)) := (Below.refl _ w0).alloc (Nat.le_refl _) _
  have hsz1 : (w0.alloc (.cells #[.string ⟨#[]⟩, .string ⟨#[]⟩, .string ⟨#[]⟩, .string ⟨#[]⟩, .slice none 0 0] 27)).heap.size = w0.heap.size + 1 := by simp
  generalize hw1 : w0.alloc (.cells #[.string ⟨#[]⟩, .string ⟨#[]⟩, .string ⟨#[]⟩, .string ⟨#[]⟩, .slice none 0 0] 27) = w1 at hz1 hb1 hsz1
  have HW0 := Lib.hid hw0
  have HW1 := Lib.hid hw1
  have HZ0 := Lib.hid hz0
  have HS0 := Lib.hid hs0
  have HE0 := Lib.hid hE0
  have HB0 := Lib.hid hb0
  have HB1 := Lib.hid hb1
  have HSZ0 := Lib.hid hsz0
  have HSZ1 := Lib.hid hsz1
  have HLN := Lib.hid hlen
  have HOF := Lib.hid (ofReq_any w0.heap.size w1 hz1)
  generalize hrho : w.heap.size = rho at *
  generalize hr : w0.heap.size = r at *
  have hrr : r = rho + 1 := HSZ0.out
  have HSZ1' : Hid (w1.heap.size = rho + 1 + 1) := Lib.hid (by rw [HSZ1.out, hrr])
  subst hrr
  have HRHO := Lib.hid hrho
  have HR := Lib.hid hr
  clear hw0 hw1 hz0 hs0 hE0 hb0 hb1 hsz0 hsz1 hz1 hs hE hrho hr hlen HSZ1 HSZ0
  go_enter Tryd.func11, Tryd.ntmps11
  go_upto_region 2 with fail
  rw [HRHO.out, HW0.out, HW1.out]
  go_wp2_with fail
  refine HOF.out.mono ?_
  rintro e w2 ⟨hb2, mb, bx, q1, q2, D, rfl, hm2, hbx, h1, h2⟩
  have hsz := HSZ1'.out
  have hB2 : Below (rho + 1) w0 w2 := HB1.out.trans (hb2.mono (by omega))
  have hm3 : ReqMap w2 (rho + 1) (rho + 1) mb bx q1 q2 D := ⟨hm2.map, hm2.laid, by have := hm2.pm; omega, hm2.cb, hm2.c1, hm2.c2, hm2.rq⟩
  have hK := req_keeps hm3 (Nat.le_refl _) (by omega) (by omega) (by omega) (by omega) (by omega) (by omega)
  have hOG := open_gen (fun S : SR => dels D S.2) (fun _ x v => okR x v) stR (BoxR (rho + 1) bx q1 q2) mb (rho + 1) w0 (by rw [HR.out]; exact hK) (q0, []) L a n c HS0.out hm w2 (by rw [HR.out]; exact hB2) hm2.map ⟨hm2.rq, hm2.cb, hm2.c1, hm2.c2⟩ ea HE0.out
  have hTE := takeR_eq hm2.laid L (q0, [])
  unfold GPost at hOG
  rw [hTE, HR.out] at hOG
  have HOG := Lib.hid hOG
  clear hb2 hm2 hB2 hm3 hK hOG hTE HOF hsz hbx h1 h2
  cases hT : takeR (q0, []) L with
  | none =>
    have HN : Hid (openR L = none) := Lib.hid (by unfold openR; rw [hT])
    rw [hT] at HOG
    clear hT
    go_wp2_with fail
    refine HOG.out.mono ?_
    rintro e w3 ⟨hb3, rfl⟩
    have hz3 := HZ0.out.blk (hb3.block rho (by omega))
    obtain ⟨k0, k1, k2, k3, k4, kz⟩ := hz3
    have hE3 := (hb3.cell (p := ⟨0, 0, none⟩) (by have := HB0.out.size; simp only; omega)).trans HE0.out
    have HB3 : Hid (Below rho w w3) := Lib.hid (HB0.out.trans (hb3.mono (by omega)))
    clear hb3 HOG
    go_wp2_with fail
    go_region
    all_goals go_wp2_with fail
    all_goals refine bodyPost_ret (v := .tuple #[reqV q0 (.slice none 0 0), .iface 148 (.pointer (some ea))]) (by simp [results, Tryd.results11, go_sem, k0, k1, k2, k3, k4, q0]) rfl ?_
    all_goals unfold OpenPost
    all_goals rw [HN.out, HRHO.out]
    all_goals refine ⟨?_, rfl⟩
    all_goals (repeat (first | (with_reducible exact HB3.out) | (with_reducible refine Below.setCell ?_ (by dsimp only; omega) _) | (with_reducible refine Below.drew ?_)))
  | some SR =>
    obtain ⟨S, R⟩ := SR
    rw [hT] at HOG
    have HTL := Lib.hid (take_len L _ S R hT)
    have HOP : Hid (openR L = if trailB R = true ∧ fullB S.1.m = true ∧ fullB S.1.s = true ∧ fullB S.1.p = true then some (S.1, R) else none) := Lib.hid (by unfold openR; rw [hT])
    clear hT
    cases htr : trailB R with
    | false =>
      have HTR := Lib.hid htr
      have HN : Hid (openR L = none) := Lib.hid (HOP.out.trans (if_neg (by rw [htr]; simp)))
      clear htr
      go_wp2_with fail
      refine HOG.out.mono ?_
      rintro e w3 ⟨hb3, a3, n3, c3, rfl, hs3, hq3, hk3⟩
      rw [HTR.out]
      have hz3 := HZ0.out.blk (hb3.block rho (by omega))
      obtain ⟨k0, k1, k2, k3, k4, kz⟩ := hz3
      obtain ⟨m0, m1, m2, m3, m4, mz⟩ := hq3
      have hE3 := (hb3.cell (p := ⟨0, 0, none⟩) (by have := HB0.out.size; simp only; omega)).trans HE0.out
      have HB3 : Hid (Below rho w w3) := Lib.hid (HB0.out.trans (hb3.mono (by omega)))
      clear hb3 HOG hs3 hk3
      go_wp2_with fail
      go_region
      all_goals go_wp2_with fail
      all_goals refine bodyPost_ret (v := .tuple #[reqV q0 (.slice none 0 0), .iface 148 (.pointer (some ea))]) (by simp [results, Tryd.results11, go_sem, k0, k1, k2, k3, k4, q0]) rfl ?_
      all_goals unfold OpenPost
      all_goals rw [HN.out, HRHO.out]
      all_goals refine ⟨?_, rfl⟩
      all_goals (repeat (first | (with_reducible exact HB3.out) | (with_reducible refine Below.setCell ?_ (by dsimp only; omega) _) | (with_reducible refine Below.drew ?_)))
    | true =>
      have HTR := Lib.hid htr
      cases hfm : fullB S.1.m with
      | false =>
        have HN : Hid (openR L = none) := Lib.hid (HOP.out.trans (if_neg (by rw [hfm]; simp)))
        have hm : S.1.m.toList.isEmpty = true := by have := hfm; unfold fullB at this; simpa using this
        clear htr hfm
        go_wp2_with fail
        refine HOG.out.mono ?_
        rintro e w3 ⟨hb3, a3, n3, c3, rfl, hs3, hq3, hk3⟩
        rw [HTR.out]
        have hz3 := HZ0.out.blk (hb3.block rho (by omega))
        obtain ⟨k0, k1, k2, k3, k4, kz⟩ := hz3
        obtain ⟨m0, m1, m2, m3, m4, mz⟩ := hq3
        have hE3 := (hb3.cell (p := ⟨0, 0, none⟩) (by have := HB0.out.size; simp only; omega)).trans HE0.out
        have HB3 : Hid (Below rho w w3) := Lib.hid (HB0.out.trans (hb3.mono (by omega)))
        clear hb3 HOG hs3 hk3
        go_wp2_with fail
        go_region
        all_goals go_wp2_with fail
        all_goals refine bodyPost_ret (v := .tuple #[reqV q0 (.slice none 0 0), .iface 148 (.pointer (some ea))]) (by simp [results, Tryd.results11, go_sem, k0, k1, k2, k3, k4, q0]) rfl ?_
        all_goals unfold OpenPost
        all_goals rw [HN.out, HRHO.out]
        all_goals refine ⟨?_, rfl⟩
        all_goals (repeat (first | (with_reducible exact HB3.out) | (with_reducible refine Below.setCell ?_ (by dsimp only; omega) _) | (with_reducible refine Below.drew ?_)))
      | true =>
        cases hfs : fullB S.1.s with
        | false =>
          have HN : Hid (openR L = none) := Lib.hid (HOP.out.trans (if_neg (by rw [hfs]; simp)))
          have hm : S.1.m.toList.isEmpty = false := by have := hfm; unfold fullB at this; simpa using this
          have hs : S.1.s.toList.isEmpty = true := by have := hfs; unfold fullB at this; simpa using this
          clear htr hfm hfs
          go_wp2_with fail
          refine HOG.out.mono ?_
          rintro e w3 ⟨hb3, a3, n3, c3, rfl, hs3, hq3, hk3⟩
          rw [HTR.out]
          have hz3 := HZ0.out.blk (hb3.block rho (by omega))
          obtain ⟨k0, k1, k2, k3, k4, kz⟩ := hz3
          obtain ⟨m0, m1, m2, m3, m4, mz⟩ := hq3
          have hE3 := (hb3.cell (p := ⟨0, 0, none⟩) (by have := HB0.out.size; simp only; omega)).trans HE0.out
          have HB3 : Hid (Below rho w w3) := Lib.hid (HB0.out.trans (hb3.mono (by omega)))
          clear hb3 HOG hs3 hk3
          go_wp2_with fail
          go_region
          all_goals go_wp2_with fail
          all_goals refine bodyPost_ret (v := .tuple #[reqV q0 (.slice none 0 0), .iface 148 (.pointer (some ea))]) (by simp [results, Tryd.results11, go_sem, k0, k1, k2, k3, k4, q0]) rfl ?_
          all_goals unfold OpenPost
          all_goals rw [HN.out, HRHO.out]
          all_goals refine ⟨?_, rfl⟩
          all_goals (repeat (first | (with_reducible exact HB3.out) | (with_reducible refine Below.setCell ?_ (by dsimp only; omega) _) | (with_reducible refine Below.drew ?_)))
        | true =>
          cases hfp : fullB S.1.p with
          | false =>
            have HN : Hid (openR L = none) := Lib.hid (HOP.out.trans (if_neg (by rw [hfp]; simp)))
            have hm : S.1.m.toList.isEmpty = false := by have := hfm; unfold fullB at this; simpa using this
            have hs : S.1.s.toList.isEmpty = false := by have := hfs; unfold fullB at this; simpa using this
            have hp : S.1.p.toList.isEmpty = true := by have := hfp; unfold fullB at this; simpa using this
            clear htr hfm hfs hfp
            go_wp2_with fail
            refine HOG.out.mono ?_
            rintro e w3 ⟨hb3, a3, n3, c3, rfl, hs3, hq3, hk3⟩
            rw [HTR.out]
            have hz3 := HZ0.out.blk (hb3.block rho (by omega))
            obtain ⟨k0, k1, k2, k3, k4, kz⟩ := hz3
            obtain ⟨m0, m1, m2, m3, m4, mz⟩ := hq3
            have hE3 := (hb3.cell (p := ⟨0, 0, none⟩) (by have := HB0.out.size; simp only; omega)).trans HE0.out
            have HB3 : Hid (Below rho w w3) := Lib.hid (HB0.out.trans (hb3.mono (by omega)))
            clear hb3 HOG hs3 hk3
            go_wp2_with fail
            go_region
            all_goals go_wp2_with fail
            all_goals refine bodyPost_ret (v := .tuple #[reqV q0 (.slice none 0 0), .iface 148 (.pointer (some ea))]) (by simp [results, Tryd.results11, go_sem, k0, k1, k2, k3, k4, q0]) rfl ?_
            all_goals unfold OpenPost
            all_goals rw [HN.out, HRHO.out]
            all_goals refine ⟨?_, rfl⟩
            all_goals (repeat (first | (with_reducible exact HB3.out) | (with_reducible refine Below.setCell ?_ (by dsimp only; omega) _) | (with_reducible refine Below.drew ?_)))
          | true =>
            have HN : Hid (openR L = some (S.1, R)) := Lib.hid (HOP.out.trans (if_pos ⟨htr, hfm, hfs, hfp⟩))
            have hm : S.1.m.toList.isEmpty = false := by have := hfm; unfold fullB at this; simpa using this
            have hs : S.1.s.toList.isEmpty = false := by have := hfs; unfold fullB at this; simpa using this
            have hp : S.1.p.toList.isEmpty = false := by have := hfp; unfold fullB at this; simpa using this
            clear htr hfm hfs hfp
            go_wp2_with fail
            refine HOG.out.mono ?_
            rintro e w3 ⟨hb3, a3, n3, c3, rfl, hs3, hq3, hk3⟩
            rw [HTR.out]
            have hns3 := hs3.kept (by rw [HR.out]; exact hb3)
            have hl3 := hs3.len
            have HCL := Lib.hid (cloneN_any a3 n3 c3 R w3 hns3 (by have := HTL.out; have := HLN.out; omega))
            have hz3 := HZ0.out.blk (hb3.block rho (by omega))
            have hsz3 := hb3.size
            have HQ3 := Lib.hid hq3
            have HZ3 := Lib.hid hz3
            obtain ⟨m0, m1, m2, m3, m4, mz⟩ := hq3
            have hrl : rho + 1 < w3.heap.size := cell_lt m0
            have HB3 : Hid (Below rho w w3) := Lib.hid (HB0.out.trans (hb3.mono (by omega)))
            clear hb3 HOG hs3 hk3 hns3 hl3 hz3
            go_wp2_with fail
            refine HCL.out.mono ?_
            rintro e w4 ⟨a4, N4, c4, rfl, hN4, ho4, hb4⟩
            have hz4 := HZ3.out.blk (hb4.block rho (by omega))
            have hq4 := HQ3.out.blk (hb4.block (rho + 1) hrl)
            have HO4 := Lib.hid ho4
            have HB4 : Hid (Below rho w w4) := Lib.hid (HB3.out.trans (hb4.mono (by omega)))
            clear m0 m1 m2 m3 m4 mz hb4 ho4 HCL hN4
            obtain ⟨k0, k1, k2, k3, k4, kz⟩ := hz4
            obtain ⟨m0, m1, m2, m3, m4, mz⟩ := hq4
            have hne : ¬ rho = rho + 1 := by omega
            have hne' : ¬ rho + 1 = rho := by omega
            go_wp2_with fail
            refine bodyPost_ret (v := .tuple #[reqV S.1 (.slice a4 N4 c4), .nilIface]) (by simp [results, Tryd.results11, go_sem, k0, k1, k2, k3, k4, m0, m1, m2, m3, m4, q0, hne, hne']) rfl ?_
            unfold OpenPost
            rw [HN.out, HRHO.out]
            refine ⟨?_, a4, N4, c4, rfl, ?_⟩
            · (repeat (first | (with_reducible exact HB4.out) | (with_reducible refine Below.setCell ?_ (by dsimp only; omega) _) | (with_reducible refine Below.drew ?_)))
            · refine NOwn.mono (B := rho + 1 + 1) ?_ (by omega)
              have hh : NOwn w4 (rho + 1 + 1) (.slice a4 N4 c4) R := HO4.out.mono (by omega)
              refine nown_at hh fun g h1 h2 => ?_
              (repeat (rw [Below.heap_setCell _ _ _ _ (by simp only; omega)]))
end Go.Proofs.YtgoglfahlfkbiaaDoor
