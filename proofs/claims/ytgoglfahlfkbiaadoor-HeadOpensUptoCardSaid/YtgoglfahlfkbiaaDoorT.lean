/-
  CONTRACTS: OpenAnswer: the walk.
-/
import Derived.Test.YtgoglfahlfkbiaaDoorS
namespace Go.Proofs.YtgoglfahlfkbiaaDoor
open Go.RowKit Tt

abbrev SA := Nat × List ByteArray
def stA (S : SA) (x v : ByteArray) : SA := ((digP v 3 3).1, S.2 ++ [x])
def BoxA (r bx : Nat) (S : SA) (w : World) : Prop := AB w r (S.1 : Int) ∧ w.cell? ⟨bx, 0, none⟩ = some (.pointer (some ⟨r, 0, none⟩))
theorem ans_keeps {w : World} {p r mb bx : Nat} {D : DataW Value} (h : AnsMap w p r mb bx D) (hr : p ≤ r) (hbx : p ≤ bx) (nb : bx ≠ r) : Keeps (fun S : SA => dels D S.2) (fun _ _ v => statB v) stA (BoxA r bx) p mb r := by
  have nm : ∀ {g i : Nat} {v : Value}, w.cell? ⟨g, i, none⟩ = some v → g ≠ mb := fun hc e => by
    subst e
    rw [map_none h.map] at hc
    cases hc
  have m0 := nm h.rq.c0
  have mbx := nm h.cb
  refine ⟨h.pm, hr, Ne.symm m0, fun S W W' hb hk => ?_, fun S x hk => ?_, fun S x v hk => dels_snoc D S.2 x⟩
  · obtain ⟨hq, hb0⟩ := hb
    have kr := hk r hr (cell_lt hq.c0) m0
    have kb := hk bx hbx (cell_lt hb0) mbx
    exact ⟨hq.blk kr, (World.cell?_of_block (a := ⟨bx, 0, none⟩) kb).trans hb0⟩
  · have hat := fun z => dels_at x.data.toList z S.2 D hk
    have hD : Maps.has D (.string x.data.toList) = true := by
      unfold kn at hk
      rw [dels_has] at hk
      exact (Bool.and_eq_true _ _ ▸ hk).1
    rw [h.has] at hD
    have hx : x.data.toList = stL := of_decide_eq_true hD
    refine ⟨_, bx, fun z => by rw [hat z, hx]; exact h.at_ z, fun args W => by kernel_rfl, fun v W hb hv => ?_⟩
    obtain ⟨hq, hb0⟩ := hb
    refine (keep_status v bx r _ W hv hb0 hq).mono ?_
    rintro e W' ⟨rfl, rfl⟩
    exact ⟨rfl, kp_set _ _ _ _, hq.set _, (World.cell?_of_block (Below.heap_setCell _ _ _ _ nb)).trans hb0⟩
/-- An answer's headers with a colon. -/
def takeA : SA → List Hn → Option (SA × List Hn)
  | S, [] => some (S, [])
  | S, h :: t => if pre1 58 h.1.1 = true then (if (decide (h.1.1.data.toList = stL) && !seenB S.2 h.1.1) = true ∧ valueB h.1.2 = true ∧ statB h.1.2 = true then takeA (stA S h.1.1 h.1.2) t else none) else some (S, h :: t)
theorem takeA_eq {D : DataW Value} (h : ∀ l : List UInt8, Maps.has D (.string l) = decide (l = stL)) : ∀ (L : List Hn) (S : SA), takeG (fun S : SA => dels D S.2) (fun _ _ v => statB v) stA S L = takeA S L
  | [], S => rfl
  | C :: T, S => by
    have ih := fun S => takeA_eq h T S
    have hk : kn (dels D S.2) C.1.1 = (decide (C.1.1.data.toList = stL) && !seenB S.2 C.1.1) := by
      unfold kn
      rw [dels_has, h]
      rfl
    simp only [takeG, takeA, hk, ih]
/-- The answer that a list is. -/
def openA (L : List Hn) : Option (Nat × List Hn) := match takeA (0, []) L with
  | none => none
  | some (S, R) => if trailB R = true ∧ S.1 ≠ 0 then some (S.1, R) else none
abbrev ansV (n : Int) (rest : Value) : Value := .agg #[.int .i64 n, rest]
def OpenAPost (L : List Hn) (ev : Value) (w : World) (e : Ending) (w' : World) : Prop := Below w.heap.size w w' ∧ match openA L with
  | none => e = .returned (.tuple #[ansV 0 (.slice none 0 0), ev])
  | some (q, R) => ∃ a N c, e = .returned (.tuple #[ansV (q : Int) (.slice a N c), .nilIface]) ∧ NOwn w' w.heap.size (.slice a N c) R
theorem takeA_len : ∀ (L : List Hn) (S S' : SA) (R : List Hn), takeA S L = some (S', R) → R.length ≤ L.length
  | [], S, S', R, h => by simp [takeA] at h; rw [← h.2]; simp
  | C :: T, S, S', R, h => by
    simp only [takeA] at h
    split at h
    · split at h
      · have := takeA_len T _ _ _ h
        simp; omega
      · cases h
    · simp only [Option.some.injEq, Prod.mk.injEq] at h
      rw [← h.2]
      exact Nat.le_refl _
set_option maxRecDepth 100000 in
set_option maxHeartbeats 8000000 in
theorem openA_any (a : Option Addr) (n c : Nat) (L : List Hn) (w : World) (hs : Ns w a n c L) (hm : Sm L) (hn : n ≤ 100000) (ea : Addr) (hE : w.cell? ⟨0, 0, none⟩ = some (.iface 148 (.pointer (some ea)))) :
    Calls Tryd.prog 13 #[.slice a n c] w (OpenAPost L (.iface 148 (.pointer (some ea))) w) := by
  have hlen := hs.len
  have hge := cell_lt hE
  simp only at hge
  have hz0 := ab_new w
  have hb0 : Below w.heap.size w (w.alloc (.cells #[.int .i64 0, .slice none 0 0] 36)) := (Below.refl _ w).alloc (Nat.le_refl _) _
  have hsz0 : (w.alloc (.cells #[.int .i64 0, .slice none 0 0] 36)).heap.size = w.heap.size + 1 := by simp
  have hs0 := hs.kept hb0
  have hE0 := (hb0.cell (p := ⟨0, 0, none⟩) hge).trans hE
  generalize hw0 : w.alloc (.cells #[.int .i64 0, .slice none 0 0] 36) = w0 at hz0 hb0 hsz0 hs0 hE0
  have hz1 := ab_new w0
  have hb1 : Below w0.heap.size w0 (w0.alloc (.cells #[.int .i64 0, .slice none 0 0] 36)) := (Below.refl _ w0).alloc (Nat.le_refl _) _
  have hsz1 : (w0.alloc (.cells #[.int .i64 0, .slice none 0 0] 36)).heap.size = w0.heap.size + 1 := by simp
  generalize hw1 : w0.alloc (.cells #[.int .i64 0, .slice none 0 0] 36) = w1 at hz1 hb1 hsz1
  have HW0 := Lib.hid hw0
  have HW1 := Lib.hid hw1
  have HZ0 := Lib.hid hz0
  have HS0 := Lib.hid hs0
  have HE0 := Lib.hid hE0
  have HB0 := Lib.hid hb0
  have HB1 := Lib.hid hb1
  have HSZ0 := Lib.hid hsz0
  have HSZ1 := Lib.hid hsz1
  have HLN := Lib.hid hlen
  have HOF := Lib.hid (ofAns_any w0.heap.size w1 hz1)
  generalize hrho : w.heap.size = rho at *
  generalize hr : w0.heap.size = r at *
  have hrr : r = rho + 1 := HSZ0.out
  have HSZ1' : Hid (w1.heap.size = rho + 1 + 1) := Lib.hid (by rw [HSZ1.out, hrr])
  subst hrr
  have HRHO := Lib.hid hrho
  have HR := Lib.hid hr
  clear hw0 hw1 hz0 hs0 hE0 hb0 hb1 hsz0 hsz1 hz1 hs hE hrho hr hlen HSZ1 HSZ0
  go_enter Tryd.func13, Tryd.ntmps13
  go_upto_region 2 with fail
  rw [HRHO.out, HW0.out, HW1.out]
  go_wp2_with fail
  refine HOF.out.mono ?_
  rintro e w2 ⟨hb2, mb, bx, D, rfl, hm2, hbx⟩
  have hsz := HSZ1'.out
  have hB2 : Below (rho + 1) w0 w2 := HB1.out.trans (hb2.mono (by omega))
  have hm3 : AnsMap w2 (rho + 1) (rho + 1) mb bx D := ⟨hm2.map, hm2.has, hm2.at_, by have := hm2.pm; omega, hm2.cb, hm2.rq⟩
  have hK := ans_keeps hm3 (Nat.le_refl _) (by omega) (by omega)
  have hOG := open_gen (fun S : SA => dels D S.2) (fun _ _ v => statB v) stA (BoxA (rho + 1) bx) mb (rho + 1) w0 (by rw [HR.out]; exact hK) (0, []) L a n c HS0.out hm w2 (by rw [HR.out]; exact hB2) hm2.map ⟨hm2.rq, hm2.cb⟩ ea HE0.out
  have hTE := takeA_eq hm2.has L (0, [])
  unfold GPost at hOG
  rw [hTE, HR.out] at hOG
  have HOG := Lib.hid hOG
  clear hb2 hm2 hB2 hm3 hK hOG hTE HOF hsz hbx
  cases hT : takeA (0, []) L with
  | none =>
    have HN : Hid (openA L = none) := Lib.hid (by unfold openA; rw [hT])
    rw [hT] at HOG
    clear hT
    go_wp2_with fail
    refine HOG.out.mono ?_
    rintro e w3 ⟨hb3, rfl⟩
    have hz3 := HZ0.out.blk (hb3.block rho (by omega))
    obtain ⟨k0, k1, kz⟩ := hz3
    have hE3 := (hb3.cell (p := ⟨0, 0, none⟩) (by have := HB0.out.size; simp only; omega)).trans HE0.out
    have HB3 : Hid (Below rho w w3) := Lib.hid (HB0.out.trans (hb3.mono (by omega)))
    clear hb3 HOG
    go_wp2_with fail
    go_region
    all_goals go_wp2_with fail
    all_goals refine bodyPost_ret (v := .tuple #[ansV 0 (.slice none 0 0), .iface 148 (.pointer (some ea))]) (by simp [results, Tryd.results13, go_sem, k0, k1]) rfl ?_
    all_goals unfold OpenAPost
    all_goals rw [HN.out, HRHO.out]
    all_goals refine ⟨?_, rfl⟩
    all_goals (repeat (first | (with_reducible exact HB3.out) | (with_reducible refine Below.setCell ?_ (by dsimp only; omega) _) | (with_reducible refine Below.drew ?_)))
  | some SR =>
    obtain ⟨S, R⟩ := SR
    rw [hT] at HOG
    have HTL := Lib.hid (takeA_len L _ S R hT)
    have HOP : Hid (openA L = if trailB R = true ∧ S.1 ≠ 0 then some (S.1, R) else none) := Lib.hid (by unfold openA; rw [hT])
    clear hT
    cases htr : trailB R with
    | false =>
      have HTR := Lib.hid htr
      have HN : Hid (openA L = none) := Lib.hid (HOP.out.trans (if_neg (by rw [htr]; simp)))
      clear htr
      go_wp2_with fail
      refine HOG.out.mono ?_
      rintro e w3 ⟨hb3, a3, n3, c3, rfl, hs3, hq3, hk3⟩
      rw [HTR.out]
      have hz3 := HZ0.out.blk (hb3.block rho (by omega))
      obtain ⟨k0, k1, kz⟩ := hz3
      obtain ⟨m0, m1, mz⟩ := hq3
      have hE3 := (hb3.cell (p := ⟨0, 0, none⟩) (by have := HB0.out.size; simp only; omega)).trans HE0.out
      have HB3 : Hid (Below rho w w3) := Lib.hid (HB0.out.trans (hb3.mono (by omega)))
      clear hb3 HOG hs3 hk3
      go_wp2_with fail
      go_region
      all_goals go_wp2_with fail
      all_goals refine bodyPost_ret (v := .tuple #[ansV 0 (.slice none 0 0), .iface 148 (.pointer (some ea))]) (by simp [results, Tryd.results13, go_sem, k0, k1]) rfl ?_
      all_goals unfold OpenAPost
      all_goals rw [HN.out, HRHO.out]
      all_goals refine ⟨?_, rfl⟩
      all_goals (repeat (first | (with_reducible exact HB3.out) | (with_reducible refine Below.setCell ?_ (by dsimp only; omega) _) | (with_reducible refine Below.drew ?_)))
    | true =>
      have HTR := Lib.hid htr
      by_cases hs0 : S.1 = 0
      · have HN : Hid (openA L = none) := Lib.hid (HOP.out.trans (if_neg (by rw [hs0]; simp)))
        have hst : (((S.1 : Nat) : Int) == 0) = true := by rw [hs0]; rfl
        clear htr hs0
        go_wp2_with fail
        refine HOG.out.mono ?_
        rintro e w3 ⟨hb3, a3, n3, c3, rfl, hs3, hq3, hk3⟩
        rw [HTR.out]
        have hz3 := HZ0.out.blk (hb3.block rho (by omega))
        obtain ⟨k0, k1, kz⟩ := hz3
        obtain ⟨m0, m1, mz⟩ := hq3
        have hE3 := (hb3.cell (p := ⟨0, 0, none⟩) (by have := HB0.out.size; simp only; omega)).trans HE0.out
        have HB3 : Hid (Below rho w w3) := Lib.hid (HB0.out.trans (hb3.mono (by omega)))
        clear hb3 HOG hs3 hk3
        go_wp2_with fail
        go_region
        all_goals go_wp2_with fail
        all_goals refine bodyPost_ret (v := .tuple #[ansV 0 (.slice none 0 0), .iface 148 (.pointer (some ea))]) (by simp [results, Tryd.results13, go_sem, k0, k1]) rfl ?_
        all_goals unfold OpenAPost
        all_goals rw [HN.out, HRHO.out]
        all_goals refine ⟨?_, rfl⟩
        all_goals (repeat (first | (with_reducible exact HB3.out) | (with_reducible refine Below.setCell ?_ (by dsimp only; omega) _) | (with_reducible refine Below.drew ?_)))
      · have HN : Hid (openA L = some (S.1, R)) := Lib.hid (HOP.out.trans (if_pos ⟨htr, hs0⟩))
        have hst : (((S.1 : Nat) : Int) == 0) = false := by rw [beq_eq_false_iff_ne]; omega
        clear htr hs0
        go_wp2_with fail
        refine HOG.out.mono ?_
        rintro e w3 ⟨hb3, a3, n3, c3, rfl, hs3, hq3, hk3⟩
        rw [HTR.out]
        have hns3 := hs3.kept (by rw [HR.out]; exact hb3)
        have hl3 := hs3.len
        have HCL := Lib.hid (cloneN_any a3 n3 c3 R w3 hns3 (by have := HTL.out; have := HLN.out; omega))
        have hz3 := HZ0.out.blk (hb3.block rho (by omega))
        have hsz3 := hb3.size
        have HQ3 := Lib.hid hq3
        have HZ3 := Lib.hid hz3
        obtain ⟨m0, m1, mz⟩ := hq3
        have hrl : rho + 1 < w3.heap.size := cell_lt m0
        have HB3 : Hid (Below rho w w3) := Lib.hid (HB0.out.trans (hb3.mono (by omega)))
        clear hb3 HOG hs3 hk3 hns3 hl3 hz3
        go_wp2_with fail
        refine HCL.out.mono ?_
        rintro e w4 ⟨a4, N4, c4, rfl, hN4, ho4, hb4⟩
        have hz4 := HZ3.out.blk (hb4.block rho (by omega))
        have hq4 := HQ3.out.blk (hb4.block (rho + 1) hrl)
        have HO4 := Lib.hid ho4
        have HB4 : Hid (Below rho w w4) := Lib.hid (HB3.out.trans (hb4.mono (by omega)))
        clear m0 m1 mz hb4 ho4 HCL hN4
        obtain ⟨k0, k1, kz⟩ := hz4
        obtain ⟨m0, m1, mz⟩ := hq4
        have hne : ¬ rho = rho + 1 := by omega
        have hne' : ¬ rho + 1 = rho := by omega
        go_wp2_with fail
        refine bodyPost_ret (v := .tuple #[ansV (S.1 : Int) (.slice a4 N4 c4), .nilIface]) (by simp [results, Tryd.results13, go_sem, k0, k1, m0, m1, hne, hne']) rfl ?_
        unfold OpenAPost
        rw [HN.out, HRHO.out]
        refine ⟨?_, a4, N4, c4, rfl, ?_⟩
        · (repeat (first | (with_reducible exact HB4.out) | (with_reducible refine Below.setCell ?_ (by dsimp only; omega) _) | (with_reducible refine Below.drew ?_)))
        · refine NOwn.mono (B := rho + 1 + 1) ?_ (by omega)
          have hh : NOwn w4 (rho + 1 + 1) (.slice a4 N4 c4) R := HO4.out.mono (by omega)
          refine nown_at hh fun g h1 h2 => ?_
          (repeat (rw [Below.heap_setCell _ _ _ _ (by simp only; omega)]))
end Go.Proofs.YtgoglfahlfkbiaaDoor
