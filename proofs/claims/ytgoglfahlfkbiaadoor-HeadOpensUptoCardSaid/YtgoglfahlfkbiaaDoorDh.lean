/-
  CONTRACT of the document's OpenAnswer. Written by gen_dh.py.
-/
import Derived.Test.YtgoglfahlfkbiaaDoorDe
namespace Go.Proofs.YtgoglfahlfkbiaaDoor
open Go.RowKit Tt

/-- The answer that a list is, as the document reckons it. -/
def dfineA (h : Hn) (t : List Hn) : Bool := decide (frontN (h :: t) = 1) && (decide (nmL h = stL) && (statB h.1.2 && trailB t))
def dopenA : List Hn → Option (Nat × List Hn)
  | [] => none
  | h :: t => if dfineA h t = true then some ((digP h.1.2 3 3).1, t) else none
theorem dopA_cons (h : Hn) (t : List Hn) : dopenA (h :: t) = if (decide (frontN (h :: t) = 1) && (decide (nmL h = stL) && (statB h.1.2 && trailB t))) = true then some ((digP h.1.2 3 3).1, t) else none := rfl
theorem dopA_cons' (h : Hn) (t : List Hn) : dopenA (h :: t) = if dfineA h t = true then some ((digP h.1.2 3 3).1, t) else none := rfl
theorem dig_brk {c : UInt8} (h : digitB c = true) : brkL.contains c = false ∧ blankB c = false := by
  unfold digitB at h
  have h := of_decide_eq_true h
  have ne : ∀ d : UInt8, d.toNat < 48 → c ≠ d := fun d hd e => by subst e; omega
  have n0 := ne 0 (by decide)
  have n1 := ne 10 (by decide)
  have n2 := ne 13 (by decide)
  have n3 := ne 32 (by decide)
  have n4 := ne 9 (by decide)
  refine ⟨?_, ?_⟩
  · simp [brkL, n0, n1, n2]
  · simp [blankB, n3, n4]
theorem stat_value {v : ByteArray} (h : statB v = true) : valueB v = true := by
  unfold statB at h
  simp only [Bool.and_eq_true] at h
  have h2 := h.1
  unfold digP at h2
  split at h2
  · cases h2
  · split at h2
    · rename_i hd
      have hx := List.all_eq_true.1 hd
      have hb : anyBrk v = false := by
        unfold anyBrk
        rw [List.any_eq_false]
        intro c hc
        rw [(dig_brk (hx c hc)).1]
        decide
      have he : edgeB v.data.toList = true := by
        unfold edgeB
        have h1 : v.data.toList.head?.any blankB = false := by
          cases hh : v.data.toList.head? with
          | none => rfl
          | some c => exact (dig_brk (hx c (List.mem_of_head? hh))).2
        have h2 : v.data.toList.getLast?.any blankB = false := by
          cases hh : v.data.toList.getLast? with
          | none => rfl
          | some c => exact (dig_brk (hx c (List.mem_of_getLast? hh))).2
        rw [h1, h2]
        rfl
      unfold valueB
      rw [hb, he]
      rfl
    · cases h2
theorem stat_ge {v : ByteArray} (h : statB v = true) : 100 ≤ (digP v 3 3).1 := by
  unfold statB at h
  simp only [Bool.and_eq_true, decide_eq_true_eq] at h
  exact h.2.1
theorem front_no {h : Hn} {t : List Hn} (hc : colB h = false) : frontN (h :: t) = 0 := by
  unfold frontN
  rw [List.takeWhile_cons_of_neg (by rw [hc]; simp)]
  rfl
theorem front_yes {h : Hn} {t : List Hn} (hc : colB h = true) : frontN (h :: t) = frontN t + 1 := by
  unfold frontN
  rw [List.takeWhile_cons_of_pos hc, List.length_cons]
theorem open_dopenA (L : List Hn) : openA L = dopenA L := by
  cases L with
  | nil => rfl
  | cons h t =>
    rw [dopA_cons]
    unfold openA
    cases hc : colB h with
    | false =>
      rw [front_no hc]
      simp only [takeA]
      rw [if_neg (by rw [show pre1 58 h.1.1 = colB h from rfl, hc]; simp)]
      simp
    | true =>
      rw [front_yes hc]
      simp only [takeA]
      rw [if_pos (show pre1 58 h.1.1 = true from hc)]
      by_cases h1 : nmL h = stL
      · by_cases h2 : statB h.1.2 = true
        · have hge := stat_ge h2
          rw [if_pos ⟨by rw [show h.1.1.data.toList = stL from h1]; rfl, stat_value h2, h2⟩, h2]
          cases t with
          | nil =>
            have hne : (stA (0, []) h.1.1 h.1.2).1 ≠ 0 := by show (digP h.1.2 3 3).1 ≠ 0; omega
            simp only [takeA]
            rw [if_pos ⟨rfl, hne⟩, if_pos (by rw [decide_eq_true h1]; rfl)]
            rfl
          | cons y ys =>
            simp only [takeA]
            cases hy : colB y with
            | true =>
              rw [if_pos (show pre1 58 y.1.1 = true from hy), front_yes hy]
              rw [if_neg (by
                rintro ⟨q, _⟩
                simp only [Bool.and_eq_true, decide_eq_true_eq] at q
                have q2 := q.2
                simp only [stA, seenB, List.nil_append, List.any_cons, List.any_nil, Bool.or_false, Bool.not_eq_true', decide_eq_false_iff_not] at q2
                exact q2 (h1.trans q.1.symm))]
              rw [decide_eq_false (by omega)]
              rfl
            | false =>
              rw [if_neg (by rw [show pre1 58 y.1.1 = colB y from rfl, hy]; simp), front_no hy]
              have hne : (stA (0, []) h.1.1 h.1.2).1 ≠ 0 := by show (digP h.1.2 3 3).1 ≠ 0; omega
              rw [decide_eq_true h1]
              simp only [decide_true, Bool.true_and, Nat.zero_add, hne, ne_eq, not_false_eq_true, and_true]
              rfl
        · have h2 : statB h.1.2 = false := by simpa using h2
          rw [if_neg (fun q => by rw [h2] at q; cases q.2.2), h2]
          simp
      · rw [if_neg (fun q => by
          have := q.1
          simp only [Bool.and_eq_true, decide_eq_true_eq] at this
          exact h1 this.1), decide_eq_false h1]
        simp
def DOpenAPost (L : List Hn) (w : World) (e : Ending) (w' : World) : Prop := Below w.heap.size w w' ∧ match dopenA L with
  | none => e = .returned (.tuple #[ansV 0 (.slice none 0 0), .int .i64 112])
  | some (q, R) => ∃ a N c, e = .returned (.tuple #[ansV (q : Int) (.slice a N c), .int .i64 0]) ∧ NOwn w' w.heap.size (.slice a N c) R
theorem ret_twoA {L : List Hn} {w W : World} {a : Act} {r : Nat} {x0 x1 c : Value} (h2 : a.tmps.getD 2 undef = .pointer (some ⟨r, 0, none⟩)) (h3 : a.tmps.getD 3 undef = c) (hd : a.defers = [])
    (k0 : W.cell? ⟨r, 0, none⟩ = some x0) (k1 : W.cell? ⟨r, 1, none⟩ = some x1)
    (hp : DOpenAPost L w (.returned (.tuple #[.agg #[x0, x1], c])) W) : bodyPost Tryd.prog Tryd.f14 (DOpenAPost L w) Exit.ret a W := by
  refine bodyPost_ret (v := .tuple #[.agg #[x0, x1], c]) ?_ hd hp
  obtain ⟨ts, ds⟩ := a
  simp only [Array.getD_eq_getD_getElem?] at h2 h3
  simp [results, Tryd.results14, go_sem, h2, h3, k0, k1]
theorem two_kept {w w' : World} {r : Nat} {u v : Value} {t : TypeId} (h : w.heap[r]? = some (.cells #[u, v] t (0, 0))) (hb : w'.heap[r]? = w.heap[r]?) :
    w'.cell? ⟨r, 0, none⟩ = some u ∧ w'.cell? ⟨r, 1, none⟩ = some v ∧ ∀ i, w'.frozen? ⟨r, i, none⟩ = false := by
  have hh := hb.trans h
  refine ⟨?_, ?_, fun i => ?_⟩
  all_goals simp [World.cell?, World.frozen?, hh]
theorem two_set {w : World} {r : Nat} {v0 v1 : Value} (u0 u1 : Value) (c0 : w.cell? ⟨r, 0, none⟩ = some v0) (c1 : w.cell? ⟨r, 1, none⟩ = some v1) {B : Nat} {w00 : World} (hB : Below B w00 w) (hr : B ≤ r) :
    ∃ W, W = (w.setCell ⟨r, 0, none⟩ u0).setCell ⟨r, 1, none⟩ u1 ∧ W.cell? ⟨r, 0, none⟩ = some u0 ∧ W.cell? ⟨r, 1, none⟩ = some u1 ∧ Below B w00 W ∧ (∀ k, k ≠ r → W.heap[k]? = w.heap[k]?) ∧ W.heap.size = w.heap.size := by
  refine ⟨_, rfl, ?_, ?_, (hB.setCell hr _).setCell hr _, fun k hk => ?_, by simp [World.setCell]⟩
  · rw [cell_setN _ _ _ _ _ (by decide)]
    exact cell_setS _ _ _ _ _ c0
  · exact cell_setS _ _ _ _ _ ((cell_setN _ _ _ _ _ (by decide)).trans c1)
  · rw [Below.heap_setCell _ _ _ _ hk, Below.heap_setCell _ _ _ _ hk]
theorem dop_no {h : Hn} {t : List Hn} (hd : dfineA h t = false) : dopenA (h :: t) = none := by
  rw [dopA_cons', hd]
  rfl
theorem dop_far {L : List Hn} (hf : frontN L ≠ 1) : dopenA L = none := by
  cases L with
  | nil => rfl
  | cons h t =>
    refine dop_no ?_
    unfold dfineA
    rw [decide_eq_false hf]
    rfl
set_option maxRecDepth 100000 in
set_option maxHeartbeats 4000000 in
theorem dopenA_any (ad : Option Addr) (n c : Nat) (L : List Hn) (w : World) (hs : Ns w ad n c L) (hm : Sm L) (hn : n ≤ 1000) : Calls Tryd.prog 14 #[.slice ad n c] w (DOpenAPost L w) := by
  have hb0 : Below w.heap.size w (w.alloc (.cells #[.int .i64 0, .slice none 0 0] 39)) := (Below.refl _ w).alloc (Nat.le_refl _) _
  have p0 : (w.alloc (.cells #[.int .i64 0, .slice none 0 0] 39)).heap[w.heap.size]? = some (.cells #[.int .i64 0, .slice none 0 0] 39 (0, 0)) := by
    show (w.heap.push _)[w.heap.size]? = _
    exact Array.getElem?_push_size
  have hz0 : (w.alloc (.cells #[.int .i64 0, .slice none 0 0] 39)).heap.size = w.heap.size + 1 := by simp
  have hle := hs.le
  have hlen := hs.len
  have HS := Lib.hid hs
  have HL := Lib.hid hlen
  have HM := Lib.hid hm
  generalize hw0 : w.alloc (.cells #[.int .i64 0, .slice none 0 0] 39) = w0 at hb0 p0 hz0
  have HFR := Lib.hid (front_any ad n c L w0 (hs.kept hb0))
  have HW0 := Lib.hid hw0
  have HB0 := Lib.hid hb0
  have HP0 := Lib.hid p0
  have HZ0 := Lib.hid hz0
  clear hs hm hw0 hb0 p0 hlen
  go_enter Tryd.func14, Tryd.ntmps14
  go_upto_region 1 with fail
  rw [HW0.out]
  by_cases hf : frontN L = 1
  · cases L with
    | nil => exact absurd hf (by decide)
    | cons h t =>
    obtain ⟨⟨gn, gv⟩, gb⟩ := h
    rw [hf] at HFR
    obtain ⟨z1, z2⟩ := HM.out 0 (by simp)
    simp only [List.getElem_cons_zero] at z1 z2
    have hn1 : 1 ≤ n := by have := HL.out; rw [List.length_cons] at this; omega
    obtain ⟨b, o, rfl⟩ := ns_some HS.out (by simp)
    have HDF : Hid (dfineA ((gn, gv), gb) t = (decide (gn.data.toList = stL) && (statB gv && trailB t))) := Lib.hid (by unfold dfineA; rw [decide_eq_true hf]; rfl)
    have HTL := Lib.hid (show List.drop 1 (((gn, gv), gb) :: t) = t from rfl)
    have HEE := Lib.hid (fun (W : World) (h : Below w.heap.size w W) => (by
      obtain ⟨b', o', he, e0, e1, _⟩ := (HS.out.kept h).row 0 (by simp)
      cases he
      simp only [Nat.zero_mul, Nat.add_zero, List.getElem_cons_zero] at e0 e1
      exact ⟨e0, e1⟩ : W.cell? ⟨b, o, none⟩ = some (.string gn) ∧ W.cell? ⟨b, o + 1, none⟩ = some (.string gv)))
    have HNAME : Hid (decide (gn.data.toList = stL) = (gn.toList == [58, 115, 116, 97, 116, 117, 115])) := Lib.hid (beq_dec gn _).symm
    clear hf
    go_wp2_with fail
    refine HFR.out.mono ?_
    rintro e w1 ⟨rfl, hb1⟩
    have HB1 := Lib.hid (show Below w0.heap.size w0 w1 from hb1)
    clear hb1 HFR
    obtain ⟨e0, e1⟩ := HEE.out w1 (HB0.out.trans (HB1.out.mono (by omega)))
    have hia : (0 : Int) < (n : Int) := by omega
    cases hnm : gn.toList == [58, 115, 116, 97, 116, 117, 115] with
    | false =>
      have HNO : Hid (dopenA (((gn, gv), gb) :: t) = none) := Lib.hid (dop_no (by rw [HDF.out, HNAME.out, hnm]; rfl))
      obtain ⟨r0, r1, rz⟩ := two_kept (HP0.out) (HB1.out.block w.heap.size (by omega))
      have rz0 := rz 0
      have rz1 := rz 1
      obtain ⟨W5, hW5, k0, k1, hb5, _, _⟩ := two_set (.int .i64 0) (.slice none 0 0) r0 r1 (HB0.out.trans (HB1.out.mono (by omega))) (Nat.le_refl w.heap.size)
      have HF5 := Lib.hid (⟨k0, k1, hb5⟩ : _ ∧ _ ∧ _)
      have HW5 := Lib.hid hW5
      clear k0 k1 hb5 hW5 rz
      go_wp2_with fail
      rw [← HW5.out]
      obtain ⟨k0, k1, hb5⟩ := HF5.out
      exact ret_twoA rfl rfl rfl k0 k1 ⟨hb5, by rw [HNO.out]; rfl⟩
    | true =>
    rw [HNAME.out, hnm] at HDF
    by_cases hsz : gv.size = 3
    · have hdz : decide ((gv.size : Int) = 3) = true := decide_eq_true (by omega)
      have hsl2 := fun W => slice_n1 (some ⟨b, o, none⟩) n c hn1 W
      have HSP := Lib.hid (ns_part (HS.out.kept (HB0.out.trans (HB1.out.mono (by omega)))) 1 hn1)
      rw [HTL.out] at HSP
      have HTR := Lib.hid (dtrail_any (partN (some ⟨b, o, none⟩) c 1) (n - 1) (c - 1) t w1 HSP.out (sm_drop HM.out 1))
      go_wp2_with fail
      refine HTR.out.mono ?_
      rintro e w2 ⟨rfl, hb2⟩
      have HB2 := Lib.hid (HB1.out.trans (hb2.mono HB1.out.size))
      obtain ⟨e0, e1⟩ := HEE.out w2 (HB0.out.trans (HB2.out.mono (by omega)))
      have HSQ := Lib.hid (HSP.out.kept hb2)
      clear HTR hb2
      cases ht : trailB t with
      | false =>
        have HNO : Hid (dopenA (((gn, gv), gb) :: t) = none) := Lib.hid (dop_no (by rw [HDF.out, ht]; simp))
        simp only [hdC, Bool.false_eq_true, if_false]
        obtain ⟨r0, r1, rz⟩ := two_kept (HP0.out) (HB2.out.block w.heap.size (by omega))
        have rz0 := rz 0
        have rz1 := rz 1
        obtain ⟨W5, hW5, k0, k1, hb5, _, _⟩ := two_set (.int .i64 0) (.slice none 0 0) r0 r1 (HB0.out.trans (HB2.out.mono (by omega))) (Nat.le_refl w.heap.size)
        have HF5 := Lib.hid (⟨k0, k1, hb5⟩ : _ ∧ _ ∧ _)
        have HW5 := Lib.hid hW5
        clear k0 k1 hb5 hW5 rz
        go_wp2_with fail
        rw [← HW5.out]
        obtain ⟨k0, k1, hb5⟩ := HF5.out
        exact ret_twoA rfl rfl rfl k0 k1 ⟨hb5, by rw [HNO.out]; rfl⟩
      | true =>
      simp only [hdC, if_true]
      rw [ht] at HDF
      have HDP : Hid (digP gv 3 3 = if gv.data.toList.all digitB = true then (decV gv.data.toList, true) else (0, false)) := Lib.hid (by unfold digP; rw [if_neg (by omega)])
      have HLEN : Hid (gv.data.toList.length = gv.size) := Lib.hid (by simp)
      go_wp2_with fail
      go_loop [4, 6] (fun s4 s6 => ∃ k : Nat, s6 = .int .i64 (k : Int) ∧ k ≤ 3 ∧ s4 = .int .i64 ((decV (gv.data.toList.take k) : Nat) : Int) ∧ Hid (∀ i (h : i < gv.size), i < k → digitB gv[i] = true)) (fun _ s6 => 3 - (intOf s6).toNat)
      case atStart => exact ⟨0, rfl, Nat.zero_le _, rfl, Lib.hid fun i _ h => by omega⟩
      case round =>
        obtain ⟨k, rfl, hk, rfl, HA⟩ := hrel
        by_cases hlt : k < 3
        · have hlg : k < gv.size := by omega
          have hkl : k < gv.data.toList.length := by rw [HLEN.out]; exact hlg
          have hst := decV_take gv.data.toList hkl
          rw [dig_get gv hlg hkl] at hst
          have hbd : decV (gv.data.toList.take k) < 10 ^ k := decV_lt k _ (by rw [List.length_take]; omega) (fun c hc => by
            obtain ⟨i, hi, rfl⟩ := List.mem_iff_getElem.1 hc
            rw [List.length_take] at hi
            rw [List.getElem_take, dig_get gv (by omega) (by omega)]
            exact HA.out i (by omega) (by omega))
          have hb2 : 10 ^ k ≤ 10 ^ 3 := Nat.pow_le_pow_right (by omega) (by omega)
          have hb3 : decV (gv.data.toList.take k) < 1000 := Nat.lt_of_lt_of_le hbd (by simpa using hb2)
          have hxl := (gv[k]).toNat_lt
          by_cases hd : 48 ≤ (gv[k]).toNat ∧ (gv[k]).toNat ≤ 57
          · have HN : Hid (∀ i (h : i < gv.size), i < k + 1 → digitB gv[i] = true) := Lib.hid fun i hi h => by
              by_cases hik : i < k
              · exact HA.out i hi hik
              · obtain rfl : i = k := by omega
                exact decide_eq_true hd
            have HST := Lib.hid hst
            obtain ⟨hx1, hx2⟩ := hd
            clear hst hbd hb2
            have hw8 : IntKind.u8.wrap (((gv[k]).toNat : Int) - 48) = ((gv[k]).toNat : Int) - 48 := by rw [IntKind.wrap_u8]; omega
            have hi1 : decide ((gv[k]).toNat < 48) = false := decide_eq_false (by omega)
            have hi2 : decide (57 < (gv[k]).toNat) = false := decide_eq_false (by omega)
            generalize decV (gv.data.toList.take k) = V at HST hb3
            go_wp2_with fail
            refine ⟨⟨k + 1, by go_num, by omega, ?_, HN⟩, by simp [intOf]; omega⟩
            rw [HST.out]
            congr 1
            omega
          · have hdg : digitB gv[k] = false := decide_eq_false hd
            have HNO : Hid (dopenA (((gn, gv), gb) :: t) = none) := Lib.hid (dop_no (by
              have hsb : statB gv = false := by
                unfold statB
                rw [HDP.out, no_dig hlg hdg]
                rfl
              rw [HDF.out, hsb]
              simp))
            clear hst hbd hb2 hdg
            generalize decV (gv.data.toList.take k) = V at hb3
            by_cases hx1 : (gv[k]).toNat < 48
            · obtain ⟨r0, r1, rz⟩ := two_kept (HP0.out) (HB2.out.block w.heap.size (by omega))
              have rz0 := rz 0
              have rz1 := rz 1
              obtain ⟨W5, hW5, k0, k1, hb5, _, _⟩ := two_set (.int .i64 0) (.slice none 0 0) r0 r1 (HB0.out.trans (HB2.out.mono (by omega))) (Nat.le_refl w.heap.size)
              have HF5 := Lib.hid (⟨k0, k1, hb5⟩ : _ ∧ _ ∧ _)
              have HW5 := Lib.hid hW5
              clear k0 k1 hb5 hW5 rz
              go_wp2_with fail
              rw [← HW5.out]
              obtain ⟨k0, k1, hb5⟩ := HF5.out
              exact ret_twoA rfl rfl rfl k0 k1 ⟨hb5, by rw [HNO.out]; rfl⟩
            · have hx2 : 57 < (gv[k]).toNat := by omega
              obtain ⟨r0, r1, rz⟩ := two_kept (HP0.out) (HB2.out.block w.heap.size (by omega))
              have rz0 := rz 0
              have rz1 := rz 1
              obtain ⟨W5, hW5, k0, k1, hb5, _, _⟩ := two_set (.int .i64 0) (.slice none 0 0) r0 r1 (HB0.out.trans (HB2.out.mono (by omega))) (Nat.le_refl w.heap.size)
              have HF5 := Lib.hid (⟨k0, k1, hb5⟩ : _ ∧ _ ∧ _)
              have HW5 := Lib.hid hW5
              clear k0 k1 hb5 hW5 rz
              go_wp2_with fail
              rw [← HW5.out]
              obtain ⟨k0, k1, hb5⟩ := HF5.out
              exact ret_twoA rfl rfl rfl k0 k1 ⟨hb5, by rw [HNO.out]; rfl⟩
        · obtain rfl : k = 3 := by omega
          have hall : gv.data.toList.all digitB = true := all_dig fun i hi => HA.out i hi (by omega)
          have HDG : Hid (digP gv 3 3 = (decV gv.data.toList, true)) := Lib.hid (by rw [HDP.out, if_pos hall])
          have hte : gv.data.toList.take 3 = gv.data.toList := List.take_of_length_le (by rw [HLEN.out]; omega)
          rw [hte]
          have HST : Hid (statB gv = decide (100 ≤ decV gv.data.toList ∧ decV gv.data.toList ≤ 599)) := Lib.hid (by unfold statB; rw [HDG.out]; rfl)
          clear hte hall HA HDP
          generalize decV gv.data.toList = V at HDG HST
          by_cases h1 : V < 100
          · have HNO : Hid (dopenA (((gn, gv), gb) :: t) = none) := Lib.hid (dop_no (by rw [HDF.out, HST.out, decide_eq_false (by omega)]; simp))
            obtain ⟨r0, r1, rz⟩ := two_kept (HP0.out) (HB2.out.block w.heap.size (by omega))
            have rz0 := rz 0
            have rz1 := rz 1
            obtain ⟨W5, hW5, k0, k1, hb5, _, _⟩ := two_set (.int .i64 0) (.slice none 0 0) r0 r1 (HB0.out.trans (HB2.out.mono (by omega))) (Nat.le_refl w.heap.size)
            have HF5 := Lib.hid (⟨k0, k1, hb5⟩ : _ ∧ _ ∧ _)
            have HW5 := Lib.hid hW5
            clear k0 k1 hb5 hW5 rz
            go_wp2_with fail
            rw [← HW5.out]
            obtain ⟨k0, k1, hb5⟩ := HF5.out
            exact ret_twoA rfl rfl rfl k0 k1 ⟨hb5, by rw [HNO.out]; rfl⟩
          by_cases h2 : 599 < V
          · have HNO : Hid (dopenA (((gn, gv), gb) :: t) = none) := Lib.hid (dop_no (by rw [HDF.out, HST.out, decide_eq_false (by omega)]; simp))
            obtain ⟨r0, r1, rz⟩ := two_kept (HP0.out) (HB2.out.block w.heap.size (by omega))
            have rz0 := rz 0
            have rz1 := rz 1
            obtain ⟨W5, hW5, k0, k1, hb5, _, _⟩ := two_set (.int .i64 0) (.slice none 0 0) r0 r1 (HB0.out.trans (HB2.out.mono (by omega))) (Nat.le_refl w.heap.size)
            have HF5 := Lib.hid (⟨k0, k1, hb5⟩ : _ ∧ _ ∧ _)
            have HW5 := Lib.hid hW5
            clear k0 k1 hb5 hW5 rz
            go_wp2_with fail
            rw [← HW5.out]
            obtain ⟨k0, k1, hb5⟩ := HF5.out
            exact ret_twoA rfl rfl rfl k0 k1 ⟨hb5, by rw [HNO.out]; rfl⟩
          have HYES : Hid (dopenA (((gn, gv), gb) :: t) = some (V, t)) := Lib.hid (by
            rw [dopA_cons', HDF.out, HST.out, decide_eq_true (by omega), HDG.out]
            rfl)
          have HHD := Lib.hid (headers_any (partN (some ⟨b, o, none⟩) c 1) (n - 1) (c - 1) t w2 HSQ.out (by omega))
          have hsl3 := fun W => slice_n1 (some ⟨b, o, none⟩) n c hn1 W
          clear HDF HDG HST HNAME e0 e1
          go_wp2_with fail
          refine HHD.out.mono ?_
          rintro e w11 ⟨ad, cc, rfl, ho11, hb11⟩
          have HB11 := Lib.hid (HB2.out.trans (hb11.mono HB2.out.size))
          clear HHD hb11
          obtain ⟨r0, r1, rz⟩ := two_kept (HP0.out) (HB11.out.block w.heap.size (by omega))
          have rz0 := rz 0
          have rz1 := rz 1
          obtain ⟨W5, hW5, k0, k1, hb5, hbk5, _⟩ := two_set (.int .i64 (V : Int)) (.slice ad (n - 1) cc) r0 r1 (HB0.out.trans (HB11.out.mono (by omega))) (Nat.le_refl w.heap.size)
          have hz2 := HB2.out.size
          have ho5 : NOwn W5 w2.heap.size (.slice ad (n - 1) cc) t := nown_at ho11 (fun g h1 h2 => hbk5 g (by omega))
          have HF5 := Lib.hid (⟨k0, k1, hb5, ho5.mono (show w.heap.size ≤ w2.heap.size by omega)⟩ : _ ∧ _ ∧ _ ∧ _)
          have HW5 := Lib.hid hW5
          clear k0 k1 hb5 hW5 rz ho5 ho11 hbk5
          go_wp2_with fail
          rw [← HW5.out]
          obtain ⟨k0, k1, hb5, ho5⟩ := HF5.out
          exact ret_twoA rfl rfl rfl k0 k1 ⟨hb5, by rw [HYES.out]; exact ⟨_, _, _, rfl, ho5⟩⟩
    · have hdz : decide ((gv.size : Int) = 3) = false := decide_eq_false (by omega)
      have HNO : Hid (dopenA (((gn, gv), gb) :: t) = none) := Lib.hid (dop_no (by
        have hsb : statB gv = false := by
          unfold statB digP
          rw [if_pos (by omega)]
          rfl
        rw [HDF.out, hsb]
        simp))
      obtain ⟨r0, r1, rz⟩ := two_kept (HP0.out) (HB1.out.block w.heap.size (by omega))
      have rz0 := rz 0
      have rz1 := rz 1
      obtain ⟨W5, hW5, k0, k1, hb5, _, _⟩ := two_set (.int .i64 0) (.slice none 0 0) r0 r1 (HB0.out.trans (HB1.out.mono (by omega))) (Nat.le_refl w.heap.size)
      have HF5 := Lib.hid (⟨k0, k1, hb5⟩ : _ ∧ _ ∧ _)
      have HW5 := Lib.hid hW5
      clear k0 k1 hb5 hW5 rz
      go_wp2_with fail
      rw [← HW5.out]
      obtain ⟨k0, k1, hb5⟩ := HF5.out
      exact ret_twoA rfl rfl rfl k0 k1 ⟨hb5, by rw [HNO.out]; rfl⟩
  · have HNO := Lib.hid (dop_far hf)
    generalize frontN L = f at HFR hf
    have hfi : ((f : Int) == 1) = false := by rw [beq_eq_false_iff_ne]; omega
    go_wp2_with fail
    refine HFR.out.mono ?_
    rintro e w1 ⟨rfl, hb1⟩
    have HB1 := Lib.hid (show Below w0.heap.size w0 w1 from hb1)
    clear hb1 HFR
    obtain ⟨r0, r1, rz⟩ := two_kept (HP0.out) (HB1.out.block w.heap.size (by omega))
    have rz0 := rz 0
    have rz1 := rz 1
    obtain ⟨W5, hW5, k0, k1, hb5, _, _⟩ := two_set (.int .i64 0) (.slice none 0 0) r0 r1 (HB0.out.trans (HB1.out.mono (by omega))) (Nat.le_refl w.heap.size)
    have HF5 := Lib.hid (⟨k0, k1, hb5⟩ : _ ∧ _ ∧ _)
    have HW5 := Lib.hid hW5
    clear k0 k1 hb5 hW5 rz
    go_wp2_with fail
    rw [← HW5.out]
    obtain ⟨k0, k1, hb5⟩ := HF5.out
    exact ret_twoA rfl rfl rfl k0 k1 ⟨hb5, by rw [HNO.out]; rfl⟩
end Go.Proofs.YtgoglfahlfkbiaaDoor
