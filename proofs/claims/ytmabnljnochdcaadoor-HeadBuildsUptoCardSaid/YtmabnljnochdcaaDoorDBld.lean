import Derived.Test.YtmabnljnochdcaaDoorDe
import Derived.Test.YtmabnljnochdcaaDoorBu
import Derived.Test.YtmabnljnochdcaaDoorBv
import Derived.Laws.IdiomStrings
namespace Go.Proofs.YtmabnljnochdcaaDoor
open Go.RowKit Tt

theorem hR_pos (q : RQ) : 0 < (hR q).length := by unfold hR; simp
theorem hR_col (q : RQ) : ∀ x ∈ hR q, colB x = true := by
  obtain ⟨h1, h2, h3, h4⟩ := pre_nm
  intro x hx
  unfold hR at hx
  simp only [List.mem_append, List.mem_cons, List.not_mem_nil, or_false] at hx
  rcases hx with ((rfl | rfl) | hx) | rfl
  · exact h1
  · exact h2
  · split at hx
    · cases hx
    · simp only [List.mem_cons, List.not_mem_nil, or_false] at hx
      subst hx
      exact h3
  · exact h4
theorem tw_app {P R : List Hn} (h : ∀ x ∈ P, colB x = true) : (P ++ R).takeWhile colB = P ++ R.takeWhile colB ∧ (P ++ R).dropWhile colB = R.dropWhile colB := by
  induction P with
  | nil => exact ⟨rfl, rfl⟩
  | cons a t ih =>
    have h0 := h a (by simp)
    obtain ⟨i1, i2⟩ := ih (fun x hx => h x (by simp [hx]))
    rw [List.cons_append, List.takeWhile_cons_of_pos h0, List.dropWhile_cons_of_pos h0, i1, i2]
    exact ⟨rfl, rfl⟩
theorem front_app (q : RQ) (rest : List Hn) : frontN (hR q ++ rest) = (hR q).length + frontN rest := by
  unfold frontN
  rw [(tw_app (hR_col q)).1, List.length_append]
theorem okReq_dopen (q : RQ) (rest : List Hn) : okReq q rest = match dopen (hR q ++ rest) with
    | some _ => decide (frontN rest = 0)
    | none => false := by
  unfold okReq
  rw [open_dopen]
  unfold dopen
  rw [(tw_app (hR_col q)).1, (tw_app (hR_col q)).2]
  by_cases hd : dfine (hR q ++ rest.takeWhile colB) (rest.dropWhile colB) = true
  · simp only [if_pos hd]
    rw [Bool.eq_iff_iff]
    simp only [decide_eq_true_eq]
    have h1 := List.takeWhile_append_dropWhile (p := colB) (l := rest)
    have h2 := congrArg List.length h1
    rw [List.length_append] at h2
    unfold frontN
    omega
  · simp only [if_neg hd]
theorem ns_some {w : World} {a : Option Addr} {n c : Nat} {L : List Hn} (h : Ns w a n c L) (hl : 0 < L.length) : ∃ b o, a = some ⟨b, o, none⟩ := by
  obtain ⟨b, o, e, _⟩ := h.row 0 hl
  exact ⟨b, o, e⟩
theorem nown_two (w : World) (x y : Hn) : NOwn (w.alloc (.cells #[.string x.1.1, .string x.1.2, .bool x.2, .string y.1.1, .string y.1.2, .bool y.2] 54)) w.heap.size (.slice (some ⟨w.heap.size, 0, none⟩) 2 2) [x, y] :=
  ⟨by simp [ncells], .inr ⟨w.heap.size, 2, #[.string x.1.1, .string x.1.2, .bool x.2, .string y.1.1, .string y.1.2, .bool y.2], rfl, Nat.le_refl _, heap_alloc_new w _, Nat.le_refl _, by unfold maxLen; omega, rfl, rfl⟩⟩
def DBuildPost (q : RQ) (rest : List Hn) (w : World) (e : Ending) (w' : World) : Prop := Below w.heap.size w w' ∧
  if okReq q rest = true then ∃ a N c, e = .returned (.tuple #[.slice a N c, .int .i64 0]) ∧ Hid (N = (hR q ++ rest).length) ∧ NOwn w' w.heap.size (.slice a N c) (hR q ++ rest) else e = .returned (.tuple #[.slice none 0 0, .int .i64 112])
set_option maxRecDepth 100000 in
set_option maxHeartbeats 4000000 in
theorem dbuild_any (q : RQ) (ar : Option Addr) (nr cr : Nat) (rest : List Hn) (w : World) (hs : Ns w ar nr cr rest) (hm : Sm rest) (h1 : q.m.size ≤ 3000) (h2 : q.s.size ≤ 3000) (h3 : q.a.size ≤ 3000) (h4 : q.p.size ≤ 3000) (hn : nr ≤ 900) :
    Calls Tryd.prog 30 #[.agg #[.string q.m, .string q.s, .string q.a, .string q.p, .slice ar nr cr]] w (DBuildPost q rest w) := by
  have hb0 : Below w.heap.size w (w.alloc (.cells #[.string q.m, .string q.s, .string q.a, .string q.p, .slice ar nr cr] 32)) := (Below.refl _ w).alloc (Nat.le_refl _) _
  have p0 : (w.alloc (.cells #[.string q.m, .string q.s, .string q.a, .string q.p, .slice ar nr cr] 32)).cell? ⟨w.heap.size, 0, none⟩ = some (.string q.m) := by simp
  have p1 : (w.alloc (.cells #[.string q.m, .string q.s, .string q.a, .string q.p, .slice ar nr cr] 32)).cell? ⟨w.heap.size, 1, none⟩ = some (.string q.s) := by simp
  have p2 : (w.alloc (.cells #[.string q.m, .string q.s, .string q.a, .string q.p, .slice ar nr cr] 32)).cell? ⟨w.heap.size, 2, none⟩ = some (.string q.a) := by simp
  have p3 : (w.alloc (.cells #[.string q.m, .string q.s, .string q.a, .string q.p, .slice ar nr cr] 32)).cell? ⟨w.heap.size, 3, none⟩ = some (.string q.p) := by simp
  have p4 : (w.alloc (.cells #[.string q.m, .string q.s, .string q.a, .string q.p, .slice ar nr cr] 32)).cell? ⟨w.heap.size, 4, none⟩ = some (.slice ar nr cr) := by simp
  have hz0 : (w.alloc (.cells #[.string q.m, .string q.s, .string q.a, .string q.p, .slice ar nr cr] 32)).heap.size = w.heap.size + 1 := by simp
  generalize hw0 : w.alloc (.cells #[.string q.m, .string q.s, .string q.a, .string q.p, .slice ar nr cr] 32) = w0 at hb0 p0 p1 p2 p3 p4 hz0
  have HW0 := Lib.hid hw0
  have HS := Lib.hid hs
  have HB0 := Lib.hid hb0
  have HLn := Lib.hid hs.len
  have HMR := Lib.hid (sm_app (sm_hR h1 h2 h3 h4) hm)
  have HP := Lib.hid (fun (W : World) (h : Below w0.heap.size w0 W) => (⟨(h.cell (p := ⟨w.heap.size, 0, none⟩) (by simp only; omega)).trans p0, (h.cell (p := ⟨w.heap.size, 1, none⟩) (by simp only; omega)).trans p1, (h.cell (p := ⟨w.heap.size, 2, none⟩) (by simp only; omega)).trans p2, (h.cell (p := ⟨w.heap.size, 3, none⟩) (by simp only; omega)).trans p3, (h.cell (p := ⟨w.heap.size, 4, none⟩) (by simp only; omega)).trans p4⟩ : _ ∧ _ ∧ _ ∧ _ ∧ _))
  clear hs hw0 hb0 hm hz0
  go_enter Tryd.func30, Tryd.ntmps30
  go_upto_region 1 with fail
  rw [HW0.out]
  have HO2 := Lib.hid (nown_two w0 (hdB mL q.m) (hdB sL q.s))
  have HB2 : Hid (Below w0.heap.size w0 (w0.alloc (.cells #[.string (hdB mL q.m).1.1, .string (hdB mL q.m).1.2, .bool (hdB mL q.m).2, .string (hdB sL q.s).1.1, .string (hdB sL q.s).1.2, .bool (hdB sL q.s).2] 54))) := Lib.hid ((Below.refl _ _).alloc (Nat.le_refl _) _)
  go_upto_region 2 with fail
  have hw2 : ∃ w2, w2 = w0.alloc (.cells #[.string (hdB mL q.m).1.1, .string (hdB mL q.m).1.2, .bool (hdB mL q.m).2, .string (hdB sL q.s).1.1, .string (hdB sL q.s).1.2, .bool (hdB sL q.s).2] 54) := ⟨_, rfl⟩
  obtain ⟨w2, hw2⟩ := hw2
  rw [← hw2] at HO2 HB2
  have hg : w0.alloc (.cells #[.string ⟨#[58, 109, 101, 116, 104, 111, 100]⟩, .string q.m, .bool false, .string ⟨#[58, 115, 99, 104, 101, 109, 101]⟩, .string q.s, .bool false] 54) = w2 := hw2.symm
  rw [hg]
  clear hg hw2 p0 p1 p2 p3 p4
  have hz2 := HB2.out.size
  obtain ⟨p0, p1, p2, p3, p4⟩ := HP.out w2 HB2.out
  by_cases ha : q.a = ⟨#[]⟩
  · rw [ha] at p2
    have HRQ : Hid (hR q ++ rest = [hdB mL q.m, hdB sL q.s] ++ [hdB pL q.p] ++ rest) := Lib.hid (by unfold hR; rw [if_pos ha]; rfl)
    go_upto_region 4 with fail
    have HX5 := Lib.hid (ns_new1 w2 (hdB pL q.p))
    have hz5 := HB2.out.size
    go_upto_region 5 with (at_builtin; refine wp_append_n rfl _ _ rfl _ ([hdB mL q.m, hdB sL q.s]) [hdB pL q.p] rfl w0.heap.size (HO2.out.alloc _) (some ⟨w2.heap.size, 0, none⟩) 1 1 rfl HX5.out (by simp) (by simp; omega) ?_; intro w5 ad5 N5 c5 hN5 hown5 hb5; (have HO5 := Lib.hid hown5); (have HB5 := Lib.hid ((HB2.out.alloc hz5 _).trans hb5)); clear hown5 hb5)
    clear HO2 HB2 HX5 p0 p1 p2 p3 p4 hz5
    have hz5 := HB5.out.size
    obtain ⟨p0, p1, p2, p3, p4⟩ := HP.out w5 HB5.out
    have hBw : Below w.heap.size w w5 := HB0.out.trans (HB5.out.mono HB0.out.size)
    have HSW := Lib.hid (HS.out.kept hBw)
    have HHD := Lib.hid (headers_any ar nr cr rest w5 HSW.out (by omega))
    clear hBw
    go_wp2_with fail
    refine HHD.out.mono ?_
    rintro e w55 ⟨adh, ch, rfl, hoh, hbh⟩
    have HOH := Lib.hid (NOwn.own' hoh)
    have HO55 := Lib.hid (HO5.out.kept hbh)
    have HB55 := Lib.hid (HB5.out.trans (hbh.mono hz5))
    have hz55 := HB55.out.size
    clear HHD hbh hoh HO5 HB5 p0 p1 p2 p3 p4 hz5
    go_upto_region 6 with (at_builtin; refine wp_append_n rfl _ _ rfl _ ([hdB mL q.m, hdB sL q.s] ++ [hdB pL q.p]) rest rfl w0.heap.size HO55.out adh nr ch rfl HOH.out (by simp; omega) hz55 ?_; intro w6 ad6 N6 c6 hN6 hown6 hb6; (have HO6 := Lib.hid hown6); (have HN6 := Lib.hid hN6.out); (have HB6 := Lib.hid (HB55.out.trans hb6)); clear hown6 hb6 hN6)
    rw [← HRQ.out] at HO6 HN6
    clear HO55 HB55 HSW HRQ hz55 HOH
    have hBw : Below w.heap.size w w6 := HB0.out.trans (HB6.out.mono HB0.out.size)
    have hlen : (hR q).length ≤ 4 := by unfold hR; split <;> simp
    obtain ⟨b6, o6, hb6e⟩ := ns_some (NOwn.own' HO6.out) (by rw [List.length_append]; have := hR_pos q; omega)
    have HOP := Lib.hid (dopen_any b6 o6 N6 c6 (hR q ++ rest) w6 (by have := NOwn.own' HO6.out; rw [hb6e] at this; exact this) HMR.out (by have h1 := HN6.out; have h2 := HLn.out; rw [List.length_append] at h1; omega))
    have HF1 := Lib.hid (fun (W : World) (h : Below w6.heap.size w6 W) => front_any ad6 N6 c6 (hR q ++ rest) W ((NOwn.own' HO6.out).kept h))
    have HF2 := Lib.hid (fun (W : World) (h : Below w6.heap.size w6 W) => front_any ar nr cr rest W ((HS.out.kept hBw).kept h))
    rw [← hb6e] at HOP
    have HBW := Lib.hid hBw
    clear hBw hlen hb6e
    unfold DOpenPost at HOP
    go_wp2_with fail
    refine HOP.out.mono ?_
    clear HOP
    have hfa := front_app q rest
    have hdo := okReq_dopen q rest
    cases hop : dopen (hR q ++ rest) with
    | none =>
      have HOK : Hid (okReq q rest = false) := Lib.hid (by rw [hdo, hop])
      rintro e w7 ⟨hb7, rfl⟩
      have hb8 : Below w6.heap.size w6 (w7.alloc (.cells #[.string q0.m, .string q0.s, .string q0.a, .string q0.p, .slice none 0 0] 32)) := hb7.alloc hb7.size _
      clear hb7 hfa hdo
      go_upto_region 7 with fail
      generalize w7.alloc (.cells #[.string q0.m, .string q0.s, .string q0.a, .string q0.p, .slice none 0 0] 32) = w8 at hb8 ⊢
      go_wp2_with fail
      go_ret2
      unfold DBuildPost
      rw [HOK.out]
      exact ⟨HBW.out.trans (hb8.mono HBW.out.size), by rw [if_neg (by decide)]; rfl⟩
    | some x =>
      obtain ⟨q', R⟩ := x
      rw [hop] at hdo
      rintro e w7 ⟨hb7, a7, N7, c7, rfl, _⟩
      have hb8 : Below w6.heap.size w6 (w7.alloc (.cells #[.string q'.m, .string q'.s, .string q'.a, .string q'.p, .slice a7 N7 c7] 32)) := hb7.alloc hb7.size _
      clear hb7
      go_upto_region 7 with fail
      generalize w7.alloc (.cells #[.string q'.m, .string q'.s, .string q'.a, .string q'.p, .slice a7 N7 c7] 32) = w8 at hb8 ⊢
      have HFW := Lib.hid (HF1.out w8 hb8)
      rw [hfa] at HFW
      go_wp2_with fail
      refine HFW.out.mono ?_
      rintro e w9 ⟨rfl, hb9⟩
      have hb89 : Below w6.heap.size w6 w9 := hb8.trans (hb9.mono hb8.size)
      obtain ⟨p0, p1, p2, p3, p4⟩ := HP.out w9 (HB6.out.trans (hb89.mono HB6.out.size))
      have HFR := Lib.hid (HF2.out w9 hb89)
      clear HFW hb9 hb8
      by_cases h4 : 4 < (hR q).length + frontN rest
      · have hd4 : decide ((4 : Int) < (((hR q).length + frontN rest : Nat) : Int)) = true := decide_eq_true (by omega)
        have HOK : Hid (okReq q rest = false) := Lib.hid (by rw [hdo]; exact decide_eq_false (by have : (hR q).length ≤ 4 := (by unfold hR; split <;> simp); omega))
        generalize ((hR q).length + frontN rest) = ff at hd4
        go_wp2_with fail
        go_ret2
        unfold DBuildPost
        rw [HOK.out]
        exact ⟨HBW.out.trans (hb89.mono HBW.out.size), by rw [if_neg (by decide)]; rfl⟩
      have hd4 : decide ((4 : Int) < (((hR q).length + frontN rest : Nat) : Int)) = false := decide_eq_false (by omega)
      generalize hff : ((hR q).length + frontN rest) = ff at hd4
      go_wp2_with fail
      refine HFR.out.mono ?_
      rintro e w10 ⟨rfl, hb10⟩
      have hb90 : Below w6.heap.size w6 w10 := hb89.trans (hb10.mono hb89.size)
      clear HFR hb10 p0 p1 p2 p3 p4
      by_cases h0 : 0 < frontN rest
      · have hd0 : decide ((0 : Int) < (frontN rest : Int)) = true := decide_eq_true (by omega)
        have HOK : Hid (okReq q rest = false) := Lib.hid (by rw [hdo]; exact decide_eq_false (by omega))
        clear hff
        generalize frontN rest = fr at hd0 h0
        go_wp2_with fail
        go_ret2
        unfold DBuildPost
        rw [HOK.out]
        exact ⟨HBW.out.trans (hb90.mono HBW.out.size), by rw [if_neg (by decide)]; rfl⟩
      · have hd0 : decide ((0 : Int) < (frontN rest : Int)) = false := decide_eq_false (by omega)
        have HOK : Hid (okReq q rest = true) := Lib.hid (by rw [hdo]; exact decide_eq_true (by omega))
        clear hff
        generalize frontN rest = fr at hd0 h0
        go_wp2_with fail
        go_ret2
        unfold DBuildPost
        rw [HOK.out, if_pos rfl]
        exact ⟨HBW.out.trans (hb90.mono HBW.out.size), _, _, _, rfl, Lib.hid HN6.out, (HO6.out.kept hb90).mono HB0.out.size⟩
  · have HRQ : Hid (hR q ++ rest = [hdB mL q.m, hdB sL q.s] ++ [hdB aL q.a] ++ [hdB pL q.p] ++ rest) := Lib.hid (by unfold hR; rw [if_neg ha])
    have hae : q.a.toList.isEmpty = false := by
      rw [List.isEmpty_eq_false_iff, Lib.toList_data]
      exact fun h => ha (bytes_nil h)
    have HX3 := Lib.hid (ns_new1 w2 (hdB aL q.a))
    go_upto_region 4 with (at_builtin; refine wp_append_n rfl _ _ rfl _ [hdB mL q.m, hdB sL q.s] [hdB aL q.a] rfl w0.heap.size (HO2.out.alloc _) (some ⟨w2.heap.size, 0, none⟩) 1 1 rfl HX3.out (by simp) (by simp; omega) ?_; intro w3 ad3 N3 c3 hN3 hown3 hb3; (have HO3 := Lib.hid hown3); (have HB3 := Lib.hid ((HB2.out.alloc hz2 _).trans hb3)); clear hown3 hb3)
    clear hae HO2 HB2 HX3 p0 p1 p2 p3 p4
    obtain ⟨p0, p1, p2, p3, p4⟩ := HP.out w3 HB3.out
    have HX5 := Lib.hid (ns_new1 w3 (hdB pL q.p))
    have hz5 := HB3.out.size
    go_upto_region 5 with (at_builtin; refine wp_append_n rfl _ _ rfl _ ([hdB mL q.m, hdB sL q.s] ++ [hdB aL q.a]) [hdB pL q.p] rfl w0.heap.size (HO3.out.alloc _) (some ⟨w3.heap.size, 0, none⟩) 1 1 rfl HX5.out (by simp) (by simp; omega) ?_; intro w5 ad5 N5 c5 hN5 hown5 hb5; (have HO5 := Lib.hid hown5); (have HB5 := Lib.hid ((HB3.out.alloc hz5 _).trans hb5)); clear hown5 hb5)
    clear HO3 HB3 HX5 p0 p1 p2 p3 p4 hz5
    have hz5 := HB5.out.size
    obtain ⟨p0, p1, p2, p3, p4⟩ := HP.out w5 HB5.out
    have hBw : Below w.heap.size w w5 := HB0.out.trans (HB5.out.mono HB0.out.size)
    have HSW := Lib.hid (HS.out.kept hBw)
    have HHD := Lib.hid (headers_any ar nr cr rest w5 HSW.out (by omega))
    clear hBw
    go_wp2_with fail
    refine HHD.out.mono ?_
    rintro e w55 ⟨adh, ch, rfl, hoh, hbh⟩
    have HOH := Lib.hid (NOwn.own' hoh)
    have HO55 := Lib.hid (HO5.out.kept hbh)
    have HB55 := Lib.hid (HB5.out.trans (hbh.mono hz5))
    have hz55 := HB55.out.size
    clear HHD hbh hoh HO5 HB5 p0 p1 p2 p3 p4 hz5
    go_upto_region 6 with (at_builtin; refine wp_append_n rfl _ _ rfl _ ([hdB mL q.m, hdB sL q.s] ++ [hdB aL q.a] ++ [hdB pL q.p]) rest rfl w0.heap.size HO55.out adh nr ch rfl HOH.out (by simp; omega) hz55 ?_; intro w6 ad6 N6 c6 hN6 hown6 hb6; (have HO6 := Lib.hid hown6); (have HN6 := Lib.hid hN6.out); (have HB6 := Lib.hid (HB55.out.trans hb6)); clear hown6 hb6 hN6)
    rw [← HRQ.out] at HO6 HN6
    clear HO55 HB55 HSW HRQ hz55 HOH
    have hBw : Below w.heap.size w w6 := HB0.out.trans (HB6.out.mono HB0.out.size)
    have hlen : (hR q).length ≤ 4 := by unfold hR; split <;> simp
    obtain ⟨b6, o6, hb6e⟩ := ns_some (NOwn.own' HO6.out) (by rw [List.length_append]; have := hR_pos q; omega)
    have HOP := Lib.hid (dopen_any b6 o6 N6 c6 (hR q ++ rest) w6 (by have := NOwn.own' HO6.out; rw [hb6e] at this; exact this) HMR.out (by have h1 := HN6.out; have h2 := HLn.out; rw [List.length_append] at h1; omega))
    have HF1 := Lib.hid (fun (W : World) (h : Below w6.heap.size w6 W) => front_any ad6 N6 c6 (hR q ++ rest) W ((NOwn.own' HO6.out).kept h))
    have HF2 := Lib.hid (fun (W : World) (h : Below w6.heap.size w6 W) => front_any ar nr cr rest W ((HS.out.kept hBw).kept h))
    rw [← hb6e] at HOP
    have HBW := Lib.hid hBw
    clear hBw hlen hb6e
    unfold DOpenPost at HOP
    go_wp2_with fail
    refine HOP.out.mono ?_
    clear HOP
    have hfa := front_app q rest
    have hdo := okReq_dopen q rest
    cases hop : dopen (hR q ++ rest) with
    | none =>
      have HOK : Hid (okReq q rest = false) := Lib.hid (by rw [hdo, hop])
      rintro e w7 ⟨hb7, rfl⟩
      have hb8 : Below w6.heap.size w6 (w7.alloc (.cells #[.string q0.m, .string q0.s, .string q0.a, .string q0.p, .slice none 0 0] 32)) := hb7.alloc hb7.size _
      clear hb7 hfa hdo
      go_upto_region 7 with fail
      generalize w7.alloc (.cells #[.string q0.m, .string q0.s, .string q0.a, .string q0.p, .slice none 0 0] 32) = w8 at hb8 ⊢
      go_wp2_with fail
      go_ret2
      unfold DBuildPost
      rw [HOK.out]
      exact ⟨HBW.out.trans (hb8.mono HBW.out.size), by rw [if_neg (by decide)]; rfl⟩
    | some x =>
      obtain ⟨q', R⟩ := x
      rw [hop] at hdo
      rintro e w7 ⟨hb7, a7, N7, c7, rfl, _⟩
      have hb8 : Below w6.heap.size w6 (w7.alloc (.cells #[.string q'.m, .string q'.s, .string q'.a, .string q'.p, .slice a7 N7 c7] 32)) := hb7.alloc hb7.size _
      clear hb7
      go_upto_region 7 with fail
      generalize w7.alloc (.cells #[.string q'.m, .string q'.s, .string q'.a, .string q'.p, .slice a7 N7 c7] 32) = w8 at hb8 ⊢
      have HFW := Lib.hid (HF1.out w8 hb8)
      rw [hfa] at HFW
      go_wp2_with fail
      refine HFW.out.mono ?_
      rintro e w9 ⟨rfl, hb9⟩
      have hb89 : Below w6.heap.size w6 w9 := hb8.trans (hb9.mono hb8.size)
      obtain ⟨p0, p1, p2, p3, p4⟩ := HP.out w9 (HB6.out.trans (hb89.mono HB6.out.size))
      have HFR := Lib.hid (HF2.out w9 hb89)
      clear HFW hb9 hb8
      by_cases h4 : 4 < (hR q).length + frontN rest
      · have hd4 : decide ((4 : Int) < (((hR q).length + frontN rest : Nat) : Int)) = true := decide_eq_true (by omega)
        have HOK : Hid (okReq q rest = false) := Lib.hid (by rw [hdo]; exact decide_eq_false (by have : (hR q).length ≤ 4 := (by unfold hR; split <;> simp); omega))
        generalize ((hR q).length + frontN rest) = ff at hd4
        go_wp2_with fail
        go_ret2
        unfold DBuildPost
        rw [HOK.out]
        exact ⟨HBW.out.trans (hb89.mono HBW.out.size), by rw [if_neg (by decide)]; rfl⟩
      have hd4 : decide ((4 : Int) < (((hR q).length + frontN rest : Nat) : Int)) = false := decide_eq_false (by omega)
      generalize hff : ((hR q).length + frontN rest) = ff at hd4
      go_wp2_with fail
      refine HFR.out.mono ?_
      rintro e w10 ⟨rfl, hb10⟩
      have hb90 : Below w6.heap.size w6 w10 := hb89.trans (hb10.mono hb89.size)
      clear HFR hb10 p0 p1 p2 p3 p4
      by_cases h0 : 0 < frontN rest
      · have hd0 : decide ((0 : Int) < (frontN rest : Int)) = true := decide_eq_true (by omega)
        have HOK : Hid (okReq q rest = false) := Lib.hid (by rw [hdo]; exact decide_eq_false (by omega))
        clear hff
        generalize frontN rest = fr at hd0 h0
        go_wp2_with fail
        go_ret2
        unfold DBuildPost
        rw [HOK.out]
        exact ⟨HBW.out.trans (hb90.mono HBW.out.size), by rw [if_neg (by decide)]; rfl⟩
      · have hd0 : decide ((0 : Int) < (frontN rest : Int)) = false := decide_eq_false (by omega)
        have HOK : Hid (okReq q rest = true) := Lib.hid (by rw [hdo]; exact decide_eq_true (by omega))
        clear hff
        generalize frontN rest = fr at hd0 h0
        go_wp2_with fail
        go_ret2
        unfold DBuildPost
        rw [HOK.out, if_pos rfl]
        exact ⟨HBW.out.trans (hb90.mono HBW.out.size), _, _, _, rfl, Lib.hid HN6.out, (HO6.out.kept hb90).mono HB0.out.size⟩
end Go.Proofs.YtmabnljnochdcaaDoor

namespace Go.Proofs.YtmabnljnochdcaaDoor
open Go.RowKit Tt

/-- The answer that a list is, as the document reckons it. -/
def dfineA (h : Hn) (t : List Hn) : Bool := decide (frontN (h :: t) = 1) && (decide (nmL h = stL) && (statB h.1.2 && trailB t))
def dopenA : List Hn → Option (Nat × List Hn)
  | [] => none
  | h :: t => if dfineA h t = true then some ((digP h.1.2 3 3).1, t) else none
theorem dopA_cons (h : Hn) (t : List Hn) : dopenA (h :: t) = if (decide (frontN (h :: t) = 1) && (decide (nmL h = stL) && (statB h.1.2 && trailB t))) = true then some ((digP h.1.2 3 3).1, t) else none := rfl
theorem dopA_cons' (h : Hn) (t : List Hn) : dopenA (h :: t) = if dfineA h t = true then some ((digP h.1.2 3 3).1, t) else none := rfl
theorem dig_brk {c : UInt8} (h : digitB c = true) : brkL.contains c = false ∧ blankB c = false := by
  unfold digitB at h
  have h := of_decide_eq_true h
  have ne : ∀ d : UInt8, d.toNat < 48 → c ≠ d := fun d hd e => by subst e; omega
  have n0 := ne 0 (by decide)
  have n1 := ne 10 (by decide)
  have n2 := ne 13 (by decide)
  have n3 := ne 32 (by decide)
  have n4 := ne 9 (by decide)
  refine ⟨?_, ?_⟩
  · simp [brkL, n0, n1, n2]
  · simp [blankB, n3, n4]
theorem stat_value {v : ByteArray} (h : statB v = true) : valueB v = true := by
  unfold statB at h
  simp only [Bool.and_eq_true] at h
  have h2 := h.1
  unfold digP at h2
  split at h2
  · cases h2
  · split at h2
    · rename_i hd
      have hx := List.all_eq_true.1 hd
      have hb : anyBrk v = false := by
        unfold anyBrk
        rw [List.any_eq_false]
        intro c hc
        rw [(dig_brk (hx c hc)).1]
        decide
      have he : edgeB v.data.toList = true := by
        unfold edgeB
        have h1 : v.data.toList.head?.any blankB = false := by
          cases hh : v.data.toList.head? with
          | none => rfl
          | some c => exact (dig_brk (hx c (List.mem_of_head? hh))).2
        have h2 : v.data.toList.getLast?.any blankB = false := by
          cases hh : v.data.toList.getLast? with
          | none => rfl
          | some c => exact (dig_brk (hx c (List.mem_of_getLast? hh))).2
        rw [h1, h2]
        rfl
      unfold valueB
      rw [hb, he]
      rfl
    · cases h2
theorem stat_ge {v : ByteArray} (h : statB v = true) : 100 ≤ (digP v 3 3).1 := by
  unfold statB at h
  simp only [Bool.and_eq_true, decide_eq_true_eq] at h
  exact h.2.1
theorem front_no {h : Hn} {t : List Hn} (hc : colB h = false) : frontN (h :: t) = 0 := by
  unfold frontN
  rw [List.takeWhile_cons_of_neg (by rw [hc]; simp)]
  rfl
theorem front_yes {h : Hn} {t : List Hn} (hc : colB h = true) : frontN (h :: t) = frontN t + 1 := by
  unfold frontN
  rw [List.takeWhile_cons_of_pos hc, List.length_cons]
theorem open_dopenA (L : List Hn) : openA L = dopenA L := by
  cases L with
  | nil => rfl
  | cons h t =>
    rw [dopA_cons]
    unfold openA
    cases hc : colB h with
    | false =>
      rw [front_no hc]
      simp only [takeA]
      rw [if_neg (by rw [show pre1 58 h.1.1 = colB h from rfl, hc]; simp)]
      simp
    | true =>
      rw [front_yes hc]
      simp only [takeA]
      rw [if_pos (show pre1 58 h.1.1 = true from hc)]
      by_cases h1 : nmL h = stL
      · by_cases h2 : statB h.1.2 = true
        · have hge := stat_ge h2
          rw [if_pos ⟨by rw [show h.1.1.data.toList = stL from h1]; rfl, stat_value h2, h2⟩, h2]
          cases t with
          | nil =>
            have hne : (stA (0, []) h.1.1 h.1.2).1 ≠ 0 := by show (digP h.1.2 3 3).1 ≠ 0; omega
            simp only [takeA]
            rw [if_pos ⟨rfl, hne⟩, if_pos (by rw [decide_eq_true h1]; rfl)]
            rfl
          | cons y ys =>
            simp only [takeA]
            cases hy : colB y with
            | true =>
              rw [if_pos (show pre1 58 y.1.1 = true from hy), front_yes hy]
              rw [if_neg (by
                rintro ⟨q, _⟩
                simp only [Bool.and_eq_true, decide_eq_true_eq] at q
                have q2 := q.2
                simp only [stA, seenB, List.nil_append, List.any_cons, List.any_nil, Bool.or_false, Bool.not_eq_true', decide_eq_false_iff_not] at q2
                exact q2 (h1.trans q.1.symm))]
              rw [decide_eq_false (by omega)]
              rfl
            | false =>
              rw [if_neg (by rw [show pre1 58 y.1.1 = colB y from rfl, hy]; simp), front_no hy]
              have hne : (stA (0, []) h.1.1 h.1.2).1 ≠ 0 := by show (digP h.1.2 3 3).1 ≠ 0; omega
              rw [decide_eq_true h1]
              simp only [decide_true, Bool.true_and, Nat.zero_add, hne, ne_eq, not_false_eq_true, and_true]
              rfl
        · have h2 : statB h.1.2 = false := by simpa using h2
          rw [if_neg (fun q => by rw [h2] at q; cases q.2.2), h2]
          simp
      · rw [if_neg (fun q => by
          have := q.1
          simp only [Bool.and_eq_true, decide_eq_true_eq] at this
          exact h1 this.1), decide_eq_false h1]
        simp
def DOpenAPost (L : List Hn) (w : World) (e : Ending) (w' : World) : Prop := Below w.heap.size w w' ∧ match dopenA L with
  | none => e = .returned (.tuple #[ansV 0 (.slice none 0 0), .int .i64 112])
  | some (q, R) => ∃ a N c, e = .returned (.tuple #[ansV (q : Int) (.slice a N c), .int .i64 0]) ∧ NOwn w' w.heap.size (.slice a N c) R
theorem ret_twoA {L : List Hn} {w W : World} {a : Act} {r : Nat} {x0 x1 c : Value} (h2 : a.tmps.getD 2 undef = .pointer (some ⟨r, 0, none⟩)) (h3 : a.tmps.getD 3 undef = c) (hd : a.defers = [])
    (k0 : W.cell? ⟨r, 0, none⟩ = some x0) (k1 : W.cell? ⟨r, 1, none⟩ = some x1)
    (hp : DOpenAPost L w (.returned (.tuple #[.agg #[x0, x1], c])) W) : bodyPost Tryd.prog Tryd.f14 (DOpenAPost L w) Exit.ret a W := by
  refine bodyPost_ret (v := .tuple #[.agg #[x0, x1], c]) ?_ hd hp
  obtain ⟨ts, ds⟩ := a
  simp only [Array.getD_eq_getD_getElem?] at h2 h3
  simp [results, Tryd.results14, go_sem, h2, h3, k0, k1]
theorem two_kept {w w' : World} {r : Nat} {u v : Value} {t : TypeId} (h : w.heap[r]? = some (.cells #[u, v] t (0, 0))) (hb : w'.heap[r]? = w.heap[r]?) :
    w'.cell? ⟨r, 0, none⟩ = some u ∧ w'.cell? ⟨r, 1, none⟩ = some v ∧ ∀ i, w'.frozen? ⟨r, i, none⟩ = false := by
  have hh := hb.trans h
  refine ⟨?_, ?_, fun i => ?_⟩
  all_goals simp [World.cell?, World.frozen?, hh]
theorem two_set {w : World} {r : Nat} {v0 v1 : Value} (u0 u1 : Value) (c0 : w.cell? ⟨r, 0, none⟩ = some v0) (c1 : w.cell? ⟨r, 1, none⟩ = some v1) {B : Nat} {w00 : World} (hB : Below B w00 w) (hr : B ≤ r) :
    ∃ W, W = (w.setCell ⟨r, 0, none⟩ u0).setCell ⟨r, 1, none⟩ u1 ∧ W.cell? ⟨r, 0, none⟩ = some u0 ∧ W.cell? ⟨r, 1, none⟩ = some u1 ∧ Below B w00 W ∧ (∀ k, k ≠ r → W.heap[k]? = w.heap[k]?) ∧ W.heap.size = w.heap.size := by
  refine ⟨_, rfl, ?_, ?_, (hB.setCell hr _).setCell hr _, fun k hk => ?_, by simp [World.setCell]⟩
  · rw [cell_setN _ _ _ _ _ (by decide)]
    exact cell_setS _ _ _ _ _ c0
  · exact cell_setS _ _ _ _ _ ((cell_setN _ _ _ _ _ (by decide)).trans c1)
  · rw [Below.heap_setCell _ _ _ _ hk, Below.heap_setCell _ _ _ _ hk]
theorem dop_no {h : Hn} {t : List Hn} (hd : dfineA h t = false) : dopenA (h :: t) = none := by
  rw [dopA_cons', hd]
  rfl
theorem dop_far {L : List Hn} (hf : frontN L ≠ 1) : dopenA L = none := by
  cases L with
  | nil => rfl
  | cons h t =>
    refine dop_no ?_
    unfold dfineA
    rw [decide_eq_false hf]
    rfl
set_option maxRecDepth 100000 in
set_option maxHeartbeats 4000000 in
theorem dopenA_any (ad : Option Addr) (n c : Nat) (L : List Hn) (w : World) (hs : Ns w ad n c L) (hm : Sm L) (hn : n ≤ 1000) : Calls Tryd.prog 14 #[.slice ad n c] w (DOpenAPost L w) := by
  have hb0 : Below w.heap.size w (w.alloc (.cells #[.int .i64 0, .slice none 0 0] 39)) := (Below.refl _ w).alloc (Nat.le_refl _) _
  have p0 : (w.alloc (.cells #[.int .i64 0, .slice none 0 0] 39)).heap[w.heap.size]? = some (.cells #[.int .i64 0, .slice none 0 0] 39 (0, 0)) := by
    show (w.heap.push _)[w.heap.size]? = _
    exact Array.getElem?_push_size
  have hz0 : (w.alloc (.cells #[.int .i64 0, .slice none 0 0] 39)).heap.size = w.heap.size + 1 := by simp
  have hle := hs.le
  have hlen := hs.len
  have HS := Lib.hid hs
  have HL := Lib.hid hlen
  have HM := Lib.hid hm
  generalize hw0 : w.alloc (.cells #[.int .i64 0, .slice none 0 0] 39) = w0 at hb0 p0 hz0
  have HFR := Lib.hid (front_any ad n c L w0 (hs.kept hb0))
  have HW0 := Lib.hid hw0
  have HB0 := Lib.hid hb0
  have HP0 := Lib.hid p0
  have HZ0 := Lib.hid hz0
  clear hs hm hw0 hb0 p0 hlen
  go_enter Tryd.func14, Tryd.ntmps14
  go_upto_region 1 with fail
  rw [HW0.out]
  by_cases hf : frontN L = 1
  · cases L with
    | nil => exact absurd hf (by decide)
    | cons h t =>
    obtain ⟨⟨gn, gv⟩, gb⟩ := h
    rw [hf] at HFR
    obtain ⟨z1, z2⟩ := HM.out 0 (by simp)
    simp only [List.getElem_cons_zero] at z1 z2
    have hn1 : 1 ≤ n := by have := HL.out; rw [List.length_cons] at this; omega
    obtain ⟨b, o, rfl⟩ := ns_some HS.out (by simp)
    have HDF : Hid (dfineA ((gn, gv), gb) t = (decide (gn.data.toList = stL) && (statB gv && trailB t))) := Lib.hid (by unfold dfineA; rw [decide_eq_true hf]; rfl)
    have HTL := Lib.hid (show List.drop 1 (((gn, gv), gb) :: t) = t from rfl)
    have HEE := Lib.hid (fun (W : World) (h : Below w.heap.size w W) => (by
      obtain ⟨b', o', he, e0, e1, _⟩ := (HS.out.kept h).row 0 (by simp)
      cases he
      simp only [Nat.zero_mul, Nat.add_zero, List.getElem_cons_zero] at e0 e1
      exact ⟨e0, e1⟩ : W.cell? ⟨b, o, none⟩ = some (.string gn) ∧ W.cell? ⟨b, o + 1, none⟩ = some (.string gv)))
    have HNAME : Hid (decide (gn.data.toList = stL) = (gn.toList == [58, 115, 116, 97, 116, 117, 115])) := Lib.hid (beq_dec gn _).symm
    clear hf
    go_wp2_with fail
    refine HFR.out.mono ?_
    rintro e w1 ⟨rfl, hb1⟩
    have HB1 := Lib.hid (show Below w0.heap.size w0 w1 from hb1)
    clear hb1 HFR
    obtain ⟨e0, e1⟩ := HEE.out w1 (HB0.out.trans (HB1.out.mono (by omega)))
    have hia : (0 : Int) < (n : Int) := by omega
    cases hnm : gn.toList == [58, 115, 116, 97, 116, 117, 115] with
    | false =>
      have HNO : Hid (dopenA (((gn, gv), gb) :: t) = none) := Lib.hid (dop_no (by rw [HDF.out, HNAME.out, hnm]; rfl))
      obtain ⟨r0, r1, rz⟩ := two_kept (HP0.out) (HB1.out.block w.heap.size (by omega))
      have rz0 := rz 0
      have rz1 := rz 1
      obtain ⟨W5, hW5, k0, k1, hb5, _, _⟩ := two_set (.int .i64 0) (.slice none 0 0) r0 r1 (HB0.out.trans (HB1.out.mono (by omega))) (Nat.le_refl w.heap.size)
      have HF5 := Lib.hid (⟨k0, k1, hb5⟩ : _ ∧ _ ∧ _)
      have HW5 := Lib.hid hW5
      clear k0 k1 hb5 hW5 rz
      go_wp2_with fail
      rw [← HW5.out]
      obtain ⟨k0, k1, hb5⟩ := HF5.out
      exact ret_twoA rfl rfl rfl k0 k1 ⟨hb5, by rw [HNO.out]; rfl⟩
    | true =>
    rw [HNAME.out, hnm] at HDF
    by_cases hsz : gv.size = 3
    · have hdz : decide ((gv.size : Int) = 3) = true := decide_eq_true (by omega)
      have hsl2 := fun W => slice_n1 (some ⟨b, o, none⟩) n c hn1 W
      have HSP := Lib.hid (ns_part (HS.out.kept (HB0.out.trans (HB1.out.mono (by omega)))) 1 hn1)
      rw [HTL.out] at HSP
      have HTR := Lib.hid (dtrail_any (partN (some ⟨b, o, none⟩) c 1) (n - 1) (c - 1) t w1 HSP.out (sm_drop HM.out 1))
      go_wp2_with fail
      refine HTR.out.mono ?_
      rintro e w2 ⟨rfl, hb2⟩
      have HB2 := Lib.hid (HB1.out.trans (hb2.mono HB1.out.size))
      obtain ⟨e0, e1⟩ := HEE.out w2 (HB0.out.trans (HB2.out.mono (by omega)))
      have HSQ := Lib.hid (HSP.out.kept hb2)
      clear HTR hb2
      cases ht : trailB t with
      | false =>
        have HNO : Hid (dopenA (((gn, gv), gb) :: t) = none) := Lib.hid (dop_no (by rw [HDF.out, ht]; simp))
        simp only [hdC, Bool.false_eq_true, if_false]
        obtain ⟨r0, r1, rz⟩ := two_kept (HP0.out) (HB2.out.block w.heap.size (by omega))
        have rz0 := rz 0
        have rz1 := rz 1
        obtain ⟨W5, hW5, k0, k1, hb5, _, _⟩ := two_set (.int .i64 0) (.slice none 0 0) r0 r1 (HB0.out.trans (HB2.out.mono (by omega))) (Nat.le_refl w.heap.size)
        have HF5 := Lib.hid (⟨k0, k1, hb5⟩ : _ ∧ _ ∧ _)
        have HW5 := Lib.hid hW5
        clear k0 k1 hb5 hW5 rz
        go_wp2_with fail
        rw [← HW5.out]
        obtain ⟨k0, k1, hb5⟩ := HF5.out
        exact ret_twoA rfl rfl rfl k0 k1 ⟨hb5, by rw [HNO.out]; rfl⟩
      | true =>
      simp only [hdC, if_true]
      rw [ht] at HDF
      have HDP : Hid (digP gv 3 3 = if gv.data.toList.all digitB = true then (decV gv.data.toList, true) else (0, false)) := Lib.hid (by unfold digP; rw [if_neg (by omega)])
      have HLEN : Hid (gv.data.toList.length = gv.size) := Lib.hid (by simp)
      go_wp2_with fail
      go_loop [4, 6] (fun s4 s6 => ∃ k : Nat, s6 = .int .i64 (k : Int) ∧ k ≤ 3 ∧ s4 = .int .i64 ((decV (gv.data.toList.take k) : Nat) : Int) ∧ Hid (∀ i (h : i < gv.size), i < k → digitB gv[i] = true)) (fun _ s6 => 3 - (intOf s6).toNat)
      case atStart => exact ⟨0, rfl, Nat.zero_le _, rfl, Lib.hid fun i _ h => by omega⟩
      case round =>
        obtain ⟨k, rfl, hk, rfl, HA⟩ := hrel
        by_cases hlt : k < 3
        · have hlg : k < gv.size := by omega
          have hkl : k < gv.data.toList.length := by rw [HLEN.out]; exact hlg
          have hst := decV_take gv.data.toList hkl
          rw [dig_get gv hlg hkl] at hst
          have hbd : decV (gv.data.toList.take k) < 10 ^ k := decV_lt k _ (by rw [List.length_take]; omega) (fun c hc => by
            obtain ⟨i, hi, rfl⟩ := List.mem_iff_getElem.1 hc
            rw [List.length_take] at hi
            rw [List.getElem_take, dig_get gv (by omega) (by omega)]
            exact HA.out i (by omega) (by omega))
          have hb2 : 10 ^ k ≤ 10 ^ 3 := Nat.pow_le_pow_right (by omega) (by omega)
          have hb3 : decV (gv.data.toList.take k) < 1000 := Nat.lt_of_lt_of_le hbd (by simpa using hb2)
          have hxl := (gv[k]).toNat_lt
          by_cases hd : 48 ≤ (gv[k]).toNat ∧ (gv[k]).toNat ≤ 57
          · have HN : Hid (∀ i (h : i < gv.size), i < k + 1 → digitB gv[i] = true) := Lib.hid fun i hi h => by
              by_cases hik : i < k
              · exact HA.out i hi hik
              · obtain rfl : i = k := by omega
                exact decide_eq_true hd
            have HST := Lib.hid hst
            obtain ⟨hx1, hx2⟩ := hd
            clear hst hbd hb2
            have hw8 : IntKind.u8.wrap (((gv[k]).toNat : Int) - 48) = ((gv[k]).toNat : Int) - 48 := by rw [IntKind.wrap_u8]; omega
            have hi1 : decide ((gv[k]).toNat < 48) = false := decide_eq_false (by omega)
            have hi2 : decide (57 < (gv[k]).toNat) = false := decide_eq_false (by omega)
            generalize decV (gv.data.toList.take k) = V at HST hb3
            go_wp2_with fail
            refine ⟨⟨k + 1, by go_num, by omega, ?_, HN⟩, by simp [intOf]; omega⟩
            rw [HST.out]
            congr 1
            omega
          · have hdg : digitB gv[k] = false := decide_eq_false hd
            have HNO : Hid (dopenA (((gn, gv), gb) :: t) = none) := Lib.hid (dop_no (by
              have hsb : statB gv = false := by
                unfold statB
                rw [HDP.out, no_dig hlg hdg]
                rfl
              rw [HDF.out, hsb]
              simp))
            clear hst hbd hb2 hdg
            generalize decV (gv.data.toList.take k) = V at hb3
            by_cases hx1 : (gv[k]).toNat < 48
            · obtain ⟨r0, r1, rz⟩ := two_kept (HP0.out) (HB2.out.block w.heap.size (by omega))
              have rz0 := rz 0
              have rz1 := rz 1
              obtain ⟨W5, hW5, k0, k1, hb5, _, _⟩ := two_set (.int .i64 0) (.slice none 0 0) r0 r1 (HB0.out.trans (HB2.out.mono (by omega))) (Nat.le_refl w.heap.size)
              have HF5 := Lib.hid (⟨k0, k1, hb5⟩ : _ ∧ _ ∧ _)
              have HW5 := Lib.hid hW5
              clear k0 k1 hb5 hW5 rz
              go_wp2_with fail
              rw [← HW5.out]
              obtain ⟨k0, k1, hb5⟩ := HF5.out
              exact ret_twoA rfl rfl rfl k0 k1 ⟨hb5, by rw [HNO.out]; rfl⟩
            · have hx2 : 57 < (gv[k]).toNat := by omega
              obtain ⟨r0, r1, rz⟩ := two_kept (HP0.out) (HB2.out.block w.heap.size (by omega))
              have rz0 := rz 0
              have rz1 := rz 1
              obtain ⟨W5, hW5, k0, k1, hb5, _, _⟩ := two_set (.int .i64 0) (.slice none 0 0) r0 r1 (HB0.out.trans (HB2.out.mono (by omega))) (Nat.le_refl w.heap.size)
              have HF5 := Lib.hid (⟨k0, k1, hb5⟩ : _ ∧ _ ∧ _)
              have HW5 := Lib.hid hW5
              clear k0 k1 hb5 hW5 rz
              go_wp2_with fail
              rw [← HW5.out]
              obtain ⟨k0, k1, hb5⟩ := HF5.out
              exact ret_twoA rfl rfl rfl k0 k1 ⟨hb5, by rw [HNO.out]; rfl⟩
        · obtain rfl : k = 3 := by omega
          have hall : gv.data.toList.all digitB = true := all_dig fun i hi => HA.out i hi (by omega)
          have HDG : Hid (digP gv 3 3 = (decV gv.data.toList, true)) := Lib.hid (by rw [HDP.out, if_pos hall])
          have hte : gv.data.toList.take 3 = gv.data.toList := List.take_of_length_le (by rw [HLEN.out]; omega)
          rw [hte]
          have HST : Hid (statB gv = decide (100 ≤ decV gv.data.toList ∧ decV gv.data.toList ≤ 599)) := Lib.hid (by unfold statB; rw [HDG.out]; rfl)
          clear hte hall HA HDP
          generalize decV gv.data.toList = V at HDG HST
          by_cases h1 : V < 100
          · have HNO : Hid (dopenA (((gn, gv), gb) :: t) = none) := Lib.hid (dop_no (by rw [HDF.out, HST.out, decide_eq_false (by omega)]; simp))
            obtain ⟨r0, r1, rz⟩ := two_kept (HP0.out) (HB2.out.block w.heap.size (by omega))
            have rz0 := rz 0
            have rz1 := rz 1
            obtain ⟨W5, hW5, k0, k1, hb5, _, _⟩ := two_set (.int .i64 0) (.slice none 0 0) r0 r1 (HB0.out.trans (HB2.out.mono (by omega))) (Nat.le_refl w.heap.size)
            have HF5 := Lib.hid (⟨k0, k1, hb5⟩ : _ ∧ _ ∧ _)
            have HW5 := Lib.hid hW5
            clear k0 k1 hb5 hW5 rz
            go_wp2_with fail
            rw [← HW5.out]
            obtain ⟨k0, k1, hb5⟩ := HF5.out
            exact ret_twoA rfl rfl rfl k0 k1 ⟨hb5, by rw [HNO.out]; rfl⟩
          by_cases h2 : 599 < V
          · have HNO : Hid (dopenA (((gn, gv), gb) :: t) = none) := Lib.hid (dop_no (by rw [HDF.out, HST.out, decide_eq_false (by omega)]; simp))
            obtain ⟨r0, r1, rz⟩ := two_kept (HP0.out) (HB2.out.block w.heap.size (by omega))
            have rz0 := rz 0
            have rz1 := rz 1
            obtain ⟨W5, hW5, k0, k1, hb5, _, _⟩ := two_set (.int .i64 0) (.slice none 0 0) r0 r1 (HB0.out.trans (HB2.out.mono (by omega))) (Nat.le_refl w.heap.size)
            have HF5 := Lib.hid (⟨k0, k1, hb5⟩ : _ ∧ _ ∧ _)
            have HW5 := Lib.hid hW5
            clear k0 k1 hb5 hW5 rz
            go_wp2_with fail
            rw [← HW5.out]
            obtain ⟨k0, k1, hb5⟩ := HF5.out
            exact ret_twoA rfl rfl rfl k0 k1 ⟨hb5, by rw [HNO.out]; rfl⟩
          have HYES : Hid (dopenA (((gn, gv), gb) :: t) = some (V, t)) := Lib.hid (by
            rw [dopA_cons', HDF.out, HST.out, decide_eq_true (by omega), HDG.out]
            rfl)
          have HHD := Lib.hid (headers_any (partN (some ⟨b, o, none⟩) c 1) (n - 1) (c - 1) t w2 HSQ.out (by omega))
          have hsl3 := fun W => slice_n1 (some ⟨b, o, none⟩) n c hn1 W
          clear HDF HDG HST HNAME e0 e1
          go_wp2_with fail
          refine HHD.out.mono ?_
          rintro e w11 ⟨ad, cc, rfl, ho11, hb11⟩
          have HB11 := Lib.hid (HB2.out.trans (hb11.mono HB2.out.size))
          clear HHD hb11
          obtain ⟨r0, r1, rz⟩ := two_kept (HP0.out) (HB11.out.block w.heap.size (by omega))
          have rz0 := rz 0
          have rz1 := rz 1
          obtain ⟨W5, hW5, k0, k1, hb5, hbk5, _⟩ := two_set (.int .i64 (V : Int)) (.slice ad (n - 1) cc) r0 r1 (HB0.out.trans (HB11.out.mono (by omega))) (Nat.le_refl w.heap.size)
          have hz2 := HB2.out.size
          have ho5 : NOwn W5 w2.heap.size (.slice ad (n - 1) cc) t := nown_at ho11 (fun g h1 h2 => hbk5 g (by omega))
          have HF5 := Lib.hid (⟨k0, k1, hb5, ho5.mono (show w.heap.size ≤ w2.heap.size by omega)⟩ : _ ∧ _ ∧ _ ∧ _)
          have HW5 := Lib.hid hW5
          clear k0 k1 hb5 hW5 rz ho5 ho11 hbk5
          go_wp2_with fail
          rw [← HW5.out]
          obtain ⟨k0, k1, hb5, ho5⟩ := HF5.out
          exact ret_twoA rfl rfl rfl k0 k1 ⟨hb5, by rw [HYES.out]; exact ⟨_, _, _, rfl, ho5⟩⟩
    · have hdz : decide ((gv.size : Int) = 3) = false := decide_eq_false (by omega)
      have HNO : Hid (dopenA (((gn, gv), gb) :: t) = none) := Lib.hid (dop_no (by
        have hsb : statB gv = false := by
          unfold statB digP
          rw [if_pos (by omega)]
          rfl
        rw [HDF.out, hsb]
        simp))
      obtain ⟨r0, r1, rz⟩ := two_kept (HP0.out) (HB1.out.block w.heap.size (by omega))
      have rz0 := rz 0
      have rz1 := rz 1
      obtain ⟨W5, hW5, k0, k1, hb5, _, _⟩ := two_set (.int .i64 0) (.slice none 0 0) r0 r1 (HB0.out.trans (HB1.out.mono (by omega))) (Nat.le_refl w.heap.size)
      have HF5 := Lib.hid (⟨k0, k1, hb5⟩ : _ ∧ _ ∧ _)
      have HW5 := Lib.hid hW5
      clear k0 k1 hb5 hW5 rz
      go_wp2_with fail
      rw [← HW5.out]
      obtain ⟨k0, k1, hb5⟩ := HF5.out
      exact ret_twoA rfl rfl rfl k0 k1 ⟨hb5, by rw [HNO.out]; rfl⟩
  · have HNO := Lib.hid (dop_far hf)
    generalize frontN L = f at HFR hf
    have hfi : ((f : Int) == 1) = false := by rw [beq_eq_false_iff_ne]; omega
    go_wp2_with fail
    refine HFR.out.mono ?_
    rintro e w1 ⟨rfl, hb1⟩
    have HB1 := Lib.hid (show Below w0.heap.size w0 w1 from hb1)
    clear hb1 HFR
    obtain ⟨r0, r1, rz⟩ := two_kept (HP0.out) (HB1.out.block w.heap.size (by omega))
    have rz0 := rz 0
    have rz1 := rz 1
    obtain ⟨W5, hW5, k0, k1, hb5, _, _⟩ := two_set (.int .i64 0) (.slice none 0 0) r0 r1 (HB0.out.trans (HB1.out.mono (by omega))) (Nat.le_refl w.heap.size)
    have HF5 := Lib.hid (⟨k0, k1, hb5⟩ : _ ∧ _ ∧ _)
    have HW5 := Lib.hid hW5
    clear k0 k1 hb5 hW5 rz
    go_wp2_with fail
    rw [← HW5.out]
    obtain ⟨k0, k1, hb5⟩ := HF5.out
    exact ret_twoA rfl rfl rfl k0 k1 ⟨hb5, by rw [HNO.out]; rfl⟩
end Go.Proofs.YtmabnljnochdcaaDoor

namespace Go.Proofs.YtmabnljnochdcaaDoor
open Go.RowKit Tt

theorem itoa_three (u : Nat) (h1 : 100 ≤ u) (h2 : u ≤ 599) : Lib.itoa (u : Int) = [UInt8.ofNat (48 + u / 100), UInt8.ofNat (48 + u / 10 % 10), UInt8.ofNat (48 + u % 10)] := by
  unfold Lib.itoa
  rw [if_neg (by omega)]
  show Lib.decDigits u = _
  rw [Lib.decDigits, dif_neg (by omega), Lib.decDigits, dif_neg (by omega), Lib.decDigits, dif_pos (by omega)]
  rw [show u / 10 / 10 = u / 100 by omega]
  rfl
theorem openA_far {st : Int} {rest : List Hn} (h : st < 100 ∨ 599 < st) : (openA (hA st :: rest)).isSome = false := by
  have hs : statB ⟨(Lib.itoa st).toArray⟩ = false := by
    cases hb : statB ⟨(Lib.itoa st).toArray⟩ with
    | false => rfl
    | true =>
      exfalso
      have h1 := stat_itoa hb
      have h2 := hb
      unfold statB at h2
      simp only [Bool.and_eq_true, decide_eq_true_eq] at h2
      omega
  rw [open_dopenA, dop_no (by unfold dfineA; rw [show (hA st).1.2 = ⟨(Lib.itoa st).toArray⟩ from rfl, hs]; simp)]
  rfl
theorem nown_one (w : World) (x : Hn) : NOwn (w.alloc (.cells #[.string x.1.1, .string x.1.2, .bool x.2] 54)) w.heap.size (.slice (some ⟨w.heap.size, 0, none⟩) 1 1) [x] :=
  ⟨by simp [ncells], .inr ⟨w.heap.size, 1, #[.string x.1.1, .string x.1.2, .bool x.2], rfl, Nat.le_refl _, heap_alloc_new w _, Nat.le_refl _, by unfold maxLen; omega, rfl, rfl⟩⟩
abbrev three (u : Nat) : Obj := .cells #[.int .u8 (48 + (u : Int) / 100), .int .u8 (48 + (u : Int) / 10 % 10), .int .u8 (48 + (u : Int) % 10)] 5
theorem conv_three (w : World) (u : Nat) (h : Lib.itoa (u : Int) = [UInt8.ofNat (48 + u / 100), UInt8.ofNat (48 + u / 10 % 10), UInt8.ofNat (48 + u % 10)]) (h2 : u ≤ 599) :
    (convert 91 9 (.slice (some ⟨w.heap.size, 0, none⟩) 3 3)).run Tryd.prog (w.alloc (three u)) = .ok (.string ⟨(Lib.itoa (u : Int)).toArray⟩) (w.alloc (three u)) := by
  have h0 : (w.alloc (three u)).cell? ⟨w.heap.size, 0, none⟩ = some (.int .u8 (48 + (u : Int) / 100)) := by simp
  have h1 : (w.alloc (three u)).cell? ⟨w.heap.size, 1, none⟩ = some (.int .u8 (48 + (u : Int) / 10 % 10)) := by simp
  have h2' : (w.alloc (three u)).cell? ⟨w.heap.size, 2, none⟩ = some (.int .u8 (48 + (u : Int) % 10)) := by simp
  rw [h]
  refine run_convert_bytes_back (w.alloc (three u)) _ _ 5 ⟨w.heap.size, 0, none⟩ 3 [UInt8.ofNat (48 + u / 100), UInt8.ofNat (48 + u / 10 % 10), UInt8.ofNat (48 + u % 10)] Tryd.underlying91 Tryd.underlying5 Tryd.underlying9 (fun j hj => ?_)
  have hj' : j < 3 := hj
  obtain rfl | rfl | rfl : j = 0 ∨ j = 1 ∨ j = 2 := by omega
  · exact h0.trans (by simp; omega)
  · exact h1.trans (by simp; omega)
  · exact h2'.trans (by simp; omega)
def DBuildAPost (st : Int) (rest : List Hn) (w : World) (e : Ending) (w' : World) : Prop := Below w.heap.size w w' ∧
  if (openA (hA st :: rest)).isSome = true then ∃ a N c, e = .returned (.tuple #[.slice a N c, .int .i64 0]) ∧ Hid (N = rest.length + 1) ∧ NOwn w' w.heap.size (.slice a N c) (hA st :: rest) else e = .returned (.tuple #[.slice none 0 0, .int .i64 112])
set_option maxRecDepth 100000 in
set_option maxHeartbeats 4000000 in
theorem dbuildA_any (st : Int) (hst : -9223372036854775808 ≤ st ∧ st ≤ 9223372036854775807) (ar : Option Addr) (nr cr : Nat) (rest : List Hn) (w : World) (hs : Ns w ar nr cr rest) (hm : Sm rest) (hn : nr ≤ 900) : Calls Tryd.prog 32 #[ansV st (.slice ar nr cr)] w (DBuildAPost st rest w) := by
  have hb0 : Below w.heap.size w (w.alloc (.cells #[.int .i64 st, .slice ar nr cr] 39)) := (Below.refl _ w).alloc (Nat.le_refl _) _
  have p0 : (w.alloc (.cells #[.int .i64 st, .slice ar nr cr] 39)).cell? ⟨w.heap.size, 0, none⟩ = some (.int .i64 st) := by simp
  have p1 : (w.alloc (.cells #[.int .i64 st, .slice ar nr cr] 39)).cell? ⟨w.heap.size, 1, none⟩ = some (.slice ar nr cr) := by simp
  have hz0 : (w.alloc (.cells #[.int .i64 st, .slice ar nr cr] 39)).heap.size = w.heap.size + 1 := by simp
  generalize hw0 : w.alloc (.cells #[.int .i64 st, .slice ar nr cr] 39) = w0 at hb0 p0 p1 hz0
  have HW0 := Lib.hid hw0
  have HS := Lib.hid hs
  have HB0 := Lib.hid hb0
  have HLn := Lib.hid hs.len
  have HMR := Lib.hid (sm_hA hst hm)
  have HP := Lib.hid (fun (W : World) (h : Below w0.heap.size w0 W) => (⟨(h.cell (p := ⟨w.heap.size, 0, none⟩) (by simp only; omega)).trans p0, (h.cell (p := ⟨w.heap.size, 1, none⟩) (by simp only; omega)).trans p1⟩ : _ ∧ _))
  clear hs hw0 hb0 hm hz0
  by_cases hlo : st < 100
  · have HNO := Lib.hid (openA_far (rest := rest) (Or.inl hlo))
    have hd : decide (st < 100) = true := decide_eq_true hlo
    go_enter Tryd.func32, Tryd.ntmps32
    go_upto_region 1 with fail
    rw [HW0.out]
    go_wp2_with fail
    go_ret2
    unfold DBuildAPost
    rw [HNO.out]
    exact ⟨HB0.out, by rw [if_neg (by decide)]; rfl⟩
  by_cases hhi : 599 < st
  · have HNO := Lib.hid (openA_far (rest := rest) (Or.inr hhi))
    have hd : decide (st < 100) = false := decide_eq_false hlo
    have hd2 : decide (599 < st) = true := decide_eq_true hhi
    go_enter Tryd.func32, Tryd.ntmps32
    go_upto_region 1 with fail
    rw [HW0.out]
    go_wp2_with fail
    go_ret2
    unfold DBuildAPost
    rw [HNO.out]
    exact ⟨HB0.out, by rw [if_neg (by decide)]; rfl⟩
  obtain ⟨u, rfl⟩ : ∃ u : Nat, st = (u : Int) := ⟨st.toNat, by omega⟩
  have hu1 : 100 ≤ u := by omega
  have hu2 : u ≤ 599 := by omega
  have HIT := Lib.hid (itoa_three u hu1 hu2)
  have hd : decide ((u : Int) < 100) = false := decide_eq_false hlo
  have hd2 : decide (599 < (u : Int)) = false := decide_eq_false hhi
  have hd' : decide (u < 100) = false := decide_eq_false (by omega)
  have hd2' : decide (599 < u) = false := decide_eq_false (by omega)
  clear hlo hhi
  go_enter Tryd.func32, Tryd.ntmps32
  go_upto_region 1 with fail
  rw [HW0.out]
  go_upto_region 4 with fail
  have hcv := conv_three w0 u HIT.out hu2
  have hb1 : Below w0.heap.size w0 (w0.alloc (three u)) := (Below.refl _ w0).alloc (Nat.le_refl _) _
  have hw1 : ∃ w1, w1 = w0.alloc (three u) := ⟨_, rfl⟩
  obtain ⟨w1, hw1⟩ := hw1
  rw [← hw1] at hcv hb1
  change Code.wp _ _ _ _ (w0.alloc (three u))
  rw [← hw1]
  have HB1 := Lib.hid hb1
  clear hw1 hb1
  have hz1 := HB1.out.size
  obtain ⟨p0, p1⟩ := HP.out w1 HB1.out
  obtain ⟨_, p1a⟩ := HP.out (w1.alloc (.cells #[.string ⟨#[58, 115, 116, 97, 116, 117, 115]⟩, .string ⟨(Lib.itoa (u : Int)).toArray⟩, .bool false] 54)) (HB1.out.alloc hz1 _)
  have HO1 : Hid (NOwn (w1.alloc (.cells #[.string (hA u).1.1, .string (hA u).1.2, .bool (hA u).2] 54)) w0.heap.size (.slice (some ⟨w1.heap.size, 0, none⟩) 1 1) [hA u]) := Lib.hid ((nown_one w1 (hA u)).mono hz1)
  have HS1 := Lib.hid ((HS.out.kept (HB0.out.trans (HB1.out.mono HB0.out.size))).kept ((Below.refl w1.heap.size w1).alloc (Nat.le_refl _) (.cells #[.string (hA u).1.1, .string (hA u).1.2, .bool (hA u).2] 54)))
  go_upto_region 5 with (at_builtin; refine wp_append_n rfl _ _ rfl _ [hA u] rest rfl w0.heap.size HO1.out ar nr cr rfl HS1.out (by simp; omega) (by simp; omega) ?_; intro w6 ad6 N6 c6 hN6 hown6 hb6; (have HO6 := Lib.hid hown6); (have HN6 := Lib.hid hN6.out); (have HB6 := Lib.hid ((HB1.out.alloc hz1 _).trans hb6)); clear hown6 hb6 hN6)
  rw [show [hA u] ++ rest = hA u :: rest from rfl] at HO6 HN6
  clear HO1 HS1 p0 p1 p1a hz1 hcv
  have hBw : Below w.heap.size w w6 := HB0.out.trans (HB6.out.mono HB0.out.size)
  have HOP := Lib.hid (dopenA_any ad6 N6 c6 (hA u :: rest) w6 (NOwn.own' HO6.out) HMR.out (by have h1 := HN6.out; have h2 := HLn.out; rw [List.length_cons] at h1; omega))
  have HBW := Lib.hid hBw
  clear hBw
  unfold DOpenAPost at HOP
  go_wp2_with fail
  refine HOP.out.mono ?_
  clear HOP
  cases hop : dopenA (hA u :: rest) with
  | none =>
    have HNO : Hid ((openA (hA u :: rest)).isSome = false) := Lib.hid (by rw [open_dopenA, hop]; rfl)
    rintro e w7 ⟨hb7, rfl⟩
    have hb8 : Below w6.heap.size w6 (w7.alloc (.cells #[.int .i64 0, .slice none 0 0] 39)) := hb7.alloc hb7.size _
    clear hb7
    go_upto_region 6 with fail
    generalize w7.alloc (.cells #[.int .i64 0, .slice none 0 0] 39) = w8 at hb8 ⊢
    go_wp2_with fail
    go_ret2
    unfold DBuildAPost
    rw [HNO.out]
    exact ⟨HBW.out.trans (hb8.mono HBW.out.size), by rw [if_neg (by decide)]; rfl⟩
  | some x =>
    obtain ⟨q, R⟩ := x
    have HYES : Hid ((openA (hA u :: rest)).isSome = true) := Lib.hid (by rw [open_dopenA, hop]; rfl)
    rintro e w7 ⟨hb7, a7, N7, c7, rfl, _⟩
    have hb8 : Below w6.heap.size w6 (w7.alloc (.cells #[.int .i64 (q : Int), .slice a7 N7 c7] 39)) := hb7.alloc hb7.size _
    clear hb7
    go_upto_region 6 with fail
    generalize w7.alloc (.cells #[.int .i64 (q : Int), .slice a7 N7 c7] 39) = w8 at hb8 ⊢
    go_wp2_with fail
    go_ret2
    unfold DBuildAPost
    rw [HYES.out, if_pos rfl]
    exact ⟨HBW.out.trans (hb8.mono HBW.out.size), _, _, _, rfl, Lib.hid (by have h1 := HN6.out; rw [List.length_cons] at h1; exact h1), (HO6.out.kept hb8).mono HB0.out.size⟩
end Go.Proofs.YtmabnljnochdcaaDoor
