/-
  CONTRACTS: Build.
-/
import Derived.Test.YtmabnljnochdcaaDoorBm
import Derived.Test.YtmabnljnochdcaaDoorX
import Derived.Test.YtmabnljnochdcaaDoorMo
namespace Go.Proofs.YtmabnljnochdcaaDoor
open Go.RowKit Tt

def BuildPost (q : RQ) (rest : List Hn) (ea : Addr) (w : World) (e : Ending) (w' : World) : Prop := Below w.heap.size w w' ∧
  if okReq q rest = true then ∃ a N c, e = .returned (.tuple #[.slice a N c, .nilIface]) ∧ Hid (N = (hR q ++ rest).length) ∧ NOwn w' w.heap.size (.slice a N c) (hR q ++ rest) else e = .returned (.tuple #[.slice none 0 0, errV ea])
theorem ns_two (w : World) (a b : Hn) : Ns (w.alloc (.cells #[.string a.1.1, .string a.1.2, .bool a.2, .string b.1.1, .string b.1.2, .bool b.2] 54)) (some ⟨w.heap.size, 0, none⟩) 2 2 [a, b] := ns_lit w _ [a, b] rfl (by simp)
theorem sm_app {L M : List Hn} (h : Sm L) (k : Sm M) : Sm (L ++ M) := fun i hi => by
  by_cases hl : i < L.length
  · rw [List.getElem_append_left hl]; exact h i hl
  · rw [List.getElem_append_right (by omega)]; exact k _ (by simp at hi; omega)
theorem sm_hR {q : RQ} (h1 : q.m.size ≤ 3000) (h2 : q.s.size ≤ 3000) (h3 : q.a.size ≤ 3000) (h4 : q.p.size ≤ 3000) : Sm (hR q) := by
  have one : ∀ (l : List UInt8) (v : ByteArray), l.length ≤ 10 → v.size ≤ 3000 → Sm [hdB l v] := fun l v hl hv i hi => by
    obtain rfl : i = 0 := by simpa using hi
    refine ⟨?_, ?_⟩
    · show (nmB l).size ≤ _
      unfold nmB
      simp [ByteArray.size]
      omega
    · show v.size ≤ _
      omega
  unfold hR
  refine sm_app (sm_app (sm_app (L := [hdB mL q.m]) (one mL _ (by decide) h1) (one sL _ (by decide) h2)) ?_) (one pL _ (by decide) h4)
  split
  · intro i hi; simp at hi
  · exact one aL _ (by decide) h3
theorem bytes_nil {s : ByteArray} (h : s.data.toList = []) : s = ⟨#[]⟩ := by
  obtain ⟨⟨l⟩⟩ := s
  simp only at h
  subst h
  rfl
set_option maxRecDepth 100000 in
set_option maxHeartbeats 4000000 in
theorem build_any (q : RQ) (ar : Option Addr) (nr cr : Nat) (rest : List Hn) (w : World) (hs : Ns w ar nr cr rest) (hm : Sm rest) (h1 : q.m.size ≤ 3000) (h2 : q.s.size ≤ 3000) (h3 : q.a.size ≤ 3000) (h4 : q.p.size ≤ 3000) (hn : nr ≤ 1000) (ea : Addr)
    (hE : w.cell? ⟨0, 0, none⟩ = some (errV ea)) : Calls Tryd.prog 29 #[reqV q (.slice ar nr cr)] w (BuildPost q rest ea w) := by
  have hge := cell_lt hE
  simp only at hge
  have hb0 : Below w.heap.size w (w.alloc (.cells #[.string q.m, .string q.s, .string q.a, .string q.p, .slice ar nr cr] 27)) := (Below.refl _ w).alloc (Nat.le_refl _) _
  have p0 : (w.alloc (.cells #[.string q.m, .string q.s, .string q.a, .string q.p, .slice ar nr cr] 27)).cell? ⟨w.heap.size, 0, none⟩ = some (.string q.m) := by simp
  have p1 : (w.alloc (.cells #[.string q.m, .string q.s, .string q.a, .string q.p, .slice ar nr cr] 27)).cell? ⟨w.heap.size, 1, none⟩ = some (.string q.s) := by simp
  have p2 : (w.alloc (.cells #[.string q.m, .string q.s, .string q.a, .string q.p, .slice ar nr cr] 27)).cell? ⟨w.heap.size, 2, none⟩ = some (.string q.a) := by simp
  have p3 : (w.alloc (.cells #[.string q.m, .string q.s, .string q.a, .string q.p, .slice ar nr cr] 27)).cell? ⟨w.heap.size, 3, none⟩ = some (.string q.p) := by simp
  have p4 : (w.alloc (.cells #[.string q.m, .string q.s, .string q.a, .string q.p, .slice ar nr cr] 27)).cell? ⟨w.heap.size, 4, none⟩ = some (.slice ar nr cr) := by simp
  have hz0 : (w.alloc (.cells #[.string q.m, .string q.s, .string q.a, .string q.p, .slice ar nr cr] 27)).heap.size = w.heap.size + 1 := by simp
  generalize hw0 : w.alloc (.cells #[.string q.m, .string q.s, .string q.a, .string q.p, .slice ar nr cr] 27) = w0 at hb0 p0 p1 p2 p3 p4 hz0
  have HW0 := Lib.hid hw0
  have HS := Lib.hid hs
  have HB0 := Lib.hid hb0
  have HLn := Lib.hid hs.len
  have HMR := Lib.hid (sm_app (sm_hR h1 h2 h3 h4) hm)
  have HP := Lib.hid (fun (W : World) (h : Below w0.heap.size w0 W) => (⟨(h.cell (p := ⟨w.heap.size, 0, none⟩) (by simp only; omega)).trans p0, (h.cell (p := ⟨w.heap.size, 1, none⟩) (by simp only; omega)).trans p1, (h.cell (p := ⟨w.heap.size, 2, none⟩) (by simp only; omega)).trans p2, (h.cell (p := ⟨w.heap.size, 3, none⟩) (by simp only; omega)).trans p3, (h.cell (p := ⟨w.heap.size, 4, none⟩) (by simp only; omega)).trans p4⟩ : _ ∧ _ ∧ _ ∧ _ ∧ _))
  have HE := Lib.hid hE
  clear hs hw0 hb0 hm hE p0 p1 p2 p3
  go_enter Tryd.func29, Tryd.ntmps29
  go_upto_region 1 with fail
  rw [HW0.out]
  have hw4 : IntKind.i64.wrap (4 + (nr : Int)) = 4 + (nr : Int) := by rw [IntKind.wrap_i64]; omega
  go_upto_region 2 with (at_make; refine wp_make_n rfl _ _ rfl (4 + (nr : Int)) rfl rfl (by omega) (by omega) w0.heap.size (Nat.le_refl _) ?_; intro w1 ad1 hown1 hb1)
  have HO1 := Lib.hid hown1
  have HB1 := Lib.hid (show Below w0.heap.size w0 w1 from hb1)
  have hz1 := hb1.size
  obtain ⟨p0, p1, p2, p3, p4⟩ := HP.out w1 hb1
  have HX1 := Lib.hid (ns_two w1 (hdB mL q.m) (hdB sL q.s))
  clear hown1 hb1
  go_upto_region 3 with (at_builtin; refine wp_append_n rfl _ _ rfl _ [] [hdB mL q.m, hdB sL q.s] rfl w0.heap.size (HO1.out.alloc _) (some ⟨w1.heap.size, 0, none⟩) 2 2 rfl HX1.out (by simp) (by simp; omega) ?_; intro w2 ad2 N2 c2 hN2 hown2 hb2; (have HO2 := Lib.hid hown2); (have HB2 := Lib.hid ((HB1.out.alloc hz1 _).trans hb2)); clear hown2 hb2)
  clear HO1 HB1 HX1 p0 p1 p2 p3 p4 hz1
  have hz2 := HB2.out.size
  obtain ⟨p0, p1, p2, p3, p4⟩ := HP.out w2 HB2.out
  by_cases ha : q.a = ⟨#[]⟩
  · rw [ha] at p2
    have HRQ : Hid (hR q ++ rest = [hdB mL q.m, hdB sL q.s] ++ [hdB pL q.p] ++ rest) := Lib.hid (by unfold hR; rw [if_pos ha]; rfl)
    go_upto_region 5 with fail
    have HX5 := Lib.hid (ns_new1 w2 (hdB pL q.p))
    have hz5 := HB2.out.size
    go_upto_region 6 with (at_builtin; refine wp_append_n rfl _ _ rfl _ ([hdB mL q.m, hdB sL q.s]) [hdB pL q.p] rfl w0.heap.size (HO2.out.alloc _) (some ⟨w2.heap.size, 0, none⟩) 1 1 rfl HX5.out (by simp) (by simp; omega) ?_; intro w5 ad5 N5 c5 hN5 hown5 hb5; (have HO5 := Lib.hid hown5); (have HB5 := Lib.hid ((HB2.out.alloc hz5 _).trans hb5)); clear hown5 hb5)
    clear HO2 HB2 HX5 p0 p1 p2 p3 p4 hz5
    have hz5 := HB5.out.size
    obtain ⟨p0, p1, p2, p3, p4⟩ := HP.out w5 HB5.out
    have hBw : Below w.heap.size w w5 := HB0.out.trans (HB5.out.mono (by omega))
    have HSW := Lib.hid (HS.out.kept hBw)
    have hnr := HSW.out.len
    have HNR := Lib.hid hnr
    clear hBw hnr
    go_upto_region 7 with (at_builtin; refine wp_append_n rfl _ _ rfl _ ([hdB mL q.m, hdB sL q.s] ++ [hdB pL q.p]) rest rfl w0.heap.size HO5.out ar nr cr rfl HSW.out (by simp; omega) hz5 ?_; intro w6 ad6 N6 c6 hN6 hown6 hb6; (have HO6 := Lib.hid hown6); (have HN6 := Lib.hid hN6.out); (have HB6 := Lib.hid (HB5.out.trans hb6)); clear hown6 hb6 hN6)
    rw [← HRQ.out] at HO6 HN6
    clear HO5 HB5 HSW p0 p1 p2 p3 p4 hz5 HRQ
    have hBw : Below w.heap.size w w6 := HB0.out.trans (HB6.out.mono (by omega))
    have hlen : (hR q).length ≤ 4 := by unfold hR; split <;> simp
    have HOP := Lib.hid (open_any ad6 N6 c6 (hR q ++ rest) w6 (NOwn.own' HO6.out) HMR.out (by have h1 := HN6.out; have h2 := HNR.out; rw [List.length_append] at h1; omega) ea ((hBw.cell (p := ⟨0, 0, none⟩) hge).trans HE.out))
    have HBW := Lib.hid hBw
    have hgeW : 0 < w6.heap.size := Nat.lt_of_lt_of_le hge hBw.size
    have hEW := (hBw.cell (p := ⟨0, 0, none⟩) hge).trans HE.out
    clear hBw hlen
    unfold OpenPost at HOP
    cases hop : openR (hR q ++ rest) with
    | none =>
      have HOK : Hid (okReq q rest = false) := Lib.hid (by unfold okReq; rw [hop])
      rw [hop] at HOP
      go_wp2_with fail
      refine HOP.out.mono ?_
      rintro e w7 ⟨hb7, rfl⟩
      have hEV := (hb7.cell (p := ⟨0, 0, none⟩) hgeW).trans hEW
      have hb8 : Below w6.heap.size w6 (w7.alloc (.cells #[.string q0.m, .string q0.s, .string q0.a, .string q0.p, .slice none 0 0] 27)) := hb7.alloc hb7.size _
      have hEU := (World.cell?_alloc_lt w7 (.cells #[.string q0.m, .string q0.s, .string q0.a, .string q0.p, .slice none 0 0] 27) ⟨0, 0, none⟩ (Tt.cell_lt hEV)).trans hEV
      clear HOP hb7 hEV hEW
      go_upto_region 8 with fail
      generalize w7.alloc (.cells #[.string q0.m, .string q0.s, .string q0.a, .string q0.p, .slice none 0 0] 27) = w8 at hb8 hEU ⊢
      go_wp2_with fail
      go_quiet (fail)
      go_wp2
      go_ret2
      unfold BuildPost
      rw [HOK.out]
      refine ⟨HBW.out.trans (Below.mono ?_ HBW.out.size), ?_⟩
      · refine hb8.trans (Below.mono ?_ hb8.size)
        (repeat (first | exact Below.refl _ _ | (refine Tt.bdN ?_ _) | (refine Below.drew ?_)))
      · rw [if_neg (by decide)]; rfl
    | some x =>
      obtain ⟨q', R⟩ := x
      rw [hop] at HOP
      go_wp2_with fail
      refine HOP.out.mono ?_
      rintro e w7 ⟨hb7, a7, N7, c7, rfl, ho7⟩
      have hN7 : N7 = R.length := by
        obtain ⟨a', c', he, _⟩ := ho7.ns
        cases he
        rfl
      subst hN7
      have hEV := (hb7.cell (p := ⟨0, 0, none⟩) hgeW).trans hEW
      have hb8 : Below w6.heap.size w6 (w7.alloc (.cells #[.string q'.m, .string q'.s, .string q'.a, .string q'.p, .slice a7 R.length c7] 27)) := hb7.alloc hb7.size _
      have hEU := (World.cell?_alloc_lt w7 (.cells #[.string q'.m, .string q'.s, .string q'.a, .string q'.p, .slice a7 R.length c7] 27) ⟨0, 0, none⟩ (Tt.cell_lt hEV)).trans hEV
      have r4 : (w7.alloc (.cells #[.string q'.m, .string q'.s, .string q'.a, .string q'.p, .slice a7 R.length c7] 27)).cell? ⟨w7.heap.size, 4, none⟩ = some (.slice a7 R.length c7) := by simp
      obtain ⟨p0, p1, p2, p3, p4⟩ := HP.out _ (HB6.out.trans (hb8.mono HB6.out.size))
      clear HOP hb7 hEV hEW ho7 p0 p1 p2 p3
      go_upto_region 8 with fail
      generalize w7.alloc (.cells #[.string q'.m, .string q'.s, .string q'.a, .string q'.p, .slice a7 R.length c7] 27) = w8 at hb8 hEU r4 p4 ⊢
      by_cases hlr : R.length = rest.length
      · have HOK : Hid (okReq q rest = true) := Lib.hid (by unfold okReq; rw [hop]; exact decide_eq_true hlr)
        have hnn : ((R.length : Int) != (nr : Int)) = false := by have := HNR.out; simp; omega
        clear hlr
        go_wp2_with fail
        go_ret2
        unfold BuildPost
        rw [HOK.out, if_pos rfl]
        exact ⟨HBW.out.trans (hb8.mono HBW.out.size), _, _, _, rfl, Lib.hid HN6.out, (HO6.out.kept hb8).mono (by omega)⟩
      · have HOK : Hid (okReq q rest = false) := Lib.hid (by unfold okReq; rw [hop]; exact decide_eq_false hlr)
        have hnn : ((R.length : Int) != (nr : Int)) = true := by have := HNR.out; simp; omega
        clear hlr
        go_wp2_with fail
        go_quiet (fail)
        go_wp2
        go_ret2
        unfold BuildPost
        rw [HOK.out]
        refine ⟨HBW.out.trans (Below.mono ?_ HBW.out.size), ?_⟩
        · refine hb8.trans (Below.mono ?_ hb8.size)
          (repeat (first | exact Below.refl _ _ | (refine Tt.bdN ?_ _) | (refine Below.drew ?_)))
        · rw [if_neg (by decide)]; rfl
  · have HRQ : Hid (hR q ++ rest = [hdB mL q.m, hdB sL q.s] ++ [hdB aL q.a] ++ [hdB pL q.p] ++ rest) := Lib.hid (by unfold hR; rw [if_neg ha])
    have hae : q.a.toList.isEmpty = false := by
      rw [List.isEmpty_eq_false_iff, Lib.toList_data]
      exact fun h => ha (bytes_nil h)
    have HX3 := Lib.hid (ns_new1 w2 (hdB aL q.a))
    go_upto_region 5 with (at_builtin; refine wp_append_n rfl _ _ rfl _ [hdB mL q.m, hdB sL q.s] [hdB aL q.a] rfl w0.heap.size (HO2.out.alloc _) (some ⟨w2.heap.size, 0, none⟩) 1 1 rfl HX3.out (by simp) (by simp; omega) ?_; intro w3 ad3 N3 c3 hN3 hown3 hb3; (have HO3 := Lib.hid hown3); (have HB3 := Lib.hid ((HB2.out.alloc hz2 _).trans hb3)); clear hown3 hb3)
    clear hae HO2 HB2 HX3 p0 p1 p2 p3 p4
    obtain ⟨p0, p1, p2, p3, p4⟩ := HP.out w3 HB3.out
    have HX5 := Lib.hid (ns_new1 w3 (hdB pL q.p))
    have hz5 := HB3.out.size
    go_upto_region 6 with (at_builtin; refine wp_append_n rfl _ _ rfl _ ([hdB mL q.m, hdB sL q.s] ++ [hdB aL q.a]) [hdB pL q.p] rfl w0.heap.size (HO3.out.alloc _) (some ⟨w3.heap.size, 0, none⟩) 1 1 rfl HX5.out (by simp) (by simp; omega) ?_; intro w5 ad5 N5 c5 hN5 hown5 hb5; (have HO5 := Lib.hid hown5); (have HB5 := Lib.hid ((HB3.out.alloc hz5 _).trans hb5)); clear hown5 hb5)
    clear HO3 HB3 HX5 p0 p1 p2 p3 p4 hz5
    have hz5 := HB5.out.size
    obtain ⟨p0, p1, p2, p3, p4⟩ := HP.out w5 HB5.out
    have hBw : Below w.heap.size w w5 := HB0.out.trans (HB5.out.mono (by omega))
    have HSW := Lib.hid (HS.out.kept hBw)
    have hnr := HSW.out.len
    have HNR := Lib.hid hnr
    clear hBw hnr
    go_upto_region 7 with (at_builtin; refine wp_append_n rfl _ _ rfl _ ([hdB mL q.m, hdB sL q.s] ++ [hdB aL q.a] ++ [hdB pL q.p]) rest rfl w0.heap.size HO5.out ar nr cr rfl HSW.out (by simp; omega) hz5 ?_; intro w6 ad6 N6 c6 hN6 hown6 hb6; (have HO6 := Lib.hid hown6); (have HN6 := Lib.hid hN6.out); (have HB6 := Lib.hid (HB5.out.trans hb6)); clear hown6 hb6 hN6)
    rw [← HRQ.out] at HO6 HN6
    clear HO5 HB5 HSW p0 p1 p2 p3 p4 hz5 HRQ
    have hBw : Below w.heap.size w w6 := HB0.out.trans (HB6.out.mono (by omega))
    have hlen : (hR q).length ≤ 4 := by unfold hR; split <;> simp
    have HOP := Lib.hid (open_any ad6 N6 c6 (hR q ++ rest) w6 (NOwn.own' HO6.out) HMR.out (by have h1 := HN6.out; have h2 := HNR.out; rw [List.length_append] at h1; omega) ea ((hBw.cell (p := ⟨0, 0, none⟩) hge).trans HE.out))
    have HBW := Lib.hid hBw
    have hgeW : 0 < w6.heap.size := Nat.lt_of_lt_of_le hge hBw.size
    have hEW := (hBw.cell (p := ⟨0, 0, none⟩) hge).trans HE.out
    clear hBw hlen
    unfold OpenPost at HOP
    cases hop : openR (hR q ++ rest) with
    | none =>
      have HOK : Hid (okReq q rest = false) := Lib.hid (by unfold okReq; rw [hop])
      rw [hop] at HOP
      go_wp2_with fail
      refine HOP.out.mono ?_
      rintro e w7 ⟨hb7, rfl⟩
      have hEV := (hb7.cell (p := ⟨0, 0, none⟩) hgeW).trans hEW
      have hb8 : Below w6.heap.size w6 (w7.alloc (.cells #[.string q0.m, .string q0.s, .string q0.a, .string q0.p, .slice none 0 0] 27)) := hb7.alloc hb7.size _
      have hEU := (World.cell?_alloc_lt w7 (.cells #[.string q0.m, .string q0.s, .string q0.a, .string q0.p, .slice none 0 0] 27) ⟨0, 0, none⟩ (Tt.cell_lt hEV)).trans hEV
      clear HOP hb7 hEV hEW
      go_upto_region 8 with fail
      generalize w7.alloc (.cells #[.string q0.m, .string q0.s, .string q0.a, .string q0.p, .slice none 0 0] 27) = w8 at hb8 hEU ⊢
      go_wp2_with fail
      go_quiet (fail)
      go_wp2
      go_ret2
      unfold BuildPost
      rw [HOK.out]
      refine ⟨HBW.out.trans (Below.mono ?_ HBW.out.size), ?_⟩
      · refine hb8.trans (Below.mono ?_ hb8.size)
        (repeat (first | exact Below.refl _ _ | (refine Tt.bdN ?_ _) | (refine Below.drew ?_)))
      · rw [if_neg (by decide)]; rfl
    | some x =>
      obtain ⟨q', R⟩ := x
      rw [hop] at HOP
      go_wp2_with fail
      refine HOP.out.mono ?_
      rintro e w7 ⟨hb7, a7, N7, c7, rfl, ho7⟩
      have hN7 : N7 = R.length := by
        obtain ⟨a', c', he, _⟩ := ho7.ns
        cases he
        rfl
      subst hN7
      have hEV := (hb7.cell (p := ⟨0, 0, none⟩) hgeW).trans hEW
      have hb8 : Below w6.heap.size w6 (w7.alloc (.cells #[.string q'.m, .string q'.s, .string q'.a, .string q'.p, .slice a7 R.length c7] 27)) := hb7.alloc hb7.size _
      have hEU := (World.cell?_alloc_lt w7 (.cells #[.string q'.m, .string q'.s, .string q'.a, .string q'.p, .slice a7 R.length c7] 27) ⟨0, 0, none⟩ (Tt.cell_lt hEV)).trans hEV
      have r4 : (w7.alloc (.cells #[.string q'.m, .string q'.s, .string q'.a, .string q'.p, .slice a7 R.length c7] 27)).cell? ⟨w7.heap.size, 4, none⟩ = some (.slice a7 R.length c7) := by simp
      obtain ⟨p0, p1, p2, p3, p4⟩ := HP.out _ (HB6.out.trans (hb8.mono HB6.out.size))
      clear HOP hb7 hEV hEW ho7 p0 p1 p2 p3
      go_upto_region 8 with fail
      generalize w7.alloc (.cells #[.string q'.m, .string q'.s, .string q'.a, .string q'.p, .slice a7 R.length c7] 27) = w8 at hb8 hEU r4 p4 ⊢
      by_cases hlr : R.length = rest.length
      · have HOK : Hid (okReq q rest = true) := Lib.hid (by unfold okReq; rw [hop]; exact decide_eq_true hlr)
        have hnn : ((R.length : Int) != (nr : Int)) = false := by have := HNR.out; simp; omega
        clear hlr
        go_wp2_with fail
        go_ret2
        unfold BuildPost
        rw [HOK.out, if_pos rfl]
        exact ⟨HBW.out.trans (hb8.mono HBW.out.size), _, _, _, rfl, Lib.hid HN6.out, (HO6.out.kept hb8).mono (by omega)⟩
      · have HOK : Hid (okReq q rest = false) := Lib.hid (by unfold okReq; rw [hop]; exact decide_eq_false hlr)
        have hnn : ((R.length : Int) != (nr : Int)) = true := by have := HNR.out; simp; omega
        clear hlr
        go_wp2_with fail
        go_quiet (fail)
        go_wp2
        go_ret2
        unfold BuildPost
        rw [HOK.out]
        refine ⟨HBW.out.trans (Below.mono ?_ HBW.out.size), ?_⟩
        · refine hb8.trans (Below.mono ?_ hb8.size)
          (repeat (first | exact Below.refl _ _ | (refine Tt.bdN ?_ _) | (refine Below.drew ?_)))
        · rw [if_neg (by decide)]; rfl
end Go.Proofs.YtmabnljnochdcaaDoor
