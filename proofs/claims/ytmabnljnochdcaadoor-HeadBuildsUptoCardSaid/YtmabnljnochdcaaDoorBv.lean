/-
  CONTRACTS: strconv.Itoa; BuildAnswer.
-/
import Derived.Test.YtmabnljnochdcaaDoorBu
import Derived.Test.YtmabnljnochdcaaDoorSi
import Derived.Lib.AppendIntMem
namespace Go.Proofs.YtmabnljnochdcaaDoor
open Go.RowKit Tt

abbrev Tab (w : World) : Prop := Lib.TabIs Tryd.prog w "internal/strconv.uint64pow10" .u64 Lib.pow10Tab
theorem below_grow (w : World) (k : Nat) (os : Array Obj) : Below w.heap.size w (Sort.grow (w.drewN k) os) := ⟨rfl, rfl, rfl, by simp, fun j hj => Sort.heap_grow_old (w.drewN k) os hj⟩
theorem itoa_any (n : Int) (h : -9223372036854775808 ≤ n ∧ n ≤ 9223372036854775807) (w : World) (ht : Tab w) :
    Calls Tryd.prog 49 #[.int .i64 n] w fun e w' => e = .returned (.string ⟨(Lib.itoa n).toArray⟩) ∧ Below w.heap.size w w' := by
  have h0 := Any.strconv_Itoa Tryd.laysM171 n h.1 h.2 w ht
  refine Calls.mono (show Calls Tryd.prog 49 _ _ _ from h0) ?_
  rintro e w' ⟨h1, k, os, rfl⟩
  exact ⟨h1, below_grow w k os⟩
theorem nDigits_le {u : Nat} (h : u < 18446744073709551616) : Lib.nDigits u ≤ 20 := by
  rcases Nat.eq_zero_or_pos u with rfl | h1
  · rw [Lib.nDigits_small (by omega)]; omega
  · obtain ⟨e, hl⟩ := Lib.numDigits_eq u h1 h
    rw [← e]
    split <;> omega
theorem itoa_len {n : Int} (h : -9223372036854775808 ≤ n ∧ n ≤ 9223372036854775807) : (Lib.itoa n).length ≤ 21 := by
  unfold Lib.itoa
  split
  · rw [List.length_cons, Lib.decDigits_length]
    have := nDigits_le (u := n.natAbs) (by omega)
    omega
  · rw [Lib.decDigits_length]
    have := nDigits_le (u := n.toNat) (by omega)
    omega
theorem sm_hA {st : Int} (h : -9223372036854775808 ≤ st ∧ st ≤ 9223372036854775807) {rest : List Hn} (hm : Sm rest) : Sm (hA st :: rest) := by
  refine sm_app (L := [hA st]) (fun i hi => ?_) hm
  obtain rfl : i = 0 := by simpa using hi
  refine ⟨?_, ?_⟩
  · show (nmB stL).size ≤ _
    decide
  · show (⟨(Lib.itoa st).toArray⟩ : ByteArray).size ≤ _
    have := itoa_len h
    simp [ByteArray.size]
    omega
def BuildAPost (st : Int) (rest : List Hn) (ea : Addr) (w : World) (e : Ending) (w' : World) : Prop := Below w.heap.size w w' ∧
  if (openA (hA st :: rest)).isSome = true then ∃ a N c, e = .returned (.tuple #[.slice a N c, .nilIface]) ∧ Hid (N = rest.length + 1) ∧ NOwn w' w.heap.size (.slice a N c) (hA st :: rest) else e = .returned (.tuple #[.slice none 0 0, errV ea])
set_option maxRecDepth 100000 in
set_option maxHeartbeats 4000000 in
theorem buildA_any (st : Int) (hst : -9223372036854775808 ≤ st ∧ st ≤ 9223372036854775807) (ar : Option Addr) (nr cr : Nat) (rest : List Hn) (w : World) (hs : Ns w ar nr cr rest) (hm : Sm rest) (hn : nr ≤ 1000) (ea : Addr)
    (hE : w.cell? ⟨0, 0, none⟩ = some (errV ea)) (ht : ∀ W, Below w.heap.size w W → Tab W) : Calls Tryd.prog 31 #[ansV st (.slice ar nr cr)] w (BuildAPost st rest ea w) := by
  have hge := cell_lt hE
  simp only at hge
  have hb0 : Below w.heap.size w (w.alloc (.cells #[.int .i64 st, .slice ar nr cr] 36)) := (Below.refl _ w).alloc (Nat.le_refl _) _
  have p0 : (w.alloc (.cells #[.int .i64 st, .slice ar nr cr] 36)).cell? ⟨w.heap.size, 0, none⟩ = some (.int .i64 st) := by simp
  have p1 : (w.alloc (.cells #[.int .i64 st, .slice ar nr cr] 36)).cell? ⟨w.heap.size, 1, none⟩ = some (.slice ar nr cr) := by simp
  have hz0 : (w.alloc (.cells #[.int .i64 st, .slice ar nr cr] 36)).heap.size = w.heap.size + 1 := by simp
  generalize hw0 : w.alloc (.cells #[.int .i64 st, .slice ar nr cr] 36) = w0 at hb0 p0 p1 hz0
  have HW0 := Lib.hid hw0
  have HS := Lib.hid hs
  have HB0 := Lib.hid hb0
  have HLn := Lib.hid hs.len
  have HMR := Lib.hid (sm_hA hst hm)
  have HT := Lib.hid ht
  have HP := Lib.hid (fun (W : World) (h : Below w0.heap.size w0 W) => (⟨(h.cell (p := ⟨w.heap.size, 0, none⟩) (by simp only; omega)).trans p0, (h.cell (p := ⟨w.heap.size, 1, none⟩) (by simp only; omega)).trans p1⟩ : _ ∧ _))
  have HE := Lib.hid hE
  clear hs hw0 hb0 hm hE p0 ht
  go_enter Tryd.func31, Tryd.ntmps31
  go_upto_region 1 with fail
  rw [HW0.out]
  have hw4 : IntKind.i64.wrap (1 + (nr : Int)) = 1 + (nr : Int) := by rw [IntKind.wrap_i64]; omega
  go_upto_region 2 with (at_make; refine wp_make_n rfl _ _ rfl (1 + (nr : Int)) rfl rfl (by omega) (by omega) w0.heap.size (Nat.le_refl _) ?_; intro w1 ad1 hown1 hb1)
  have HO1 := Lib.hid hown1
  have HB1 := Lib.hid (show Below w0.heap.size w0 w1 from hb1)
  have hz1 := hb1.size
  obtain ⟨p0, p1⟩ := HP.out w1 hb1
  have HIT := Lib.hid (itoa_any st hst w1 (HT.out w1 (HB0.out.trans (hb1.mono (by omega)))))
  clear hown1 hb1
  go_wp2_with fail
  refine HIT.out.mono ?_
  rintro e w2 ⟨rfl, hb2⟩
  have HO2 := Lib.hid (HO1.out.kept hb2)
  have HB2 := Lib.hid (HB1.out.trans (hb2.mono hz1))
  have HX2 := Lib.hid (ns_new1 w2 (hA st))
  clear HO1 HB1 HIT hb2 p0 p1 hz1
  have hz2 := HB2.out.size
  go_upto_region 3 with (at_builtin; refine wp_append_n rfl _ _ rfl _ [] [hA st] rfl w0.heap.size (HO2.out.alloc _) (some ⟨w2.heap.size, 0, none⟩) 1 1 rfl HX2.out (by simp) (by simp; omega) ?_; intro w5 ad5 N5 c5 hN5 hown5 hb5; (have HO5 := Lib.hid hown5); (have HB5 := Lib.hid ((HB2.out.alloc hz2 _).trans hb5)); clear hown5 hb5)
  clear HO2 HB2 HX2 hz2
  have hz5 := HB5.out.size
  obtain ⟨p0, p1⟩ := HP.out w5 HB5.out
  have hBw : Below w.heap.size w w5 := HB0.out.trans (HB5.out.mono (by omega))
  have HSW := Lib.hid (HS.out.kept hBw)
  clear hBw
  go_upto_region 4 with (at_builtin; refine wp_append_n rfl _ _ rfl _ ([] ++ [hA st]) rest rfl w0.heap.size HO5.out ar nr cr rfl HSW.out (by simp; omega) hz5 ?_; intro w6 ad6 N6 c6 hN6 hown6 hb6; (have HO6 := Lib.hid hown6); (have HN6 := Lib.hid hN6.out); (have HB6 := Lib.hid (HB5.out.trans hb6)); clear hown6 hb6 hN6)
  rw [show [] ++ [hA st] ++ rest = hA st :: rest from rfl] at HO6 HN6
  clear HO5 HB5 HSW p0 p1 hz5
  have hBw : Below w.heap.size w w6 := HB0.out.trans (HB6.out.mono (by omega))
  have HOP := Lib.hid (openA_o ad6 N6 c6 (hA st :: rest) w6 (NOwn.own' HO6.out) HMR.out (by have h1 := HN6.out; have h2 := HLn.out; rw [List.length_cons] at h1; omega) ea ((hBw.cell (p := ⟨0, 0, none⟩) hge).trans HE.out))
  have HBW := Lib.hid hBw
  have hgeW : 0 < w6.heap.size := Nat.lt_of_lt_of_le hge hBw.size
  have hEW := (hBw.cell (p := ⟨0, 0, none⟩) hge).trans HE.out
  clear hBw
  go_wp2_with fail
  refine HOP.out.mono ?_
  rintro e w7 ⟨⟨x0, a7, N7, c7, rfl⟩, hb7⟩
  have hEV := (hb7.cell (p := ⟨0, 0, none⟩) hgeW).trans hEW
  have hb8 : Below w6.heap.size w6 (w7.alloc (.cells #[.int .i64 x0, .slice a7 N7 c7] 36)) := hb7.alloc hb7.size _
  have hEU := (World.cell?_alloc_lt w7 (.cells #[.int .i64 x0, .slice a7 N7 c7] 36) ⟨0, 0, none⟩ (Tt.cell_lt hEV)).trans hEV
  clear HOP hb7 hEV hEW
  go_upto_region 5 with fail
  generalize w7.alloc (.cells #[.int .i64 x0, .slice a7 N7 c7] 36) = w8 at hb8 hEU ⊢
  generalize hA0 : (openA (hA st :: rest)).isSome = A0
  have HA0 := Lib.hid hA0
  clear hA0
  have hqm := ne_nil ea
  have hqh := gd_ne ea
  cases A0 with
  | true =>
    go_wp2_with fail
    go_ret2
    unfold BuildAPost
    rw [HA0.out, if_pos rfl]
    exact ⟨HBW.out.trans (hb8.mono HBW.out.size), _, _, _, rfl, Lib.hid (by have h1 := HN6.out; rw [List.length_cons] at h1; exact h1), (HO6.out.kept hb8).mono (by omega)⟩
  | false =>
    go_wp2_with fail
    go_quiet (fail)
    go_wp2
    go_ret2
    unfold BuildAPost
    rw [HA0.out]
    refine ⟨HBW.out.trans (Below.mono ?_ HBW.out.size), ?_⟩
    · refine hb8.trans (Below.mono ?_ hb8.size)
      (repeat (first | exact Below.refl _ _ | (refine Tt.bdN ?_ _) | (refine Below.drew ?_)))
    · rw [if_neg (by decide)]; rfl
end Go.Proofs.YtmabnljnochdcaaDoor
