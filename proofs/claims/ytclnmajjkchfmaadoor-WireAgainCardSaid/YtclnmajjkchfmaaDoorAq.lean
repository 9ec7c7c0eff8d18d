/-
  THE LAW WireAgain (P1.11): contract.
-/
import Derived.Test.YtclnmajjkchfmaaDoorV
import Derived.Test.YtclnmajjkchfmaaDoorPc
namespace Go.Proofs.YtclnmajjkchfmaaDoor
open Go.RowKit Wr

set_option maxRecDepth 100000 in
set_option maxHeartbeats 2000000 in
theorem again_any (ea : Nat → Addr) (a : Option Addr) (n c : Nat) (l : List UInt8) (b : Option Addr) (m d : Nat) (s : List UInt8) (w : World) (E : Env w ea) (hs : Sl w a n c l) (hs' : Sl w b m d s) :
    Calls Tryd.prog 8 #[.slice a n c, .slice b m d] w fun e w' => e = .returned (.bool true) ∧ Below w.heap.size w w' := by
  have hn9 := hs.nine
  have hm9 := hs'.nine
  have HS := Lib.hid hs
  have HS' := Lib.hid hs'
  have HE := Lib.hid E
  clear hs hs' E
  go_enter Tryd.func8, Tryd.ntmps8
  go_wp2_with fail
  refine (first_any ea w HE.out).mono ?_
  rintro e w1 ⟨rfl, hb1⟩
  have hz1 := hb1.size
  by_cases hn : n ≤ 16384
  · by_cases hm : m ≤ 16384
    · have hnx := next_any ea a n c l w1 (HS.out.kept hb1) (HE.out.kept hb1) (by omega)
      cases hr : rec 32 l with
      | er k =>
        rw [hr] at hnx
        have HX := Lib.hid hnx
        clear hnx hr
        go_wp2_with fail
        refine HX.out.mono ?_
        rintro e w2 ⟨hb2, rfl⟩
        have hB2 : Below w.heap.size w w2 := hb1.trans (hb2.mono hz1)
        have hz2 := hB2.size
        have HBX : Below w.heap.size w (w2.alloc rec0) := hB2.alloc hz2 _
        go_wp2_with fail
        refine (bytes_any a n c l _ (HS.out.kept HBX) (by omega)).mono ?_
        rintro e w3 ⟨a3, N3, c3, rfl, hN3, hown3, hb3⟩
        have hB3 : Below w.heap.size w w3 := HBX.trans (hb3.mono HBX.size)
        have hz3 := hB3.size
        have hs3 := HS'.out.kept hB3
        have hl3 := HS.out.len
        have hown3' : Own w3 w.heap.size (.slice a3 N3 c3) l := hown3.mono HBX.size
        clear hown3 HBX hb3
        go_wp2_with (at_builtin; (refine wp_append_bytes rfl _ _ rfl _ l s rfl w.heap.size hown3' b m d rfl hs3 (by omega) hz3 ?_); intro w4 a4 N4 c4 hN4 hown4 hb4)
        have hB4 : Below w.heap.size w w4 := hB3.trans hb4
        have hz4 := hB4.size
        have hs4 := Lib.hid hown4.sl'
        clear hown3' hs3 hb4 hown4
        have hca := check_any ea a n c l w4 (HS.out.kept hB4) (HE.out.kept hB4)
        cases hA : check l with
        | some p =>
          obtain ⟨pi, pk⟩ := p
          rw [hA] at hca
          have HC := Lib.hid hca
          clear hca hA
          go_wp2_with fail
          refine HC.out.mono ?_
          rintro e w5 ⟨hb5, g, rfl, _, _⟩
          go_wp2
          go_ret
          exact ⟨rfl, hB4.trans (hb5.mono hz4)⟩
        | none =>
          rw [hA] at hca
          have HC := Lib.hid hca
          have HA := Lib.hid hA
          clear hca hA
          go_wp2_with fail
          refine HC.out.mono ?_
          rintro e w5 ⟨hb5, rfl⟩
          have hB5 : Below w.heap.size w w5 := hB4.trans (hb5.mono hz4)
          have hz5 := hB5.size
          have hcb := check_any ea b m d s w5 (HS'.out.kept hB5) (HE.out.kept hB5)
          cases hBq : check s with
          | some p =>
            obtain ⟨pi, pk⟩ := p
            rw [hBq] at hcb
            have HC2 := Lib.hid hcb
            clear hcb hBq
            go_wp2_with fail
            refine HC2.out.mono ?_
            rintro e w6 ⟨hb6, g, rfl, _, _⟩
            go_wp2
            go_ret
            exact ⟨rfl, hB5.trans (hb6.mono hz5)⟩
          | none =>
            rw [hBq] at hcb
            have HC2 := Lib.hid hcb
            have HJ := Lib.hid (check_join HA.out hBq)
            clear hcb hBq
            go_wp2_with fail
            refine HC2.out.mono ?_
            rintro e w6 ⟨hb6, rfl⟩
            have hB6 : Below w.heap.size w w6 := hB5.trans (hb6.mono hz5)
            have hz6 := hB6.size
            have hcj := check_any ea a4 N4 c4 (l ++ s) w6 ((hs4.out.kept hb5).kept hb6) (HE.out.kept hB6)
            rw [HJ.out] at hcj
            have HC3 := Lib.hid hcj
            clear hcj
            go_wp2_with fail
            refine HC3.out.mono ?_
            rintro e w7 ⟨hb7, rfl⟩
            go_wp2
            go_ret
            exact ⟨rfl, hB6.trans (hb7.mono hz6)⟩
      | ok p =>
        obtain ⟨r, k⟩ := p
        have hro := rec_ok hr
        obtain ⟨hp, hpu, hpl, hlen⟩ := rec_again hr
        have hl0 := HS.out.len
        have hrp := rec_put hp (u := r.u) (by omega) (by omega) []
        rw [List.append_nil, hpu, hpl] at hrp
        rw [hr] at hnx
        have HX := Lib.hid hnx
        have HP := Lib.hid hp
        have HR := Lib.hid hrp
        clear hnx hr hp hrp hpu hpl
        go_wp2_with fail
        refine HX.out.mono ?_
        rintro e w2 ⟨hb2, a2, m2, c2, rfl, hm2, hown2⟩
        have hB2 : Below w.heap.size w w2 := hb1.trans (hb2.mono hz1)
        have hz2 := hB2.size
        have hs2 := Lib.hid (hown2.sl'.alloc (.cells #[.int .i64 (r.field : Int), .int .i64 (r.kind : Int), .int .u64 (r.u : Int), .slice a2 m2 c2] 53))
        have hB2' : Below w.heap.size w (w2.alloc (.cells #[.int .i64 (r.field : Int), .int .i64 (r.kind : Int), .int .u64 (r.u : Int), .slice a2 m2 c2] 53)) := hB2.alloc hz2 _
        have hm2' : m2 ≤ 16384 := by have := hm2.out; omega
        clear hown2
        go_wp2_with fail
        refine (put_any ea none 0 0 [] a2 m2 c2 r.b r.field r.kind r.u HP.out (by omega) _ (HE.out.kept hB2') (Sl.nil0 _) hs2.out (by omega) (by omega)).mono ?_
        rintro e w3 ⟨a3, N3, c3, rfl, hN3, hown3, hb3⟩
        rw [List.nil_append] at hN3 hown3
        have hB3 : Below w.heap.size w w3 := hB2'.trans (hb3.mono hB2'.size)
        have hz3 := hB3.size
        have hz23 := hb3.size
        simp only [World.size_alloc] at hz23
        have hrc : ∀ i v, (#[.int .i64 (r.field : Int), .int .i64 (r.kind : Int), .int .u64 (r.u : Int), .slice a2 m2 c2] : Array Value)[i]? = some v → w3.cell? ⟨w2.heap.size, i, none⟩ = some v := fun i v h => (hb3.cell (p := ⟨w2.heap.size, i, none⟩) (by simp)).trans (by rw [← h]; simp)
        have hN3' : N3 ≤ 16384 := by have := hN3.out; omega
        have hnp := next_any ea a3 N3 c3 _ w3 hown3.sl' (HE.out.kept hB3) (by omega)
        rw [HR.out] at hnp
        have HX2 := Lib.hid hnp
        have HRC := Lib.hid hrc
        have hs3 := Lib.hid (hs2.out.kept hb3)
        clear hnp hrc hown3
        go_wp2_with fail
        refine HX2.out.mono ?_
        rintro e w4 ⟨hb4, a4, m4, c4, rfl, hm4, hown4⟩
        have hB4 : Below w.heap.size w w4 := hB3.trans (hb4.mono hz3)
        have hz4 := hB4.size
        have hz34 := hb4.size
        have hrc4 : ∀ i v, (#[.int .i64 (r.field : Int), .int .i64 (r.kind : Int), .int .u64 (r.u : Int), .slice a2 m2 c2] : Array Value)[i]? = some v → w4.cell? ⟨w2.heap.size, i, none⟩ = some v := fun i v h => (hb4.cell (p := ⟨w2.heap.size, i, none⟩) (by dsimp only; omega)).trans (HRC.out i v h)
        have k0 := hrc4 0 _ rfl
        have k1 := hrc4 1 _ rfl
        have k2 := hrc4 2 _ rfl
        have k3 := hrc4 3 _ rfl
        have hlt4 : w2.heap.size < w4.heap.size := by omega
        have hs4 := Lib.hid (((hs3.out.kept hb4)).alloc (.cells #[.int .i64 (r.field : Int), .int .i64 (r.kind : Int), .int .u64 (r.u : Int), .slice a4 m4 c4] 53))
        have hs4' := Lib.hid (hown4.sl'.alloc (.cells #[.int .i64 (r.field : Int), .int .i64 (r.kind : Int), .int .u64 (r.u : Int), .slice a4 m4 c4] 53))
        have HBX : Below w.heap.size w (w4.alloc (.cells #[.int .i64 (r.field : Int), .int .i64 (r.kind : Int), .int .u64 (r.u : Int), .slice a4 m4 c4] 53)) := hB4.alloc hz4 _
        clear hrc4 hown4
        go_wp2_with fail
        refine (same_any _ _ _ _ _ _ _ _ _ hs4.out hs4'.out).mono ?_
        rintro e w' ⟨rfl, rfl⟩
        have hlen3 := hN3.out
        go_wp2_with fail
        refine (bytes_any a n c l _ (HS.out.kept HBX) (by omega)).mono ?_
        rintro e w3 ⟨a3, N3, c3, rfl, hN3, hown3, hb3⟩
        have hB3 : Below w.heap.size w w3 := HBX.trans (hb3.mono HBX.size)
        have hz3 := hB3.size
        have hs3 := HS'.out.kept hB3
        have hl3 := HS.out.len
        have hown3' : Own w3 w.heap.size (.slice a3 N3 c3) l := hown3.mono HBX.size
        clear hown3 HBX hb3
        go_wp2_with (at_builtin; (refine wp_append_bytes rfl _ _ rfl _ l s rfl w.heap.size hown3' b m d rfl hs3 (by omega) hz3 ?_); intro w4 a4 N4 c4 hN4 hown4 hb4)
        have hB4 : Below w.heap.size w w4 := hB3.trans hb4
        have hz4 := hB4.size
        have hs4 := Lib.hid hown4.sl'
        clear hown3' hs3 hb4 hown4
        have hca := check_any ea a n c l w4 (HS.out.kept hB4) (HE.out.kept hB4)
        cases hA : check l with
        | some p =>
          obtain ⟨pi, pk⟩ := p
          rw [hA] at hca
          have HC := Lib.hid hca
          clear hca hA
          go_wp2_with fail
          refine HC.out.mono ?_
          rintro e w5 ⟨hb5, g, rfl, _, _⟩
          go_wp2
          go_ret
          exact ⟨rfl, hB4.trans (hb5.mono hz4)⟩
        | none =>
          rw [hA] at hca
          have HC := Lib.hid hca
          have HA := Lib.hid hA
          clear hca hA
          go_wp2_with fail
          refine HC.out.mono ?_
          rintro e w5 ⟨hb5, rfl⟩
          have hB5 : Below w.heap.size w w5 := hB4.trans (hb5.mono hz4)
          have hz5 := hB5.size
          have hcb := check_any ea b m d s w5 (HS'.out.kept hB5) (HE.out.kept hB5)
          cases hBq : check s with
          | some p =>
            obtain ⟨pi, pk⟩ := p
            rw [hBq] at hcb
            have HC2 := Lib.hid hcb
            clear hcb hBq
            go_wp2_with fail
            refine HC2.out.mono ?_
            rintro e w6 ⟨hb6, g, rfl, _, _⟩
            go_wp2
            go_ret
            exact ⟨rfl, hB5.trans (hb6.mono hz5)⟩
          | none =>
            rw [hBq] at hcb
            have HC2 := Lib.hid hcb
            have HJ := Lib.hid (check_join HA.out hBq)
            clear hcb hBq
            go_wp2_with fail
            refine HC2.out.mono ?_
            rintro e w6 ⟨hb6, rfl⟩
            have hB6 : Below w.heap.size w w6 := hB5.trans (hb6.mono hz5)
            have hz6 := hB6.size
            have hcj := check_any ea a4 N4 c4 (l ++ s) w6 ((hs4.out.kept hb5).kept hb6) (HE.out.kept hB6)
            rw [HJ.out] at hcj
            have HC3 := Lib.hid hcj
            clear hcj
            go_wp2_with fail
            refine HC3.out.mono ?_
            rintro e w7 ⟨hb7, rfl⟩
            go_wp2
            go_ret
            exact ⟨rfl, hB6.trans (hb7.mono hz6)⟩
    · go_wp2
      go_ret
      exact ⟨rfl, hb1⟩
  · go_wp2
    go_ret
    exact ⟨rfl, hb1⟩
end Go.Proofs.YtclnmajjkchfmaaDoor
