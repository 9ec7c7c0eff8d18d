/-
  THE LAW WireBack (P1.10): contract.
-/
import Derived.Test.YtclnmajjkchfmaaDoorL
import Derived.Test.YtclnmajjkchfmaaDoorPc
import Derived.Test.YtclnmajjkchfmaaDoorPn
namespace Go.Proofs.YtclnmajjkchfmaaDoor
open Go.RowKit Wr

theorem andm32 {u : Nat} (h : u ≤ 18446744073709551615) : bits .and .u64 (u : Int) 4294967295 = ((u % 4294967296 : Nat) : Int) := by
  rw [show (4294967295 : Int) = ((4294967295 : Nat) : Int) from rfl, u64_and_nat _ _ (by omega) (by omega)]
  congr 1
  exact Nat.and_two_pow_sub_one_eq_mod u 32
theorem zz_bound {n : Int} (h0 : -9223372036854775808 ≤ n) (h1 : n ≤ 9223372036854775807) : 0 ≤ (zz n : Int) ∧ (zz n : Int) ≤ 18446744073709551615 := by
  unfold zz
  split <;> omega
theorem zg_zz {n : Int} : zg (zz n : Int).toNat = n := by
  unfold zg zz
  split <;> split <;> omega
theorem u64_bound {n : Int} (h : (Lit.int .u64 n).wf = true) : 0 ≤ n ∧ n ≤ 18446744073709551615 := by
  have h1 : IntKind.u64.min = 0 := by decide
  have h2 : IntKind.u64.max = 18446744073709551615 := by decide
  simp [Lit.wf, h1, h2] at h
  omega
theorem i64_bound {n : Int} (h : (Lit.int .i64 n).wf = true) : -9223372036854775808 ≤ n ∧ n ≤ 9223372036854775807 := by
  have h1 : IntKind.i64.min = -9223372036854775808 := by decide
  have h2 : IntKind.i64.max = 9223372036854775807 := by decide
  simp [Lit.wf, h1, h2] at h
  omega

theorem put_len {f k u : Nat} {l : List UInt8} (hf : f ≤ 536870911) (hk : k ≤ 5) (hu : u ≤ 18446744073709551615) (hl : l.length ≤ 18446744073709551615) : (put f k u l).length ≤ 30 + l.length := by
  have h1 := varint_len10 (u := f * 8 + k) (by omega)
  have h2 := varint_len10 hu
  have h3 := varint_len10 hl
  have h4 := varint_len10 (u := f * 8 + 4) (by omega)
  unfold put putB
  rw [List.length_append]
  split
  · omega
  split
  · rw [fixedB_length]; omega
  split
  · rw [List.length_append]; omega
  split
  · rw [List.length_append]; omega
  · rw [fixedB_length]; omega

set_option maxRecDepth 100000 in
set_option maxHeartbeats 4000000 in
theorem back_any (ea : Nat → Addr) (u x f k : Int) (a : Option Addr) (n c : Nat) (l : List UInt8) (b : Option Addr) (m d : Nat) (s : List UInt8)
    (hu : (Lit.int .u64 u).wf = true) (hx : (Lit.int .i64 x).wf = true) (hf : (Lit.int .i64 f).wf = true) (hk : (Lit.int .i64 k).wf = true) (w : World) (E : Env w ea) (hs : Sl w a n c l) (hs' : Sl w b m d s) :
    Calls Tryd.prog 7 #[.int .u64 u, .int .i64 x, .int .i64 f, .int .i64 k, .slice a n c, .slice b m d] w fun e w' => e = .returned (.bool true) ∧ Below w.heap.size w w' := by
  have hu1 := u64_bound hu
  have hx1 := i64_bound hx
  have hf1 := i64_bound hf
  have hk1 := i64_bound hk
  obtain ⟨u, rfl⟩ : ∃ q : Nat, u = q := ⟨u.toNat, by omega⟩
  have hU : u ≤ 18446744073709551615 := by omega
  have hn9 := hs.nine
  have hm9 := hs'.nine
  have hv10 := varint_len10 hU
  have HS := Lib.hid hs
  have HS' := Lib.hid hs'
  have HE := Lib.hid E
  have ham := andm32 hU
  have hll := Lib.hid hs.len
  have hls := Lib.hid hs'.len
  have hV : ∀ W, Calls Tryd.prog 15 #[.slice none 0 0, .int .u64 (u : Int)] W (Built (varint u) W) := fun W => by
    have := varint_any none 0 0 [] W (Sl.nil0 W) (by omega) u hU
    rw [List.nil_append] at this
    exact this
  have hF4 : ∀ W, Calls Tryd.prog 19 #[.slice none 0 0, .int .u64 (u : Int), .int .i64 4] W (Built (fixedB 4 u) W) := fun W => by
    have := fixed_yes none 0 0 [] W (Sl.nil0 W) (by omega) u hU 4 rfl
    rw [List.nil_append] at this
    exact this
  have hF8 : ∀ W, Calls Tryd.prog 19 #[.slice none 0 0, .int .u64 (u : Int), .int .i64 8] W (Built (fixedB 8 u) W) := fun W => by
    have := fixed_yes none 0 0 [] W (Sl.nil0 W) (by omega) u hU 8 rfl
    rw [List.nil_append] at this
    exact this
  have hZ : ∀ W, Calls Tryd.prog 30 #[.int .u64 (zz x : Int)] W fun e w' => e = .returned (.int .i64 x) ∧ W = w' := fun W => by
    have hb := zz_bound hx1.1 hx1.2
    have := zag_any (zz x : Int).toNat (by omega) W
    rw [zg_zz, show (((zz x : Int).toNat : Nat) : Int) = zz x by omega] at this
    exact this
  have HZ := Lib.hid hZ
  have HV := Lib.hid hV
  have HF4 := Lib.hid hF4
  have HF8 := Lib.hid hF8
  clear hs hs' E hu hx hf hk hZ hV hF4 hF8
  go_enter Tryd.func7, Tryd.ntmps7
  go_wp2_with fail
  refine (first_any ea w HE.out).mono ?_
  rintro e w1 ⟨rfl, hb1⟩
  have hz1 := hb1.size
  by_cases hn : n ≤ 16384
  · by_cases hm : m ≤ 16384
    · go_wp2_with fail
      refine (HV.out _).mono ?_
      rintro e w2 ⟨a2, N2, c2, rfl, hN2, hown2, hb2⟩
      have hB2 : Below w.heap.size w w2 := hb1.trans (hb2.mono hz1)
      have hz2 := hB2.size
      have hown2' : Own w2 w.heap.size (.slice a2 N2 c2) (varint u) := hown2.mono hz1
      have hs2 := HS'.out.kept hB2
      clear hown2
      go_wp2_with (at_builtin; (refine wp_append_bytes rfl _ _ rfl _ (varint u) s rfl w.heap.size hown2' b m d rfl hs2 (by omega) hz2 ?_); intro w3 a3 N3 c3 hN3 hown3 hb3)
      have hB3 : Below w.heap.size w w3 := hB2.trans hb3
      refine (uv_yes ea a3 N3 c3 (varint u ++ s) w3 hown3.sl' (HE.out.kept hB3) u (varint u).length (uv_varint hU s)).mono ?_
      rintro e w' ⟨rfl, nq, rfl⟩
      have hB4 : Below w.heap.size w (w3.drewN nq) := bdN hB3 nq
      clear hown2' hs2 hown3 hb3 hB3 hN3 hN2 hB2 hb2
      generalize (w3.drewN nq) = w4 at hB4 ⊢
      have hz4 := hB4.size
      go_wp2_with fail
      refine (HF4.out _).mono ?_
      rintro e w5 ⟨a5, N5, c5, rfl, hN5, hown5, hb5⟩
      have hB5 : Below w.heap.size w w5 := hB4.trans (hb5.mono hz4)
      have hz5 := hB5.size
      have hown5' : Own w5 w.heap.size (.slice a5 N5 c5) (fixedB 4 u) := hown5.mono hz4
      have hs5 := HS'.out.kept hB5
      have hl4 : (fixedB 4 u).length = 4 := fixedB_length 4 u
      clear hown5
      go_wp2_with (at_builtin; (refine wp_append_bytes rfl _ _ rfl _ (fixedB 4 u) s rfl w.heap.size hown5' b m d rfl hs5 (by omega) hz5 ?_); intro w6 a6 N6 c6 hN6 hown6 hb6)
      have hB6 : Below w.heap.size w w6 := hB5.trans hb6
      have hz6 := hB6.size
      have hU4 : Calls Tryd.prog 21 #[.slice a6 N6 c6, .int .i64 4] w6 fun e w' => e = .returned (.tuple #[.int .u64 ((u % 4294967296 : Nat) : Int), .int .i64 4, .nilIface]) ∧ w6 = w' := by
        have := unfixed_ok a6 N6 c6 (fixedB 4 u ++ s) w6 hown6.sl' 4 (Or.inl rfl) (by have := hN6.out; rw [List.length_append] at this; omega)
        rw [take_fixedB, leNum_fixedB] at this
        exact this
      refine hU4.mono ?_
      rintro e w' ⟨rfl, rfl⟩
      clear hU4 hown5' hs5 hown6 hb6 hB5 hN5 hN6 hb5 hl4
      go_wp2_with fail
      refine (HF8.out _).mono ?_
      rintro e w7 ⟨a7, N7, c7, rfl, hN7, hown7, hb7⟩
      have hB7 : Below w.heap.size w w7 := hB6.trans (hb7.mono hz6)
      have hz7 := hB7.size
      have hown7' : Own w7 w.heap.size (.slice a7 N7 c7) (fixedB 8 u) := hown7.mono hz6
      have hs7 := HS'.out.kept hB7
      have hl8 : (fixedB 8 u).length = 8 := fixedB_length 8 u
      clear hown7
      go_wp2_with (at_builtin; (refine wp_append_bytes rfl _ _ rfl _ (fixedB 8 u) s rfl w.heap.size hown7' b m d rfl hs7 (by omega) hz7 ?_); intro w8 a8 N8 c8 hN8 hown8 hb8)
      have hB8 : Below w.heap.size w w8 := hB7.trans hb8
      have hz8 := hB8.size
      have hU8 : Calls Tryd.prog 21 #[.slice a8 N8 c8, .int .i64 8] w8 fun e w' => e = .returned (.tuple #[.int .u64 (u : Int), .int .i64 8, .nilIface]) ∧ w8 = w' := by
        have := unfixed_ok a8 N8 c8 (fixedB 8 u ++ s) w8 hown8.sl' 8 (Or.inr rfl) (by have := hN8.out; rw [List.length_append] at this; omega)
        rw [take_fixedB, leNum_fixedB, Nat.mod_eq_of_lt (by omega)] at this
        exact this
      refine hU8.mono ?_
      rintro e w' ⟨rfl, rfl⟩
      clear hU8 hown7' hs7 hown8 hb8 hB7 hN7 hN8 hb7 hl8 hB6 hz6 hB4 hz4
      go_wp2_with fail
      refine (size_any u hU _).mono ?_
      rintro e w' ⟨rfl, rfl⟩
      go_wp2_with fail
      refine (zig_any x hx1.1 hx1.2 _).mono ?_
      rintro e w' ⟨rfl, rfl⟩
      go_wp2_with fail
      refine (HZ.out _).mono ?_
      rintro e w' ⟨rfl, rfl⟩
      by_cases hT : TagOk f k
      · obtain ⟨t1, t2, t3, t4⟩ := hT
        obtain ⟨f, rfl⟩ : ∃ q : Nat, f = q := ⟨f.toNat, by omega⟩
        obtain ⟨k, rfl⟩ : ∃ q : Nat, k = q := ⟨k.toNat, by omega⟩
        have hTg := Lib.hid (tag_ok f k ⟨t1, t2, t3, t4⟩)
        have hUn : Hid (∀ W, Calls Tryd.prog 25 #[.int .u64 ((f : Int) * 8 + k)] W fun e w' => e = .returned (.tuple #[.int .i64 (f : Int), .int .i64 (k : Int), .nilIface]) ∧ W = w') := Lib.hid (fun W => by
          have := untag_ok (f * 8 + k) (by omega) (by omega) (by omega) (by omega) W
          rw [show (f * 8 + k) / 8 = f by omega, show (f * 8 + k) % 8 = k by omega, show ((f * 8 + k : Nat) : Int) = (f : Int) * 8 + k by omega] at this
          exact this)
        go_wp2_with fail
        refine (hTg.out _).mono ?_
        rintro e w' ⟨rfl, rfl⟩
        go_wp2_with fail
        refine (hUn.out _).mono ?_
        rintro e w' ⟨rfl, rfl⟩
        by_cases hP : PutOk f k l
        · have hpl := put_len (f := f) (k := k) (u := u) (l := l) (by omega) (by omega) hU (by have := hll.out; omega)
          have hPt := put_any ea none 0 0 [] a n c l f k u hP hU w8 (HE.out.kept hB8) (Sl.nil0 _) (HS.out.kept hB8) (by omega) (by omega)
          rw [List.nil_append] at hPt
          have HP := Lib.hid hP
          have HPt := Lib.hid hPt
          clear hP hPt
          go_wp2_with fail
          refine HPt.out.mono ?_
          rintro e w9 ⟨a9, N9, c9, rfl, hN9, hown9, hb9⟩
          have hB9 : Below w.heap.size w w9 := hB8.trans (hb9.mono hz8)
          have hz9 := hB9.size
          have hs9 := Lib.hid hown9.sl'
          have hN9' : N9 ≤ 20000 := by have := hN9.out; have := hll.out; omega
          clear hown9
          go_wp2_with fail
          refine (bytes_any a9 N9 c9 _ w9 hs9.out (by omega)).mono ?_
          rintro e w10 ⟨a10, N10, c10, rfl, hN10, hown10, hb10⟩
          have hB10 : Below w.heap.size w w10 := hB9.trans (hb10.mono hz9)
          have hz10 := hB10.size
          have hz910 := hb10.size
          have hs10 := HS'.out.kept hB10
          have hln := hll.out
          go_wp2_with (at_builtin; (refine wp_append_bytes rfl _ _ rfl _ (put f k u l) s rfl w9.heap.size hown10 b m d rfl hs10 (by omega) hz910 ?_); intro w11 a11 N11 c11 hN11 hown11 hb11)
          have hB11 : Below w.heap.size w w11 := hB10.trans (hb11.mono hz9)
          have hz11 := hB11.size
          have hs11 := Lib.hid (hs9.out.kept (hb10.trans hb11))
          have hnx := next_any ea a11 N11 c11 (put f k u l ++ s) w11 hown11.sl' (HE.out.kept hB11) (by have := hN11.out; have := hls.out; rw [List.length_append] at *; omega)
          rw [rec_put HP.out hU (by omega) s] at hnx
          have HNX := Lib.hid hnx
          clear hnx hs10 hown10 hown11 hb11 hb10 hs9
          refine HNX.out.mono ?_
          rintro e w12 ⟨hb12, a12, m12, c12, rfl, _, _⟩
          have hB12 : Below w.heap.size w w12 := hB11.trans (hb12.mono hz11)
          have hz12 := hB12.size
          have hB13 : Below w.heap.size w (w12.alloc (.cells #[.int .i64 (f : Int), .int .i64 (k : Int), .int .u64 ((putU k u : Nat) : Int), .slice a12 m12 c12] 53)) := hB12.alloc hz12 _
          have hck := check_any ea a9 N9 c9 (put f k u l) _ ((hs11.out.kept hb12).alloc (.cells #[.int .i64 (f : Int), .int .i64 (k : Int), .int .u64 ((putU k u : Nat) : Int), .slice a12 m12 c12] 53)) (HE.out.kept hB13)
          rw [check_put HP.out hU (by omega)] at hck
          obtain rfl := hN9.out
          have HCK := Lib.hid hck
          clear hck
          go_wp2_with fail
          refine HCK.out.mono ?_
          rintro e w14 ⟨hb14, rfl⟩
          go_wp2
          go_ret
          exact ⟨rfl, hB13.trans (hb14.mono hB13.size)⟩
        · have HPn := Lib.hid (put_no ea none 0 0 a n c l f k u (by omega) (by omega) (by omega) hP w8 (HE.out.kept hB8) (HS.out.kept hB8))
          clear hP
          go_wp2_with fail
          refine HPn.out.mono ?_
          rintro e w9 ⟨rfl, hb9⟩
          go_wp2
          go_ret
          exact ⟨rfl, hB8.trans (hb9.mono hz8)⟩
      · have hT0 := tag_no ea f k hf1.1 hf1.2 hk1.1 hk1.2 hT w8 (HE.out.kept hB8)
        have HT := Lib.hid hT0
        have HNT := Lib.hid hT
        clear hT0 hT
        go_wp2_with fail
        refine HT.out.mono ?_
        rintro e w' ⟨rfl, nq, rfl⟩
        have hB9 : Below w.heap.size w (w8.drewN nq) := bdN hB8 nq
        generalize (w8.drewN nq) = w9 at hB9 ⊢
        have hz9 := hB9.size
        go_wp2_with fail
        refine (untag_no ea 0 (by omega) (Or.inl (by omega)) w9 (HE.out.kept hB9)).mono ?_
        rintro e w' ⟨rfl, nq2, rfl⟩
        have hB10 : Below w.heap.size w (w9.drewN nq2) := bdN hB9 nq2
        generalize (w9.drewN nq2) = w10 at hB10 ⊢
        have hz10 := hB10.size
        have hP := Lib.hid (put_notag ea none 0 0 a n c f k (u : Int) hf1.1 hf1.2 hk1.1 hk1.2 HNT.out w10 (HE.out.kept hB10))
        go_wp2_with fail
        refine hP.out.mono ?_
        rintro e w11 ⟨rfl, hb11⟩
        go_wp2
        go_ret
        exact ⟨rfl, hB10.trans (hb11.mono hz10)⟩
    · go_wp2
      go_ret
      exact ⟨rfl, hb1⟩
  · go_wp2
    go_ret
    exact ⟨rfl, hb1⟩
end Go.Proofs.YtclnmajjkchfmaaDoor
