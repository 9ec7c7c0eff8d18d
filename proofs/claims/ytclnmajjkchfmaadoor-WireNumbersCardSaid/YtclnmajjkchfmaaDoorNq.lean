/-
  THE LAW WireNumbers (P1.1 to P1.4): contract. NOT FINISHED.
-/
import Derived.Test.YtclnmajjkchfmaaDoorL
import Derived.Test.YtclnmajjkchfmaaDoorUp
import Derived.Test.YtclnmajjkchfmaaDoorPb
namespace Go.Proofs.YtclnmajjkchfmaaDoor
open Go.RowKit Wr

theorem Seen.later {w W : World} {v : Value} {c : Int} (h : Seen w v c) (hB : Below w.heap.size w W) : Seen W v c := fun W' hW => h W' (hB.trans (hW.mono hB.size))
/-- The front of a slice. -/
theorem sl_front {w : World} {a : Option Addr} {N n c : Nat} {l m : List UInt8} (h : Sl w a N c (l ++ m)) (hn : l.length = n) : Sl w a n c l := by
  have h1 := h.len
  have h2 := h.le
  rw [List.length_append] at h1
  refine ⟨hn, by omega, h.max, h.nil, fun i hi => ?_⟩
  obtain ⟨b, o, e, hc⟩ := h.row i (by rw [List.length_append]; omega)
  exact ⟨b, o, e, by rw [hc, List.getElem_append_left hi]⟩

theorem le_cap {w : World} {B : Nat} {a : Option Addr} {N n c : Nat} {l m : List UInt8} (h : Own w B (.slice a N c) (l ++ m)) (hn : l.length = n) : n + m.length ≤ c := by
  have h1 := h.sl'.len
  have h2 := h.sl'.le
  rw [List.length_append] at h1
  omega

set_option maxRecDepth 100000 in
set_option maxHeartbeats 4000000 in
theorem numbers_any (es : Nat → Addr) (u : Nat) (x f k q : Int) (a : Option Addr) (n c : Nat) (l : List UInt8) (w : World) (S : Sent w es) (hs : Sl w a n c l) (hu : u ≤ 18446744073709551615) (hx : -9223372036854775808 ≤ x ∧ x ≤ 9223372036854775807)
    (hf : -9223372036854775808 ≤ f ∧ f ≤ 9223372036854775807) (hk : -9223372036854775808 ≤ k ∧ k ≤ 9223372036854775807) (hq : -9223372036854775808 ≤ q ∧ q ≤ 9223372036854775807) :
    Calls Tryd.prog 3 #[.int .u64 (u : Int), .int .i64 x, .int .i64 f, .int .i64 k, .int .i64 q, .slice a n c] w fun e w' => e = .returned (.bool true) ∧ Below w.heap.size w w' := by
  have hn9 := hs.nine
  have HS := Lib.hid hs
  have HE := Lib.hid S
  clear hs S
  go_enter Tryd.func3, Tryd.ntmps3
  go_wp2_with fail
  refine (first_any _ w HE.out.env).mono ?_
  rintro e w1 ⟨rfl, hb1⟩
  have hz1 := hb1.size
  by_cases hn : n ≤ 16384
  · go_wp2_with fail
    refine (bytes_any a n c l _ (HS.out.kept hb1) (by omega)).mono ?_
    rintro e w2 ⟨a2, N2, c2, rfl, hN2, hown2, hb2⟩
    have hB2 : Below w.heap.size w w2 := hb1.trans (hb2.mono hz1)
    have hz2 := hB2.size
    have hl := HS.out.len
    have hown2' : Own w2 w.heap.size (.slice a2 N2 c2) l := hown2.mono hz1
    clear hown2
    go_wp2_with (at_builtin; (refine wp_append_bytes rfl _ _ rfl _ l [47, 11] rfl w.heap.size (hown2'.alloc _) (some ⟨w2.heap.size, 0, none⟩) 2 2 rfl (sl_new2 _ _ _ _ _ rfl rfl) (by omega) (by simp; omega) ?_); intro w3 a3 N3 c3 hN3 hown3 hb3; have hle3 : n + 2 ≤ c3 := le_cap hown3 hl)
    have hB3 : Below w.heap.size w w3 := (hB2.alloc hz2 _).trans hb3
    have hz3 := hB3.size
    have hs3 := Lib.hid (sl_front hown3.sl' hl)
    have hN3' : N3 = n + 2 := by have h2 := hN3.out; simp at h2; omega
    have hm3 : Hid (Sl w3 a3 (n + 2) c3 (l ++ [47, 11])) := Lib.hid (by rw [← hN3']; exact hown3.sl')
    clear hown2' hown3 hb3 hB2 hb2 hz2 hN3
    -- law.go:36
    go_wp2_with fail
    refine (varint_any a3 n c3 l w3 hs3.out (by omega) u (by omega)).mono ?_
    rintro e w4 ⟨a4, N4, c4, rfl, hN4, hown4, hb4⟩
    have hB4 : Below w.heap.size w w4 := hB3.trans (hb4.mono hz3)
    go_wp2_with fail
    refine (bytes_any a n c l w4 (HS.out.kept hB4) (by omega)).mono ?_
    rintro e w5 ⟨a5, N5, c5, rfl, hN5, hown5, hb5⟩
    go_wp2_with fail
    refine (varintr_any u (by omega) w5).mono ?_
    rintro e w6 ⟨a6, N6, c6, rfl, hN6, hown6, hb6⟩
    have hown5' : Own w6 w4.heap.size (.slice a5 N5 c5) l := hown5.kept hb6
    have hs6 := hown6.sl'
    have hz46 : w4.heap.size ≤ w6.heap.size := Nat.le_trans hb5.size hb6.size
    have hN6' : N6 ≤ 10 := by have := hN6.out; have := varint_len10 (u := u) (by omega); omega
    clear hown5 hown6
    go_wp2_with (at_builtin; (refine wp_append_bytes rfl _ _ rfl _ l (varint u) rfl w4.heap.size hown5' a6 N6 c6 rfl hs6 (by omega) hz46 ?_); intro w7 a7 N7 c7 hN7 hown7 hb7)
    have hb47 : Below w4.heap.size w4 w7 := (hb5.trans (hb6.mono hb5.size)).trans hb7
    refine (same_any _ _ _ _ _ _ _ _ _ (hown4.sl'.kept hb47) hown7.sl').mono ?_
    rintro e w' ⟨rfl, rfl⟩
    have hb37 : Below w3.heap.size w3 w7 := hb4.trans (hb47.mono hb4.size)
    have hB7 : Below w.heap.size w w7 := hB3.trans (hb37.mono hz3)
    have hz7 := hB7.size
    clear hown4 hown7 hown5' hs6 hb4 hb5 hb6 hb7 hb47 hB4 hN4 hN5 hN6 hN7 hz46 hN6'
    -- law.go:37, 38
    obtain ⟨ux, ui, uev, uc, hus, hu1, hu2⟩ := uv_pair HE.out l
    have HU1 := Lib.hid (hu1 w7 a3 n c3 hB7 (hs3.out.kept hb37))
    clear hu1
    go_wp2_with fail
    refine HU1.out.mono ?_
    rintro e w8 ⟨rfl, hb8⟩
    have hB8 : Below w.heap.size w w8 := hB7.trans (hb8.mono hz7)
    have hb38 : Below w3.heap.size w3 w8 := hb37.trans (hb8.mono hb37.size)
    have HU2 := Lib.hid (hu2 w8 a n c (HS.out.kept hB8))
    have HUS := Lib.hid hus
    clear hu2 hus HU1
    go_wp2_with fail
    refine HU2.out.mono ?_
    rintro e w9 ⟨rfl, hb9⟩
    have hB9 : Below w.heap.size w w9 := hB8.trans (hb9.mono hB8.size)
    have hb39 : Below w3.heap.size w3 w9 := hb38.trans (hb9.mono hb38.size)
    clear HU2 hb8 hb9 hB8 hb38 hB7 hb37 hz7
    -- law.go:39
    obtain ⟨fm, hfm, hf1, hf2⟩ := fixed_pair u hu q hq
    have HF1 := Lib.hid (hf1 w9 a3 n c3 l (by omega) (hs3.out.kept hb39))
    have HF2 := Lib.hid hf2
    clear hf1 hf2
    go_wp2_with fail
    refine HF1.out.mono ?_
    rintro e w10 ⟨a10, N10, c10, rfl, hN10, hown10, hb10⟩
    have hB10 : Below w.heap.size w w10 := hB9.trans (hb10.mono hB9.size)
    go_wp2_with fail
    refine (bytes_any a n c l w10 (HS.out.kept hB10) (by omega)).mono ?_
    rintro e w11 ⟨a11, N11, c11, rfl, hN11, hown11, hb11⟩
    go_wp2_with fail
    refine (HF2.out w11).mono ?_
    rintro e w12 ⟨a12, N12, c12, rfl, hN12, hown12, hb12⟩
    have hown11' : Own w12 w10.heap.size (.slice a11 N11 c11) l := hown11.kept hb12
    have hs12 := hown12.sl'
    have hz1012 : w10.heap.size ≤ w12.heap.size := Nat.le_trans hb11.size hb12.size
    have hN12' : N12 ≤ 8 := by have := hN12.out; omega
    clear hown11 hown12
    go_wp2_with (at_builtin; (refine wp_append_bytes rfl _ _ rfl _ l fm rfl w10.heap.size hown11' a12 N12 c12 rfl hs12 (by omega) hz1012 ?_); intro w13 a13 N13 c13 hN13 hown13 hb13)
    have hb1013 : Below w10.heap.size w10 w13 := (hb11.trans (hb12.mono hb11.size)).trans hb13
    refine (same_any _ _ _ _ _ _ _ _ _ (hown10.sl'.kept hb1013) hown13.sl').mono ?_
    rintro e w' ⟨rfl, rfl⟩
    have hb313 : Below w3.heap.size w3 w13 := hb39.trans ((hb10.trans (hb1013.mono hb10.size)).mono hb39.size)
    have hB13 : Below w.heap.size w w13 := hB3.trans (hb313.mono hz3)
    clear hown10 hown13 hown11' hs12 hb10 hb11 hb12 hb13 hb1013 hB10 hN10 hN11 hN12 hN13 hz1012 hN12' HF1 HF2 hB9 hb39 hfm
    -- law.go:40, 41
    obtain ⟨px, pi, pev, pc, hps, hp1, hp2⟩ := unfixed_pair HE.out l q
    have HP1 := Lib.hid (hp1 w13 a3 n c3 hB13 (hs3.out.kept hb313))
    clear hp1
    go_wp2_with fail
    refine HP1.out.mono ?_
    rintro e w14 ⟨rfl, hb14⟩
    have hB14 : Below w.heap.size w w14 := hB13.trans (hb14.mono hB13.size)
    have hb314 : Below w3.heap.size w3 w14 := hb313.trans (hb14.mono hb313.size)
    have HP2 := Lib.hid (hp2 w14 a n c (HS.out.kept hB14))
    have HPS := Lib.hid hps
    clear hp2 hps HP1 hB13 hb313 hb14
    go_wp2_with fail
    refine HP2.out.mono ?_
    rintro e w15 ⟨rfl, hb15⟩
    have hB15 : Below w.heap.size w w15 := hB14.trans (hb15.mono hB14.size)
    have hb315 : Below w3.heap.size w3 w15 := hb314.trans (hb15.mono hb314.size)
    clear HP2 hB14 hb314 hb15
    -- law.go:42 to 45
    obtain ⟨tx, tev, tc, hts, ht1, ht2⟩ := tag_pair HE.out f k hf hk
    have HT1 := Lib.hid (ht1 w15 hB15)
    have HT2 := Lib.hid ht2
    have HTS := Lib.hid hts
    clear ht1 ht2 hts
    go_wp2_with fail
    refine HT1.out.mono ?_
    rintro e w16 ⟨rfl, hb16⟩
    have hB16 : Below w.heap.size w w16 := hB15.trans (hb16.mono hB15.size)
    have hb316 : Below w3.heap.size w3 w16 := hb315.trans (hb16.mono hb315.size)
    clear HT1 hB15 hb315 hb16
    go_wp2_with fail
    refine (HT2.out w16).mono ?_
    rintro e w' ⟨rfl, rfl⟩
    obtain ⟨zx, zi, zev, zc, hzs, hz1', hz2'⟩ := untag_pair HE.out u hu
    have HZ1 := Lib.hid (hz1' w16 hB16)
    have HZ2 := Lib.hid hz2'
    have HZS := Lib.hid hzs
    clear hz1' hz2' hzs HT2
    go_wp2_with fail
    refine HZ1.out.mono ?_
    rintro e w17 ⟨rfl, hb17⟩
    have hB17 : Below w.heap.size w w17 := hB16.trans (hb17.mono hB16.size)
    have hb317 : Below w3.heap.size w3 w17 := hb316.trans (hb17.mono hb316.size)
    clear HZ1 hB16 hb316 hb17
    go_wp2_with fail
    refine (HZ2.out w17).mono ?_
    rintro e w' ⟨rfl, rfl⟩
    clear HZ2
    -- law.go:46
    go_wp2_with fail
    refine (is_seen uev uc uc w17 (HUS.out.later hB17)).mono ?_
    rintro e w18 ⟨rfl, hb18⟩
    have hB18 : Below w.heap.size w w18 := hB17.trans (hb18.mono hB17.size)
    have hb318 : Below w3.heap.size w3 w18 := hb317.trans (hb18.mono hb317.size)
    clear hB17 hb317 hb18
    go_wp2_with fail
    refine (is_seen pev pc pc w18 (HPS.out.later hB18)).mono ?_
    rintro e w19 ⟨rfl, hb19⟩
    have hB19 : Below w.heap.size w w19 := hB18.trans (hb19.mono hB18.size)
    have hb319 : Below w3.heap.size w3 w19 := hb318.trans (hb19.mono hb318.size)
    clear hB18 hb318 hb19
    go_wp2_with fail
    refine (is_seen tev tc tc w19 (HTS.out.later hB19)).mono ?_
    rintro e w20 ⟨rfl, hb20⟩
    have hB20 : Below w.heap.size w w20 := hB19.trans (hb20.mono hB19.size)
    have hb320 : Below w3.heap.size w3 w20 := hb319.trans (hb20.mono hb319.size)
    clear hB19 hb319 hb20
    go_wp2_with fail
    refine (is_seen zev zc zc w20 (HZS.out.later hB20)).mono ?_
    rintro e w21 ⟨rfl, hb21⟩
    have hB21 : Below w.heap.size w w21 := hB20.trans (hb21.mono hB20.size)
    have hb321 : Below w3.heap.size w3 w21 := hb320.trans (hb21.mono hb320.size)
    clear hB20 hb320 hb21
    go_wp2_with fail
    -- law.go:48
    refine (bytes_any a n c l w21 (HS.out.kept hB21) (by omega)).mono ?_
    rintro e w22 ⟨a22, N22, c22, rfl, hN22, hown22, hb22⟩
    have hz22 := hb22.size
    go_wp2_with (at_builtin; (refine wp_append_bytes rfl _ _ rfl _ l [47, 11] rfl w21.heap.size (hown22.alloc _) (some ⟨w22.heap.size, 0, none⟩) 2 2 rfl (sl_new2 _ _ _ _ _ rfl rfl) (by omega) (by simp; omega) ?_); intro w23 a23 N23 c23 hN23 hown23 hb23)
    have hb2123 : Below w21.heap.size w21 w23 := (hb22.alloc hz22 _).trans hb23
    have hb323 : Below w3.heap.size w3 w23 := hb321.trans (hb2123.mono hb321.size)
    have hB23 : Below w.heap.size w w23 := hB21.trans (hb2123.mono hB21.size)
    refine (same_any _ _ _ _ _ _ _ _ _ (hm3.out.kept hb323) hown23.sl').mono ?_
    rintro e w' ⟨rfl, rfl⟩
    clear hown22 hown23 hb22 hb23 hb2123 hb323 hb321 hB21 hN22 hN23 hz22
    -- law.go:49
    go_wp2_with fail
    refine (zig_any x hx.1 hx.2 _).mono ?_
    rintro e w' ⟨rfl, rfl⟩
    go_wp2_with fail
    refine (zigr_any x hx.1 hx.2 _).mono ?_
    rintro e w' ⟨rfl, rfl⟩
    go_wp2_with fail
    refine (zag_any u hu _).mono ?_
    rintro e w' ⟨rfl, rfl⟩
    go_wp2_with fail
    refine (zagr_any u hu _).mono ?_
    rintro e w' ⟨rfl, rfl⟩
    go_wp2_with fail
    refine (size_any u hu _).mono ?_
    rintro e w' ⟨rfl, rfl⟩
    go_wp2_with fail
    refine (varintr_any u hu _).mono ?_
    rintro e w24 ⟨a24, N24, c24, rfl, hN24, _, hb24⟩
    obtain rfl := hN24.out
    go_wp2_with fail
    go_ret
    exact ⟨rfl, hB23.trans (hb24.mono hB23.size)⟩
  · go_wp2
    go_ret
    exact ⟨rfl, hb1⟩
end Go.Proofs.YtclnmajjkchfmaaDoor
