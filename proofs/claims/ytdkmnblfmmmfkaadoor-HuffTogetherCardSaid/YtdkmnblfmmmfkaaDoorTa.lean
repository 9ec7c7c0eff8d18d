/-
  THE LAW HuffTogether: its walk.
-/
import Derived.Test.YtdkmnblfmmmfkaaDoorT
import Derived.Test.YtdkmnblfmmmfkaaDoorMt
namespace Go.Proofs.YtdkmnblfmmmfkaaDoor
open Go.RowKit Hf

theorem str_append (S T : ByteArray) : str (S ++ T) = str S ++ str T := by simp [str]
/-- The rounds over the bytes. -/
def TogRel (S T : ByteArray) (w : World) (s6 s7 s8 : Value) (wr : World) : Prop := ∃ (i x y : Nat), s8 = .int .i64 (i : Int) ∧ s6 = .int .i64 (x : Int) ∧ s7 = .int .i64 (y : Int) ∧ i ≤ S.size + T.size ∧
  x = totN ((str S).take i) ∧ y = totN ((str S ++ str T).take i) ∧ x ≤ 60000 ∧ y ≤ 60000 ∧ Below w.heap.size w wr
theorem take_over {l m : List UInt8} {i : Nat} (h : l.length ≤ i) : (l ++ m).take i = l ++ m.take (i - l.length) := by
  rw [List.take_append, List.take_of_length_le h]

set_option maxRecDepth 100000 in
set_option maxHeartbeats 4000000 in
theorem together_any (ev : Value) (S T : ByteArray) (w : World) (hE : w.cell? ⟨0, 0, none⟩ = some ev) (hS : S.size ≤ 140737488351232) (hT : T.size ≤ 140737488351232) :
    Calls Tryd.prog 8 #[.string S, .string T] w fun e w' => e = .returned (.bool true) ∧ Below w.heap.size w w' := by
  by_cases hbig : S.size + T.size ≤ 2000
  · go_enter Tryd.func8, Tryd.ntmps8
    go_wp2_with fail
    refine (first_any ev _ hE).mono ?_
    rintro e w1 ⟨rfl, hb1⟩
    go_wp2_with fail
    go_loopw [6, 7, 8] (fun s6 s7 s8 wr => TogRel S T w s6 s7 s8 wr) (fun _ _ s8 _ => 2001 - (intOf s8).toNat)
    case atStart => exact ⟨0, 0, 0, rfl, rfl, rfl, by omega, rfl, rfl, by omega, by omega, hb1⟩
    case round =>
      obtain ⟨i, x, y, rfl, rfl, rfl, hi, hx, hy, hx6, hy6, hB⟩ := hrel
      by_cases hend : i < S.size + T.size
      · by_cases h1 : i < S.size
        · have ht := str_take S h1
          have hxs : totN ((str S).take (i + 1)) = x + sz S[i].toNat := by rw [ht, totN_snoc, hx]
          have hys : totN ((str S ++ str T).take (i + 1)) = y + sz S[i].toNat := by
            have hl : i + 1 ≤ (str S).length := by rw [str_len]; omega
            rw [List.take_append_of_le_length hl, ht, totN_snoc, hy, List.take_append_of_le_length (by omega)]
          have hxl : totN ((str S).take (i + 1)) ≤ 60000 := Nat.le_trans (totN_le _) (Nat.le_trans (Nat.mul_le_mul_left 30 (show ((str S).take (i + 1)).length ≤ 2000 by rw [List.length_take, str_len]; omega)) (by omega))
          have hyl : totN ((str S ++ str T).take (i + 1)) ≤ 60000 := Nat.le_trans (totN_le _) (Nat.le_trans (Nat.mul_le_mul_left 30 (show ((str S ++ str T).take (i + 1)).length ≤ 2000 by rw [List.length_take, List.length_append, str_len, str_len]; omega)) (by omega))
          have HC := Lib.hid (fun W => bits_ok S[i].toNat (b257 _) W)
          have hz := sz_hi (b257 S[i])
          rw [hxs] at hxl
          rw [hys] at hyl
          generalize sz S[i].toNat = z at hxs hys hxl hyl HC hz
          have HX := Lib.hid hxs
          have HY := Lib.hid hys
          have hw := Lib.hid (IntWalk.wrap64_in ((S[i].toNat : Nat) : Int) (by have := S[i].toNat_lt; omega))
          clear hx hy hxs hys ht
          go_wp2_with fail
          rw [hw.out]
          refine (HC.out _).mono ?_
          rintro e w2 ⟨rfl, rfl⟩
          go_wp2_with fail
          refine ⟨⟨i + 1, x + z, y + z, by go_num, by go_num, by go_num, by omega, HX.out.symm, HY.out.symm, hxl, hyl, hB⟩, by simp [intOf]; omega⟩
        · obtain ⟨j, rfl⟩ : ∃ j, i = S.size + j := ⟨i - S.size, by omega⟩
          have hj : j < T.size := by omega
          have ht := str_take T hj
          have hl : (str S).length = S.size := str_len S
          have hxs : totN ((str S).take (S.size + j + 1)) = x := by rw [hx, List.take_of_length_le (by rw [hl]; omega), List.take_of_length_le (by rw [hl]; omega)]
          have hys : totN ((str S ++ str T).take (S.size + j + 1)) = y + sz T[j].toNat := by
            rw [hy, take_over (by rw [hl]; omega), take_over (by rw [hl]; omega), hl, show S.size + j + 1 - S.size = j + 1 by omega, show S.size + j - S.size = j by omega, ht, ← List.append_assoc, totN_snoc]
          have hyl : totN ((str S ++ str T).take (S.size + j + 1)) ≤ 60000 := Nat.le_trans (totN_le _) (Nat.le_trans (Nat.mul_le_mul_left 30 (show ((str S ++ str T).take (S.size + j + 1)).length ≤ 2000 by rw [List.length_take, List.length_append, str_len, str_len]; omega)) (by omega))
          have HC := Lib.hid (fun W => bits_ok T[j].toNat (b257 _) W)
          have hz := sz_hi (b257 T[j])
          rw [hys] at hyl
          generalize sz T[j].toNat = z at hys hyl HC hz
          have HX := Lib.hid hxs
          have HY := Lib.hid hys
          have hw := Lib.hid (IntWalk.wrap64_in ((T[j].toNat : Nat) : Int) (by have := T[j].toNat_lt; omega))
          clear hx hy hxs hys ht hl
          go_wp2_with fail
          rw [hw.out]
          refine (HC.out _).mono ?_
          rintro e w2 ⟨rfl, rfl⟩
          go_wp2_with fail
          refine ⟨⟨S.size + j + 1, x, y + z, by go_num, by go_num, by go_num, by omega, HX.out.symm, HY.out.symm, hx6, hyl, hB⟩, by simp [intOf]; omega⟩
      · obtain rfl : i = S.size + T.size := by omega
        rw [List.take_of_length_le (by rw [str_len]; omega)] at hx
        rw [← str_append, List.take_of_length_le (by rw [str_append, List.length_append, str_len, str_len]; omega)] at hy
        have h1 := encode_any S (by omega)
        have h2 := encode_any (S ++ T) (by rw [ByteArray.size_append]; omega)
        have hl1 := enc_length (str S)
        have hl2 := enc_length (str (S ++ T))
        have hp := enc_prefix (str S) (str T)
        rw [← str_append, ← hx] at hp
        rw [← hx] at hl1
        rw [← hy] at hl2
        have hxy : x ≤ y := by rw [hx, hy, str_append, totN_app]; omega
        generalize enc (str S) = ea at h1 hl1 hp
        generalize enc (str (S ++ T)) = eb at h2 hl2 hp
        have H1 := Lib.hid h1
        have H2 := Lib.hid h2
        have HP := Lib.hid hp
        clear h1 h2 hp hx hy
        go_wp2_with fail
        refine (H1.out _).mono ?_
        rintro e w2 ⟨a2, N2, c2, rfl, hN2, hown2, hb2⟩
        go_wp2_with fail
        refine (H2.out _).mono ?_
        rintro e w3 ⟨a3, N3, c3, rfl, hN3, hown3, hb3⟩
        obtain rfl : N2 = (x + 7) / 8 := hN2.out.trans hl1
        obtain rfl : N3 = (y + 7) / 8 := hN3.out.trans hl2
        have hs2 := (own_sl2 hown2).kept hb3
        have hs3 := own_sl2 hown3
        have hle2 := hs2.le
        have hle3 := hs3.le
        have hh2 := fun W => slice_h a2 ((x + 7) / 8) c2 ((x : Int) / 8) (by omega) (by omega) (x / 8) (by omega) W
        have hh3 := fun W => slice_h a3 ((y + 7) / 8) c3 ((x : Int) / 8) (by omega) (by omega) (x / 8) (by omega) W
        have hp2 := sl_part hs2 0 (x / 8) (by omega) (ea.take (x / 8)) (by simp)
        have hp3 := sl_part hs3 0 (x / 8) (by omega) (eb.take (x / 8)) (by simp)
        have HS2 := Lib.hid hp2
        have HS3 := Lib.hid hp3
        have hB3 : Below w.heap.size w w3 := (hB.trans (hb2.mono hB.size)).trans (hb3.mono (Nat.le_trans hB.size hb2.size))
        have hsm : ∀ W, Below w3.heap.size w3 W → Calls Tryd.prog 15 #[.slice (partAt a2 c2 0) (x / 8) c2, .slice (partAt a3 c3 0) (x / 8) c3] W fun e w' => e = .returned (.bool true) ∧ W = w' := fun W h => by
          have h3 := same_any _ _ _ _ _ _ _ _ W (HS2.out.kept h) (HS3.out.kept h)
          rw [HP.out, show (ea.take (x / 8) == ea.take (x / 8)) = true by simp] at h3
          exact h3
        have HQ : Hid (∀ q, Calls Tryd.prog 15 #[.slice (partAt a2 c2 0) (x / 8) c2, .slice (partAt a3 c3 0) (x / 8) c3] (w3.drewN q) fun e w'' => e = .returned (.bool true) ∧ ∃ m, w'' = w3.drewN m) := Lib.hid fun q => (hsm _ (bdN (Below.refl _ _) q)).mono fun e w' ⟨h1, h2⟩ => ⟨h1, q, h2.symm⟩
        clear hp2 hp3 hs2 hs3 hown2 hown3 hN2 hN3 hl1 hl2 hb2 hb3 hB H1 H2 hsm
        go_wp2_with fail
        go_quiet (exact HQ.out _)
        go_wp2_with fail
        go_ret
        refine ⟨rfl, ?_⟩
        (repeat (first | exact hB3 | (refine bdN ?_ _) | (refine Below.drew ?_)))
  · go_enter Tryd.func8, Tryd.ntmps8
    go_wp2_with fail
    refine (first_any ev _ hE).mono ?_
    rintro e w1 ⟨rfl, hb1⟩
    go_wp2_with fail
    go_ret
    exact ⟨rfl, hb1⟩
end Go.Proofs.YtdkmnblfmmmfkaaDoor
