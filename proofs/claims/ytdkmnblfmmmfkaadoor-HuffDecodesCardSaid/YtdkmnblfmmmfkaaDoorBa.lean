/-
  THE LAW HuffBack: its walk.
-/
import Derived.Test.YtdkmnblfmmmfkaaDoorT
import Derived.Test.YtdkmnblfmmmfkaaDoorMb
namespace Go.Proofs.YtdkmnblfmmmfkaaDoor
open Go.RowKit Hf

theorem str_back (S : ByteArray) : (⟨(str S).toArray⟩ : ByteArray) = S := by cases S; simp [str]
theorem totN_ge : ∀ l : List UInt8, 5 * l.length ≤ totN l
  | [] => by simp
  | c :: l => by
    have h := totN_ge l
    have h2 := sz_lo (b257 c)
    simp only [totN, List.length_cons]
    omega
abbrev errP (pa : Addr) : Value := .iface 88 (.pointer (some pa))

set_option maxRecDepth 100000 in
set_option maxHeartbeats 4000000 in
theorem back_any (pa : Addr) (S : ByteArray) (a : Option Addr) (n c : Nat) (l : List UInt8) (w : World) (hE : w.cell? ⟨0, 0, none⟩ = some (errP pa)) (hS : S.size ≤ 140737488351232) (hs : Sl w a n c l) :
    Calls Tryd.prog 6 #[.string S, .slice a n c] w fun e w' => e = .returned (.bool true) ∧ Below w.heap.size w w' := by
  have hn9 := hs.nine
  have HS := Lib.hid hs
  have HLN := Lib.hid hs.len
  have HE := Lib.hid hE
  clear hs hE
  by_cases h1 : S.size ≤ 2000
  · by_cases h2 : n ≤ 2000
    · have hN : (totN (str S) + 7) / 8 ≤ 7501 := by
        have h3 := totN_le (str S)
        rw [str_len] at h3
        omega
      have hen := enc_length (str S)
      have hsay := says_of_enc (str S)
      have H1 := Lib.hid (fun W => encode_any S (by omega) W)
      have H2 := Lib.hid (fun W => sizeOf_any S (by omega) W)
      generalize enc (str S) = eS at H1 hen hsay
      have HSY := Lib.hid hsay
      have HEN := Lib.hid hen
      clear hsay hen
      go_enter Tryd.func6, Tryd.ntmps6
      go_wp2_with fail
      refine (first_any _ _ HE.out).mono ?_
      rintro e w1 ⟨rfl, hb1⟩
      go_wp2_with fail
      refine (H1.out _).mono ?_
      rintro e w2 ⟨a2, N2, c2, rfl, hN2, hown2, hb2⟩
      have hB2 : Below w.heap.size w w2 := hb1.trans (hb2.mono hb1.size)
      have hl2 : N2 ≤ 7501 := by have := hN2.out; have := HEN.out; omega
      have hd := decode_any (errP pa) a2 N2 c2 eS w2 (own_sl2 hown2) (by omega) ((hB2.cell (p := ⟨0, 0, none⟩) (cell_lt HE.out)).trans HE.out)
      have HD : Hid (Calls Tryd.prog 20 #[.slice a2 N2 c2] w2 fun e w' => e = .returned (.tuple #[.string S, .nilIface]) ∧ Below w2.heap.size w2 w') := Lib.hid (hd.mono fun e w' h => by
        unfold DecPost at h
        rw [HSY.out] at h
        exact ⟨by rw [h.2, str_back], h.1⟩)
      clear hd
      go_wp2_with fail
      refine HD.out.mono ?_
      rintro e w3 ⟨rfl, hb3⟩
      have hB3 : Below w.heap.size w w3 := hB2.trans (hb3.mono hB2.size)
      clear hb1 hb2 hb3 hown2 hN2 hB2 HD
      go_wp2_with fail
      refine (H1.out _).mono ?_
      rintro e w4 ⟨a4, N4, c4, rfl, hN4, hown4, hb4⟩
      have hB4 : Below w.heap.size w w4 := hB3.trans (hb4.mono hB3.size)
      obtain rfl : N4 = (totN (str S) + 7) / 8 := hN4.out.trans HEN.out
      generalize hQ : (totN (str S) + 7) / 8 = Q at H2 hN ⊢
      clear hQ hN4 hown4 hb4 hB3
      go_wp2_with fail
      refine (H2.out _).mono ?_
      rintro e w' ⟨rfl, rfl⟩
      have hd := decode_any (errP pa) a n c l w4 (HS.out.kept hB4) (by omega) ((hB4.cell (p := ⟨0, 0, none⟩) (cell_lt HE.out)).trans HE.out)
      cases hsy : saysText l with
      | none =>
        have HD : Hid (Calls Tryd.prog 20 #[.slice a n c] w4 fun e w' => e = .returned (.tuple #[.string ⟨#[]⟩, errP pa]) ∧ Below w4.heap.size w4 w') := Lib.hid (hd.mono fun e w' h => by
          unfold DecPost at h
          rw [hsy] at h
          exact ⟨h.2, h.1⟩)
        clear hd hsy
        go_wp2_with fail
        refine HD.out.mono ?_
        rintro e w5 ⟨rfl, hb5⟩
        go_wp2_with fail
        go_ret
        exact ⟨rfl, hB4.trans (hb5.mono hB4.size)⟩
      | some u =>
        have heu := enc_of_says hsy
        have HD : Hid (Calls Tryd.prog 20 #[.slice a n c] w4 fun e w' => e = .returned (.tuple #[.string ⟨u.toArray⟩, .nilIface]) ∧ Below w4.heap.size w4 w') := Lib.hid (hd.mono fun e w' h => by
          unfold DecPost at h
          rw [hsy] at h
          exact ⟨h.2, h.1⟩)
        have hul : u.length ≤ 3300 := by
          have h3 := totN_ge u
          have h4 := enc_length u
          rw [heu, HLN.out] at h4
          omega
        have h5 : ∀ W, Calls Tryd.prog 14 #[.string ⟨u.toArray⟩] W (Built l W) := fun W => by
          have h6 := encode_any ⟨u.toArray⟩ (show u.toArray.size ≤ 1000000 by simp; omega) W
          rw [show str ⟨u.toArray⟩ = u by simp [str], heu] at h6
          exact h6
        have H5 := Lib.hid h5
        clear hd hsy heu h5
        go_wp2_with fail
        refine HD.out.mono ?_
        rintro e w5 ⟨rfl, hb5⟩
        have hB5 : Below w.heap.size w w5 := hB4.trans (hb5.mono hB4.size)
        go_wp2_with fail
        refine (H5.out _).mono ?_
        rintro e w6 ⟨a6, N6, c6, rfl, hN6, hown6, hb6⟩
        have hB6 : Below w.heap.size w w6 := hB5.trans (hb6.mono hB5.size)
        have hsm := same_any _ _ _ _ _ _ _ _ w6 (own_sl2 hown6) (HS.out.kept hB6)
        rw [show (l == l) = true by simp] at hsm
        have HM := Lib.hid hsm
        clear hsm hown6 hb6 hb5 hN6
        go_wp2_with fail
        refine HM.out.mono ?_
        rintro e w' ⟨rfl, rfl⟩
        go_wp2_with fail
        go_ret
        exact ⟨rfl, hB6⟩
    · go_enter Tryd.func6, Tryd.ntmps6
      go_wp2_with fail
      refine (first_any _ _ HE.out).mono ?_
      rintro e w1 ⟨rfl, hb1⟩
      go_wp2_with fail
      go_ret
      exact ⟨rfl, hb1⟩
  · go_enter Tryd.func6, Tryd.ntmps6
    go_wp2_with fail
    refine (first_any _ _ HE.out).mono ?_
    rintro e w1 ⟨rfl, hb1⟩
    go_wp2_with fail
    go_ret
    exact ⟨rfl, hb1⟩
end Go.Proofs.YtdkmnblfmmmfkaaDoor
