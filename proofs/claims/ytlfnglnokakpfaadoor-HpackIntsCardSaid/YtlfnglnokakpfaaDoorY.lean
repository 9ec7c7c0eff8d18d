/-
  THE LAW HpackInts: its walk.
-/
import Derived.Test.YtlfnglnokakpfaaDoorX
import Derived.Test.YtlfnglnokakpfaaDoorW
import Derived.Test.YtlfnglnokakpfaaDoorHuU
namespace Go.Proofs.YtlfnglnokakpfaaDoor
open Go.RowKit Tt Hu Hu.Hf

theorem Seen.later {w W : World} {v : Value} {c : Int} (h : Hu.Seen w v c) (hB : Below w.heap.size w W) : Hu.Seen W v c := fun W' hW => h W' (hB.trans (hW.mono hB.size))
/-- An error by its number. -/
def errE (es : Nat → Addr) (c : Nat) : Value := .iface 181 (.pointer (some (es (c - 101))))
theorem env_of {w : World} {es : Nat → Addr} (S : Hu.Sent w es) : Env w (errE es) :=
  ⟨S.cell 0 _ rfl, S.cell 1 _ rfl, S.cell 6 _ rfl, S.cell 7 _ rfl, S.cell 8 _ rfl, S.cell 9 _ rfl, S.cell 14 _ rfl⟩
theorem errs_of (es : Nat → Addr) : Errs (errE es) := fun _ => ⟨_, _, rfl⟩
/-- The numbers of the faults that reading answers. -/
def Res.small {α : Type} : Res α → Prop
  | .ok _ => True
  | .er c => 101 ≤ c ∧ c < 131
theorem more7_small : ∀ (l : List UInt8) (acc k : Nat), (more7 acc k l).small
  | [], acc, k => by unfold more7; split <;> (simp [Res.small])
  | c :: l, acc, k => by
    unfold more7
    split
    · simp [Res.small]
    · split
      · exact more7_small l _ _
      · split <;> simp [Res.small]
theorem getInt_small (bt : Nat) (l : List UInt8) : (getInt bt l).small := by
  cases l with
  | nil => simp [getInt, Res.small]
  | cons c l =>
    by_cases h : c.toNat % 2 ^ bt < 2 ^ bt - 1
    · rw [getInt_cons_lt h]
      trivial
    · rw [getInt_cons_ge h]
      exact more7_small _ _ _
/-- Int, of hpack and of the document, seen alike. -/
theorem int_pair {w0 : World} {es : Nat → Addr} (S : Hu.Sent w0 es) (bt : Int) (l : List UInt8) : ∃ (x m : Int) (ev : Value) (d : Int), Hu.Seen w0 ev d ∧
    (∀ W a n c, Below w0.heap.size w0 W → Sl W a n c l → Calls Tryd.prog 16 #[.slice a n c, .int .i64 bt] W fun e w' => e = .returned (.tuple #[.int .i64 x, .int .i64 m, ev]) ∧ Below W.heap.size W w') ∧
    (∀ W a n c, Sl W a n c l → Calls Tryd.prog 17 #[.slice a n c, .int .i64 bt] W fun e w' => e = .returned (.tuple #[.int .i64 x, .int .i64 m, .int .i64 d]) ∧ Below W.heap.size W w') := by
  by_cases hk : 1 ≤ bt ∧ bt ≤ 8
  · obtain ⟨k, rfl⟩ : ∃ k : Nat, bt = k := ⟨bt.toNat, by omega⟩
    have hr := getInt_small k l
    cases h : getInt k l with
    | ok q =>
      obtain ⟨n, m⟩ := q
      refine ⟨n, m, .nilIface, 0, Hu.seen_nil w0, fun W a N c hW hs => ?_, fun W a N c hs => ?_⟩
      · have := int_any (errE es) k a N c l W (by omega) (by omega) hs (env_of (S.kept hW))
        rw [h] at this
        exact this
      · have := dint_any k a N c l W (by omega) (by omega) hs
        rw [h] at this
        exact this
    | er e =>
      rw [h] at hr
      obtain ⟨hr1, hr2⟩ := hr
      have hse := Hu.seen_err S (i := e - 101) (by omega)
      rw [show 101 + (e - 101) = e by omega] at hse
      refine ⟨0, 0, errE es e, e, hse, fun W a N c hW hs => ?_, fun W a N c hs => ?_⟩
      · have := int_any (errE es) k a N c l W (by omega) (by omega) hs (env_of (S.kept hW))
        rw [h] at this
        exact this
      · have := dint_any k a N c l W (by omega) (by omega) hs
        rw [h] at this
        exact this
  · refine ⟨0, 0, errE es 102, 102, Hu.seen_err S (i := 1) (by omega), fun W a N c hW hs => ?_, fun W a N c hs => ?_⟩
    · exact int_bad (errE es) bt _ W (by omega) (env_of (S.kept hW))
    · exact dint_bad bt _ W (by omega)

set_option maxRecDepth 100000 in
set_option maxHeartbeats 4000000 in
theorem ints_any (es : Nat → Addr) (a : Option Addr) (n c : Nat) (l : List UInt8) (first bts x : Int) (hb : -9223372036854775808 ≤ bts ∧ bts ≤ 9223372036854775807) (w : World) (S : Hu.Sent w es) (hs : Sl w a n c l) :
    Calls Tryd.prog 3 #[.slice a n c, .int .i64 first, .int .i64 bts, .int .i64 x] w fun e w' => e = .returned (.bool true) ∧ Below w.heap.size w w' := by
  have hn9 := hs.nine
  have HS := Lib.hid hs
  have HLN := Lib.hid hs.len
  have HE := Lib.hid S
  have HB := Lib.hid hb
  have HF := Lib.hid (first_any (errE es) w (env_of S) (errs_of es))
  clear hs S hb
  by_cases hn : n ≤ 16384
  · go_enter Tryd.func3, Tryd.ntmps3
    go_wp2_with fail
    refine HF.out.mono ?_
    rintro e w1 ⟨rfl, hb1⟩
    have hz1 := hb1.size
    have HP := Lib.hid (putInt_any a n c l first bts x w1 (HS.out.kept hb1) (by omega) HB.out)
    obtain ⟨rx, rm, ev, d, hsn, hd1, hd2⟩ := int_pair HE.out bts l
    have HSN := Lib.hid hsn
    have H1 := Lib.hid hd1
    have H2 := Lib.hid hd2
    clear hsn hd1 hd2
    go_wp2_with fail
    refine HP.out.mono ?_
    rintro e w2 ⟨a2, N2, c2, rfl, hN2, ho2, hb2⟩
    have hB2 : Below w.heap.size w w2 := hb1.trans (hb2.mono hz1)
    have hz2 := hB2.size
    have HS2 := Lib.hid (sl_own ho2)
    clear hb2 ho2 HP hN2
    go_wp2_with fail
    refine (bytes_any a n c l _ (HS.out.kept hB2) (by omega)).mono ?_
    rintro e w3 ⟨a3, N3, c3, rfl, hN3, ho3, hb3⟩
    have hz3 := hb3.size
    clear hN3
    go_wp2_with fail
    refine (dput_any first bts x _ HB.out).mono ?_
    rintro e w4 ⟨a4, N4, c4, rfl, hN4, ho4, hb4⟩
    have hz4 := hb4.size
    have ho34 := ho3.kept hb4
    have hs4 := sl_own ho4
    have hpl : N4 ≤ 6 := by
      rw [hN4.out]
      unfold putInt
      split
      · rename_i hcp
        exact pint_len (by have := hcp.2.2.2.1; omega)
      · simp
    have hl := HLN.out
    clear hN4 ho4 ho3
    go_wp2_with (at_builtin; (refine wp_append_bytes rfl _ _ rfl _ l (putInt first bts x) rfl w2.heap.size ho34 a4 N4 c4 rfl hs4 (by omega) (by omega) ?_); intro w5 a5 N5 c5 hN5 ho5 hb5; clear ho34)
    have hb25 : Below w2.heap.size w2 w5 := hb3.trans ((hb4.mono hz3).trans hb5)
    have hB5 : Below w.heap.size w w5 := hB2.trans (hb25.mono hz2)
    have hsm := Hu.same_any _ _ _ _ _ _ _ _ w5 (HS2.out.kept hb25) (sl_own ho5)
    rw [show (l ++ putInt first bts x == l ++ putInt first bts x) = true by simp] at hsm
    have HM := Lib.hid hsm
    clear hsm hs4 hb3 hb4 hb5 hb25 ho5 hN5 HS2
    go_wp2_with fail
    refine HM.out.mono ?_
    rintro e w' ⟨rfl, rfl⟩
    go_wp2_with fail
    refine (H1.out w5 a n c hB5 (HS.out.kept hB5)).mono ?_
    rintro e w6 ⟨rfl, hb6⟩
    have hB6 : Below w.heap.size w w6 := hB5.trans (hb6.mono hB5.size)
    go_wp2_with fail
    refine (H2.out w6 a n c (HS.out.kept hB6)).mono ?_
    rintro e w7 ⟨rfl, hb7⟩
    have hB7 : Below w.heap.size w w7 := hB6.trans (hb7.mono hB6.size)
    have hi := Hu.is_seen ev d d w7 (Seen.later HSN.out hB7)
    rw [show (d == d) = true by simp] at hi
    have HI := Lib.hid hi
    clear hi hb6 hb7 HM H1 H2
    go_wp2_with fail
    refine HI.out.mono ?_
    rintro e w8 ⟨rfl, hb8⟩
    have hB8 : Below w.heap.size w w8 := hB7.trans (hb8.mono hB7.size)
    have HQ := Lib.hid (putInt_any none 0 0 [] 0 bts x w8 ⟨rfl, Nat.le_refl _, by unfold maxLen; omega, fun _ => rfl, fun i hi => by simp at hi⟩ (by omega) HB.out)
    rw [List.nil_append] at HQ
    clear HI hb8
    go_wp2_with fail
    refine HQ.out.mono ?_
    rintro e w9 ⟨a9, N9, c9, rfl, hN9, ho9, hb9⟩
    have hz9 := hb9.size
    have hB9 : Below w.heap.size w w9 := hB8.trans (hb9.mono hB8.size)
    by_cases hcp : canPut 0 bts x
    · obtain ⟨h1, h2, h3, h4, _, _, _⟩ := hcp
      obtain ⟨k, rfl⟩ : ∃ k : Nat, bts = k := ⟨bts.toNat, by omega⟩
      obtain ⟨y, rfl⟩ : ∃ y : Nat, x = y := ⟨x.toNat, by omega⟩
      have hp : putInt 0 (k : Int) (y : Int) = pint 0 k y := by
        unfold putInt
        rw [if_pos ⟨h1, h2, h3, h4, by omega, by omega, by simp⟩]
        rfl
      rw [hp] at hN9 ho9
      have hG := Lib.hid (getInt_pint (k := k) (n := y) (by omega) (by omega) (by omega) l)
      have hpl := pint_len (first := 0) (bits := k) (n := y) (by omega)
      have hp0 : 0 < (pint 0 k y).length := by unfold pint; split <;> simp
      generalize pint 0 k y = P at hN9 ho9 hG hpl hp0
      have hN := hN9.out
      subst hN
      have hnz : ((P.length : Int) == 0) = false := by rw [beq_eq_false_iff_ne]; omega
      clear hN9 hp
      go_wp2_with (at_builtin; (refine wp_append_bytes rfl _ _ rfl _ P l rfl w8.heap.size ho9 a n c rfl (HS.out.kept hB9) (by omega) (by omega) ?_); intro w10 a10 N10 c10 hN10 ho10 hb10; clear ho9)
      have hB10 : Below w.heap.size w w10 := hB9.trans (hb10.mono hB8.size)
      have HJ := Lib.hid (int_any (errE es) k a10 N10 c10 (P ++ l) w10 (by omega) (by omega) (sl_own ho10) (env_of (HE.out.kept hB10)))
      rw [hG.out] at HJ
      clear hG ho10 hN10 hb10 hb9
      go_wp2_with fail
      refine HJ.out.mono ?_
      rintro e w11 ⟨rfl, hb11⟩
      simp only [intV]
      go_wp2_with fail
      go_ret
      exact ⟨rfl, hB10.trans (hb11.mono hB10.size)⟩
    · have hp : putInt 0 bts x = [] := by unfold putInt; rw [if_neg hcp]
      rw [hp] at hN9
      have hN : N9 = 0 := hN9.out
      subst hN
      clear hcp hp ho9 hN9
      go_wp2_with fail
      go_ret
      exact ⟨rfl, hB9⟩
  · go_enter Tryd.func3, Tryd.ntmps3
    go_wp2_with fail
    refine HF.out.mono ?_
    rintro e w1 ⟨rfl, hb1⟩
    go_wp2_with fail
    go_ret
    exact ⟨rfl, hb1⟩
end Go.Proofs.YtlfnglnokakpfaaDoor
