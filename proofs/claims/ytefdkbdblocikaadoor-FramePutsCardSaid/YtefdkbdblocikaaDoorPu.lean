/-
  THE LAW FramePuts: its walk.
-/
import Derived.Test.YtefdkbdblocikaaDoorFi
namespace Go.Proofs.YtefdkbdblocikaaDoor
open Go.RowKit Hu

set_option maxRecDepth 100000 in
set_option maxHeartbeats 4000000 in
theorem puts_any (es : Nat → Addr) (a : Option Addr) (n c : Nat) (b : List UInt8) (ty fl st : Int) (pa : Option Addr) (pn pc : Nat) (l : List UInt8) (w : World) (S : Hu.Sent w es) (hs : Sl w a n c b) (hp : Sl w pa pn pc l) :
    Calls Tryd.prog 3 #[.slice a n c, frV ty fl st pa pn pc] w fun e w' => e = .returned (.bool true) ∧ Below w.heap.size w w' := by
  have hn9 := hs.nine
  have hp9 := hp.nine
  have hb0 : Below w.heap.size w (w.alloc (.cells #[.int .i64 ty, .int .i64 fl, .int .i64 st, .slice pa pn pc] 24)) := (Below.refl _ w).alloc (Nat.le_refl _) _
  have hF0 := fb_new w ty fl st pa pn pc
  have hz0 : (w.alloc (.cells #[.int .i64 ty, .int .i64 fl, .int .i64 st, .slice pa pn pc] 24)).heap.size = w.heap.size + 1 := by simp
  have HS := Lib.hid hs
  have HPW := Lib.hid hp
  have HE := Lib.hid S
  have HBL := Lib.hid hs.len
  have HPL := Lib.hid hp.len
  clear hs hp S
  go_enter Tryd.func3, Tryd.ntmps3
  go_upto_region 1 with fail
  generalize hw0 : w.alloc (.cells #[.int .i64 ty, .int .i64 fl, .int .i64 st, .slice pa pn pc] 24) = w0 at hb0 hF0 hz0
  have HW0 := Lib.hid hw0
  have HF0 := Lib.hid hF0
  have HB0 := Lib.hid hb0
  have HZ0 := Lib.hid hz0
  clear hw0 hF0 hb0 hz0
  go_wp2_with fail
  refine (first_any w0).mono ?_
  rintro e w1 ⟨rfl, hb1⟩
  have hB1 : Below w.heap.size w w1 := HB0.out.trans (hb1.mono (by have := HZ0.out; omega))
  have HB1 := Lib.hid hB1
  have HF1 := Lib.hid (HF0.out.kept hb1 (by have := HZ0.out; omega))
  have hz1 : w.heap.size + 1 ≤ w1.heap.size := by have h1 := hb1.size; have h2 := HZ0.out; omega
  have HZ1 := Lib.hid hz1
  obtain ⟨f0, f1, f2, f3⟩ := HF1.out
  clear hb1 hB1 HW0 HF0 HB0 HZ0 hz1
  by_cases hn : n ≤ 32768
  · by_cases hpn : pn ≤ 32768
    · by_cases hf : Fits ty fl st
      · have HPU := Lib.hid (put_yes a n c b ty fl st pa pn pc l w1 (HS.out.kept HB1.out) (HPW.out.kept HB1.out) (by omega) hf (by omega))
        have HDU := Lib.hid (fun W h => dput_yes ty fl st pa pn pc l W h hf (by omega))
        clear hf
        go_wp2_with fail
        refine HPU.out.mono ?_
        rintro e w2 ⟨a2, N2, c2, rfl, hN2, ho2, hb2⟩
        have HB2 := Lib.hid (HB1.out.trans (hb2.mono HB1.out.size))
        have hz2 := hb2.size
        have HO2 := Lib.hid (sl_own ho2)
        have HF2 := Lib.hid (HF1.out.kept hb2 (by have := HZ1.out; omega))
        clear f0 f1 f2 f3
        obtain ⟨f0, f1, f2, f3⟩ := HF2.out
        clear hb2 ho2 HF1 HPU
        go_wp2_with fail
        refine (HDU.out w2 (HPW.out.kept HB2.out)).mono ?_
        rintro e w3 ⟨a3, N3, c3, rfl, hN3, ho3, hb3⟩
        have HB3 := Lib.hid (HB2.out.trans (hb3.mono HB2.out.size))
        have hO3 := HO2.out.kept hb3
        have hP3 := sl_own ho3
        have HO3 := Lib.hid hO3
        have HP3 := Lib.hid hP3
        have hN3' := hN3.out
        have hN := hN2.out
        have hpl : (putB ty fl st l).length = pn + 9 := by simp [putB, bigB_len, HPL.out]; omega
        have hbl : (b ++ putB ty fl st l).length = n + (pn + 9) := by rw [List.length_append, hpl, HBL.out]
        rw [hpl] at hN3'
        rw [hbl] at hN
        subst hN hN3'
        have HPL9 := Lib.hid hpl
        generalize putB ty fl st l = P at HO3 HP3 HPL9
        clear hb3 ho3 hN3 hN2 HO2 HDU hO3 hP3 f0 f1 f2 f3 HF2 hpl hbl
        go_wp2_with fail
        refine (bytes_any a n c b w3 (HS.out.kept HB3.out) (by omega)).mono ?_
        rintro e w4 ⟨a4, N4, c4, rfl, hN4, ho4, hb4⟩
        have HB34 := Lib.hid hb4
        have hN4' := hN4.out
        rw [HBL.out] at hN4'
        subst hN4'
        have HP4 := Lib.hid (HP3.out.kept hb4)
        have HQ4 := Lib.hid ho4
        have HZ4 := Lib.hid hb4.size
        clear hb4 hN4 ho4
        go_wp2_with (at_builtin; refine wp_append_g (by simp [go_sem, Region.wanted]) _ _ rfl _ b P rfl w3.heap.size HQ4.out a3 (pn + 9) c3 rfl HP4.out (by rw [HBL.out]; omega) HZ4.out ?_; intro w5 a5 N5 c5 hN5 hown5 hb5; (have hN5' := hN5.out); (rw [List.length_append, HBL.out, HPL9.out] at hN5'); (subst hN5'); (have HB35 := Lib.hid (HB34.out.trans hb5)); (have HSM := Lib.hid (same_any _ _ _ _ _ _ _ _ w5 (HO3.out.kept HB35.out) (sl_own hown5))); clear hown5 hb5 hN5)
        rw [show (b ++ P == b ++ P) = true by simp] at HSM
        refine HSM.out.mono ?_
        rintro e w' ⟨rfl, rfl⟩
        clear HSM
        go_wp2_with fail
        go_ret
        exact ⟨rfl, HB3.out.trans (HB35.out.mono HB3.out.size)⟩
      · have HPN := Lib.hid (put_no a n c ty fl st pa pn pc _ w1 hf ((HE.out.kept HB1.out).cell 10 _ rfl))
        have HDN := Lib.hid (fun W => dput_no ty fl st pa pn pc W hf)
        clear hf
        go_wp2_with fail
        refine HPN.out.mono ?_
        rintro e w2 ⟨rfl, hb2⟩
        have HB2 := Lib.hid (HB1.out.trans (hb2.mono HB1.out.size))
        have HF2 := Lib.hid (HF1.out.kept hb2 (by have := HZ1.out; omega))
        clear f0 f1 f2 f3
        obtain ⟨f0, f1, f2, f3⟩ := HF2.out
        clear hb2 HPN HF1
        go_wp2_with fail
        refine (HDN.out w2).mono ?_
        rintro e w3 ⟨rfl, hb3⟩
        have HB3 := Lib.hid (HB2.out.trans (hb3.mono HB2.out.size))
        have HI := Lib.hid (Hu.is_seen _ _ 111 w3 (Hu.seen_err (HE.out.kept HB3.out) (i := 10) (by omega)))
        rw [show (((101 + 10 : Nat) : Int) == 111) = true by decide] at HI
        clear hb3 HDN f0 f1 f2 f3 HF2
        go_wp2_with fail
        refine HI.out.mono ?_
        rintro e w4 ⟨rfl, hb4⟩
        have HB4 := Lib.hid (HB3.out.trans (hb4.mono HB3.out.size))
        clear hb4 HI
        go_wp2_with fail
        go_ret
        exact ⟨rfl, HB4.out⟩
    · go_wp2_with fail
      go_ret
      exact ⟨rfl, HB1.out⟩
  · go_wp2_with fail
    go_ret
    exact ⟨rfl, HB1.out⟩
end Go.Proofs.YtefdkbdblocikaaDoor
