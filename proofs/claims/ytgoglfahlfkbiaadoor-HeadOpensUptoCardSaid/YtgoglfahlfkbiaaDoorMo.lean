/-
  THE LAW HeadMore: the walk.
-/
import Derived.Test.YtgoglfahlfkbiaaDoorMe
namespace Go.Proofs.YtgoglfahlfkbiaaDoor
open Go.RowKit Tt

theorem NOwn.own' {w : World} {B : Nat} {a : Option Addr} {N c : Nat} {l : List Hn} (h : NOwn w B (.slice a N c) l) : Ns w a N c l := by
  obtain ⟨a', c', he, hs⟩ := h.ns
  cases he
  exact hs
theorem sm_one {gn gv : ByteArray} {gb : Bool} (h1 : gn.size ≤ 140737488355328) (h2 : gv.size ≤ 140737488355328) : Sm [((gn, gv), gb)] := fun i hi => by
  obtain rfl : i = 0 := by simpa using hi
  exact ⟨h1, h2⟩
theorem sm_snoc {L : List Hn} {gn gv : ByteArray} {gb : Bool} (h : Sm L) (h1 : gn.size ≤ 140737488355328) (h2 : gv.size ≤ 140737488355328) : Sm (L ++ [((gn, gv), gb)]) := fun i hi => by
  by_cases hl : i < L.length
  · rw [List.getElem_append_left hl]
    exact h i hl
  · have e : i = L.length := by simp at hi; omega
    subst e
    simp only [List.getElem_append_right (Nat.le_refl _), Nat.sub_self, List.getElem_cons_zero]
    exact ⟨h1, h2⟩
theorem pre_at (s : ByteArray) (h : 0 < s.size) : pre1 58 s = decide (s[0] = 58) := by
  obtain ⟨⟨l⟩⟩ := s
  cases l with
  | nil => exact absurd h (by decide)
  | cons c l =>
    show Lib.hasPrefix (c :: l) [58] = decide (c = 58)
    unfold Lib.hasPrefix
    by_cases e : c = 58
    · subst e; simp
    · have e' : ((58 : UInt8) == c) = false := by rw [beq_eq_false_iff_ne]; exact fun h => e h.symm
      show ((58 : UInt8) == c && [].isPrefixOf l) = decide (c = 58)
      rw [e', decide_eq_false e]
      rfl
theorem pre_yes {s : ByteArray} (h : pre1 58 s = true) : ∃ h0 : 0 < s.size, s[0] = 58 := by
  by_cases h0 : 0 < s.size
  · rw [pre_at s h0] at h
    exact ⟨h0, of_decide_eq_true h⟩
  · exfalso
    obtain ⟨⟨l⟩⟩ := s
    cases l with
    | nil => revert h; decide
    | cons c l => exact h0 (by simp [ByteArray.size])
def Yes (w : World) (e : Ending) (w' : World) : Prop := e = .returned (.bool true) ∧ Below w.heap.size w w'
set_option maxRecDepth 100000 in
set_option maxHeartbeats 1000000 in
theorem more_any (a : Option Addr) (n c : Nat) (L : List Hn) (gn gv : ByteArray) (gb : Bool) (w : World) (hs : Ns w a n c L) (hm : Sm L) (h1 : gn.size ≤ 140737488355328) (h2 : gv.size ≤ 140737488355328) (ea : Addr)
    (hE : w.cell? ⟨0, 0, none⟩ = some (errV ea)) :
    Calls Tryd.prog 7 #[.slice a n c, .agg #[.string gn, .string gv, .bool gb]] w (Yes w) := by
  have hge := cell_lt hE
  simp only at hge
  have hb0 : Below w.heap.size w (w.alloc (.cells #[.string gn, .string gv, .bool gb] 54)) := (Below.refl _ w).alloc (Nat.le_refl _) _
  have p0 : (w.alloc (.cells #[.string gn, .string gv, .bool gb] 54)).cell? ⟨w.heap.size, 0, none⟩ = some (.string gn) := by simp
  have p1 : (w.alloc (.cells #[.string gn, .string gv, .bool gb] 54)).cell? ⟨w.heap.size, 1, none⟩ = some (.string gv) := by simp
  have p2 : (w.alloc (.cells #[.string gn, .string gv, .bool gb] 54)).cell? ⟨w.heap.size, 2, none⟩ = some (.bool gb) := by simp
  have hz0 : w.heap.size < (w.alloc (.cells #[.string gn, .string gv, .bool gb] 54)).heap.size := by simp
  generalize hw0 : w.alloc (.cells #[.string gn, .string gv, .bool gb] 54) = w0 at hb0 p0 p1 p2 hz0
  have HF := Lib.hid (first_any w0 ea ((hb0.cell (p := ⟨0, 0, none⟩) hge).trans hE))
  have HW0 := Lib.hid hw0
  have HB0 := Lib.hid hb0
  have HS := Lib.hid hs
  have HM := Lib.hid hm
  have HE := Lib.hid hE
  have P0 := Lib.hid p0
  have P1 := Lib.hid p1
  have P2 := Lib.hid p2
  clear hw0 hb0 hs hm hE p0 p1 p2
  go_enter Tryd.func7, Tryd.ntmps7
  go_upto_region 1 with fail
  rw [HW0.out]
  go_wp2_with fail
  refine HF.out.mono ?_
  rintro e w1 ⟨rfl, hb1⟩
  have hB1 : Below w.heap.size w w1 := HB0.out.trans (hb1.mono (by omega))
  have HB1 := Lib.hid hB1
  have HQ1 := Lib.hid (show Below w0.heap.size w0 w1 from hb1)
  have HLI := Lib.hid (light_any a n c L w1 (HS.out.kept hB1) HM.out)
  clear hb1 hB1 HF HW0 HB0
  go_wp2_with fail
  refine HLI.out.mono ?_
  rintro e w2 ⟨r, rfl, hr, hb2⟩
  have hz1 := HB1.out.size
  have hB2 : Below w.heap.size w w2 := HB1.out.trans (hb2.mono hz1)
  have hq2 : Below w0.heap.size w0 w2 := HQ1.out.trans (hb2.mono HQ1.out.size)
  have p0 := (hq2.cell (p := ⟨w.heap.size, 0, none⟩) hz0).trans P0.out
  have p1 := (hq2.cell (p := ⟨w.heap.size, 1, none⟩) hz0).trans P1.out
  have p2 := (hq2.cell (p := ⟨w.heap.size, 2, none⟩) hz0).trans P2.out
  have hz2 := hB2.size
  have hz3 : w.heap.size < w2.heap.size := by have := hq2.size; omega
  have HB2 := Lib.hid hB2
  clear hb2 hB2 hq2 HLI HB1 HQ1 P0 P1 P2 hz0 hz1
  cases r with
  | false =>
    go_wp2_with fail
    go_ret
    exact ⟨rfl, HB2.out⟩
  | true =>
    have hn := hr rfl
    clear hr
    by_cases h0 : n = 0
    · subst h0
      go_wp2_with fail
      go_ret
      exact ⟨rfl, HB2.out⟩
    · have hn0 : ((n : Int) == 0) = false := by rw [beq_eq_false_iff_ne]; omega
      by_cases h3 : gn.size + gv.size ≤ 3000
      · have h30 : decide ((3000 : Int) < (gn.size : Int) + (gv.size : Int)) = false := decide_eq_false (by omega)
        go_upto_region 4 with fail
        refine wp_region_lat mixed (fun ls x W => ∃ b0 b1 b2 b3 b4 b5 b6 v6 v44 v45 v46 v47 v48 v49, ls = #[b0, b1, b2, b3, b4, b5, b6] ∧ x = frM a n c gn gv gb w.heap.size v6 v44 v45 v46 v47 v48 v49 ∧ MI w2.heap.size w2 a n c L ((gn, gv), gb) b0 b1 b2 b3 b4 b5 b6 v6 v44 v45 v46 v47 v48 v49 W) ?_ ?_ ?_
        · exact ⟨_, _, _, _, _, _, _, _, _, _, _, _, _, _, rfl, rfl, MI.start (Below.refl _ _).drew⟩
        · intro ls x W hI hr
          obtain ⟨b0, b1, b2, b3, b4, b5, b6, v6, v44, v45, v46, v47, v48, v49, rfl, rfl, hI⟩ := hI
          have hall := all_on (by kernel_rfl) rfl hr
          have e5 : b5 = true := hall 5 (by decide)
          have e6 : b6 = true := hall 6 (by decide)
          have hv := hI.c6 e6
          obtain ⟨a6, N6, c6, e49, hN6, ho6⟩ := hI.c5 e5
          subst hv
          subst e49
          have HB6 : Hid (Below w2.heap.size w2 W) := Lib.hid hI.bl
          have HO6 := Lib.hid ho6
          have hbw := hI.bl
          have q0 := (hbw.cell (p := ⟨w.heap.size, 0, none⟩) hz3).trans p0
          have q1 := (hbw.cell (p := ⟨w.heap.size, 1, none⟩) hz3).trans p1
          have q2 := (hbw.cell (p := ⟨w.heap.size, 2, none⟩) hz3).trans p2
          have hzW : w.heap.size < W.heap.size := Nat.lt_of_lt_of_le hz3 hbw.size
          have hBWw : Below w.heap.size w W := HB2.out.trans (hbw.mono hz2)
          have HBW := Lib.hid hBWw
          have HSW := Lib.hid ((HS.out.kept HB2.out).kept hbw)
          have HGW := Lib.hid (NOwn.own' ho6)
          have HEW := Lib.hid ((hBWw.cell (p := ⟨0, 0, none⟩) hge).trans HE.out)
          have hgeW : 0 < W.heap.size := Nat.lt_of_lt_of_le hge hBWw.size
          have HS' : Hid (L.length = n) := Lib.hid HS.out.len
          have HMG : Hid (Sm [((gn, gv), gb)]) := Lib.hid (sm_one h1 h2)
          have HMS : Hid (Sm (L ++ [((gn, gv), gb)])) := Lib.hid (sm_snoc HM.out h1 h2)
          have HN6 := hN6
          have hL60 : L.length ≤ 60 := by rw [HS.out.len]; exact hn
          have hN61 : N6 ≤ 100000 := by have := HN6.out; simp only [List.length_append, List.length_cons, List.length_nil] at this; omega
          have HT5 := Lib.hid (trail_o (some ⟨W.heap.size, 0, none⟩) 1 1 [((gn, gv), gb)] (W.alloc (.cells #[.string gn, .string gv, .bool gb] 54)) (ns_new1 W ((gn, gv), gb)) HMG.out ea ((((Below.refl _ W).alloc (Nat.le_refl _) _).cell (p := ⟨0, 0, none⟩) hgeW).trans HEW.out))
          have hbx : Below W.heap.size W (W.alloc (.cells #[.string gn, .string gv, .bool gb] 54)) := (Below.refl _ W).alloc (Nat.le_refl _) _
          generalize hwx : W.alloc (.cells #[.string gn, .string gv, .bool gb] 54) = wx at HT5 hbx
          have HWX := Lib.hid hwx
          have HBX := Lib.hid hbx
          have hqn := eq_nil ea
          have hqg := gd_eq ea
          rename_i K hKK
          refine hKK _ _ ?_
          unfold frM
          clear hI hall hr e5 e6 ho6 hbw hBWw hwx hbx p0 p1 p2 HB2 hz3 hz2 HS HE hn0 h30 h0
          go_wp2_with fail
          rw [HWX.out]
          refine HT5.out.mono ?_
          rintro e w5 ⟨rfl, hb5⟩
          have hbk5 : Below W.heap.size W w5 := HBX.out.trans (hb5.mono HBX.out.size)
          have HO5 := Lib.hid (open_o a n c L w5 (HSW.out.kept hbk5) HM.out (by omega) ea ((hbk5.cell (p := ⟨0, 0, none⟩) hgeW).trans HEW.out))
          have HK5 := Lib.hid hbk5
          have HQ0 := Lib.hid q0
          have HQ1 := Lib.hid q1
          clear hb5 hbk5 HT5 HBX HWX q0 q1 q2
          go_wp2_with fail
          refine HO5.out.mono ?_
          rintro e w6 ⟨⟨x6a, x6b, x6c, x6d, a6x, N6x, c6x, rfl⟩, hb6⟩
          have hbk6 : Below W.heap.size W w6 := HK5.out.trans (hb6.mono HK5.out.size)
          have hbb6 : Below W.heap.size W (w6.alloc (.cells #[.string x6a, .string x6b, .string x6c, .string x6d, .slice a6x N6x c6x] 27)) := hbk6.alloc hbk6.size _
          go_upto_region 7 with fail
          generalize w6.alloc (.cells #[.string x6a, .string x6b, .string x6c, .string x6d, .slice a6x N6x c6x] 27) = u6 at hbb6 ⊢
          have HK6 := Lib.hid hbb6
          clear hb6 hbk6 HO5 HK5 hbb6
          have HO6 := Lib.hid (open_o a6 N6 c6 (L ++ [((gn, gv), gb)]) u6 (HGW.out.kept HK6.out) HMS.out hN61 ea ((HK6.out.cell (p := ⟨0, 0, none⟩) hgeW).trans HEW.out))
          go_wp2_with fail
          refine HO6.out.mono ?_
          rintro e w7 ⟨⟨x7a, x7b, x7c, x7d, a7x, N7x, c7x, rfl⟩, hb7⟩
          have hbk7 : Below W.heap.size W w7 := HK6.out.trans (hb7.mono HK6.out.size)
          have hbb7 : Below W.heap.size W (w7.alloc (.cells #[.string x7a, .string x7b, .string x7c, .string x7d, .slice a7x N7x c7x] 27)) := hbk7.alloc hbk7.size _
          go_upto_region 8 with fail
          generalize w7.alloc (.cells #[.string x7a, .string x7b, .string x7c, .string x7d, .slice a7x N7x c7x] 27) = u7 at hbb7 ⊢
          have HK7 := Lib.hid hbb7
          clear hb7 hbk7 HO6 HK6 hbb7
          have HO7 := Lib.hid (openA_o a n c L u7 (HSW.out.kept HK7.out) HM.out (by omega) ea ((HK7.out.cell (p := ⟨0, 0, none⟩) hgeW).trans HEW.out))
          go_wp2_with fail
          refine HO7.out.mono ?_
          rintro e w8 ⟨⟨x8a, a8x, N8x, c8x, rfl⟩, hb8⟩
          have hbk8 : Below W.heap.size W w8 := HK7.out.trans (hb8.mono HK7.out.size)
          have hbb8 : Below W.heap.size W (w8.alloc (.cells #[.int .i64 x8a, .slice a8x N8x c8x] 36)) := hbk8.alloc hbk8.size _
          go_upto_region 9 with fail
          generalize w8.alloc (.cells #[.int .i64 x8a, .slice a8x N8x c8x] 36) = u8 at hbb8 ⊢
          have HK8 := Lib.hid hbb8
          clear hb8 hbk8 HO7 HK7 hbb8
          have HO8 := Lib.hid (openA_o a6 N6 c6 (L ++ [((gn, gv), gb)]) u8 (HGW.out.kept HK8.out) HMS.out hN61 ea ((HK8.out.cell (p := ⟨0, 0, none⟩) hgeW).trans HEW.out))
          go_wp2_with fail
          refine HO8.out.mono ?_
          rintro e w9 ⟨⟨x9a, a9x, N9x, c9x, rfl⟩, hb9⟩
          have hbk9 : Below W.heap.size W w9 := HK8.out.trans (hb9.mono HK8.out.size)
          have hbb9 : Below W.heap.size W (w9.alloc (.cells #[.int .i64 x9a, .slice a9x N9x c9x] 36)) := hbk9.alloc hbk9.size _
          go_upto_region 10 with fail
          generalize w9.alloc (.cells #[.int .i64 x9a, .slice a9x N9x c9x] 36) = u9 at hbb9 ⊢
          have HK9 := Lib.hid hbb9
          clear hb9 hbk9 HO8 HK8 hbb9
          have HO9 := Lib.hid (trail_o a n c L u9 (HSW.out.kept HK9.out) HM.out ea ((HK9.out.cell (p := ⟨0, 0, none⟩) hgeW).trans HEW.out))
          go_wp2_with fail
          refine HO9.out.mono ?_
          rintro e w10 ⟨rfl, hb10⟩
          have hbb10 : Below W.heap.size W w10 := HK9.out.trans (hb10.mono HK9.out.size)
          have HK10 := Lib.hid hbb10
          clear hb10 HO9 HK9 hbb10
          have HO10 := Lib.hid (trail_o a6 N6 c6 (L ++ [((gn, gv), gb)]) w10 (HGW.out.kept HK10.out) HMS.out ea ((HK10.out.cell (p := ⟨0, 0, none⟩) hgeW).trans HEW.out))
          go_wp2_with fail
          refine HO10.out.mono ?_
          rintro e w11 ⟨rfl, hb11⟩
          have hbb11 : Below W.heap.size W w11 := HK10.out.trans (hb11.mono HK10.out.size)
          have HK11 := Lib.hid hbb11
          clear hb11 HO10 HK10 hbb11
          have q0 := (HK11.out.cell (p := ⟨w.heap.size, 0, none⟩) hzW).trans HQ0.out
          have q1 := (HK11.out.cell (p := ⟨w.heap.size, 1, none⟩) hzW).trans HQ1.out
          have HBF : Hid (Below w.heap.size w w11) := Lib.hid (HBW.out.trans (HK11.out.mono HBW.out.size))
          have hP : trailB [((gn, gv), gb)] = plainB (gn, gv) := by simp [trailB]
          have hR := openR_snoc (L := L) ((gn, gv), gb)
          have hA := openA_snoc (L := L) ((gn, gv), gb)
          have hT := trailB_snoc L ((gn, gv), gb)
          have hC := colon_no (x := (gn, gv))
          rw [hP]
          simp only at hR hA hT hC
          have hLn := HS'.out
          rw [hLn] at hR
          generalize plainB (gn, gv) = P at hR hA hT hC ⊢
          generalize (openR L).isSome = R0 at hR ⊢
          generalize (openR (L ++ [((gn, gv), gb)])).isSome = R1 at hR ⊢
          generalize (openA L).isSome = A0 at hA ⊢
          generalize (openA (L ++ [((gn, gv), gb)])).isSome = A1 at hA ⊢
          generalize trailB L = T0 at hT ⊢
          generalize trailB (L ++ [((gn, gv), gb)]) = T1 at hT ⊢
          subst hT
          have hqm := ne_nil ea
          have hqh := gd_ne ea
          clear hP hLn HK11 HBW HSW HGW HEW HMG HMS HM hL60 hN61 hge hgeW hzW HS' HQ0 HQ1
          by_cases hp : pre1 58 gn = true
          · obtain ⟨hg0, hg1⟩ := pre_yes hp
            have hP := hC hp
            subst hP
            have hgz : (0 : Int) < (gn.size : Int) := by omega
            clear hC hp h3
            cases R0 with
            | false =>
              cases A0 with
              | false => cases T0 <;> (go_wp2_with fail) <;> go_ret <;> exact ⟨rfl, HBF.out⟩
              | true =>
                have e := hA rfl
                subst e
                cases T0 <;> (go_wp2_with fail) <;> go_ret <;> exact ⟨rfl, HBF.out⟩
            | true =>
              rcases hR rfl with e | ⟨_, hl⟩
              · subst e
                cases A0 with
                | false => cases T0 <;> (go_wp2_with fail) <;> go_ret <;> exact ⟨rfl, HBF.out⟩
                | true =>
                  have e := hA rfl
                  subst e
                  cases T0 <;> (go_wp2_with fail) <;> go_ret <;> exact ⟨rfl, HBF.out⟩
              · have hl4 : (n : Int) ≤ 4 := by omega
                clear hl
                cases R1 with
                | false =>
                  cases A0 with
                  | false => cases T0 <;> (go_wp2_with fail) <;> go_ret <;> exact ⟨rfl, HBF.out⟩
                  | true =>
                    have e := hA rfl
                    subst e
                    cases T0 <;> (go_wp2_with fail) <;> go_ret <;> exact ⟨rfl, HBF.out⟩
                | true =>
                  cases A0 with
                  | false => cases T0 <;> (go_wp2_with fail) <;> go_ret <;> exact ⟨rfl, HBF.out⟩
                  | true =>
                    have e := hA rfl
                    subst e
                    cases T0 <;> (go_wp2_with fail) <;> go_ret <;> exact ⟨rfl, HBF.out⟩
          · have hR' : R0 = true → R1 = P := fun h => by
              rcases hR h with e | ⟨e, _⟩
              · exact e
              · exact absurd e hp
            clear hR hC h3
            by_cases hg0 : 0 < gn.size
            · have hg1 : gn[0] ≠ 58 := fun e => hp (by rw [pre_at gn hg0]; exact decide_eq_true e)
              have hg2 : ((gn[0].toNat : Int) == 58) = false := by
                rw [beq_eq_false_iff_ne]
                intro e
                apply hg1
                apply UInt8.toNat_inj.1
                have : gn[0].toNat = 58 := by omega
                exact this
              have hgz : (0 : Int) < (gn.size : Int) := by omega
              clear hg1 hp
              cases P with
              | false =>
                cases R0 with
                | false =>
                  cases A0 with
                  | false => cases T0 <;> (go_wp2_with fail) <;> go_ret <;> exact ⟨rfl, HBF.out⟩
                  | true =>
                    have e := hA rfl
                    subst e
                    cases T0 <;> (go_wp2_with fail) <;> go_ret <;> exact ⟨rfl, HBF.out⟩
                | true =>
                  have e := hR' rfl
                  subst e
                  cases A0 with
                  | false => cases T0 <;> (go_wp2_with fail) <;> go_ret <;> exact ⟨rfl, HBF.out⟩
                  | true =>
                    have e := hA rfl
                    subst e
                    cases T0 <;> (go_wp2_with fail) <;> go_ret <;> exact ⟨rfl, HBF.out⟩
              | true =>
                cases R0 with
                | false =>
                  cases A0 with
                  | false => cases T0 <;> (go_wp2_with fail) <;> go_ret <;> exact ⟨rfl, HBF.out⟩
                  | true =>
                    have e := hA rfl
                    subst e
                    cases T0 <;> (go_wp2_with fail) <;> go_ret <;> exact ⟨rfl, HBF.out⟩
                | true =>
                  have e := hR' rfl
                  subst e
                  cases A0 with
                  | false => cases T0 <;> (go_wp2_with fail) <;> go_ret <;> exact ⟨rfl, HBF.out⟩
                  | true =>
                    have e := hA rfl
                    subst e
                    cases T0 <;> (go_wp2_with fail) <;> go_ret <;> exact ⟨rfl, HBF.out⟩
            · have hgz : decide ((0 : Int) < (gn.size : Int)) = false := decide_eq_false (by omega)
              clear hg0 hp
              cases P with
              | false =>
                cases R0 with
                | false =>
                  cases A0 with
                  | false => cases T0 <;> (go_wp2_with fail) <;> go_ret <;> exact ⟨rfl, HBF.out⟩
                  | true =>
                    have e := hA rfl
                    subst e
                    cases T0 <;> (go_wp2_with fail) <;> go_ret <;> exact ⟨rfl, HBF.out⟩
                | true =>
                  have e := hR' rfl
                  subst e
                  cases A0 with
                  | false => cases T0 <;> (go_wp2_with fail) <;> go_ret <;> exact ⟨rfl, HBF.out⟩
                  | true =>
                    have e := hA rfl
                    subst e
                    cases T0 <;> (go_wp2_with fail) <;> go_ret <;> exact ⟨rfl, HBF.out⟩
              | true =>
                cases R0 with
                | false =>
                  cases A0 with
                  | false => cases T0 <;> (go_wp2_with fail) <;> go_ret <;> exact ⟨rfl, HBF.out⟩
                  | true =>
                    have e := hA rfl
                    subst e
                    cases T0 <;> (go_wp2_with fail) <;> go_ret <;> exact ⟨rfl, HBF.out⟩
                | true =>
                  have e := hR' rfl
                  subst e
                  cases A0 with
                  | false => cases T0 <;> (go_wp2_with fail) <;> go_ret <;> exact ⟨rfl, HBF.out⟩
                  | true =>
                    have e := hA rfl
                    subst e
                    cases T0 <;> (go_wp2_with fail) <;> go_ret <;> exact ⟨rfl, HBF.out⟩
        · intro ls x W i hI hi
          obtain ⟨b0, b1, b2, b3, b4, b5, b6, v6, v44, v45, v46, v47, v48, v49, rfl, rfl, hI⟩ := hI
          obtain ⟨hun, o, ho, hall⟩ := mem_ready.1 hi
          have hi7 : i < 7 := (Array.getElem?_eq_some_iff.1 ho).1
          have hic : i = 0 ∨ i = 1 ∨ i = 2 ∨ i = 3 ∨ i = 4 ∨ i = 5 ∨ i = 6 := by omega
          have hBW : w2.heap.size ≤ W.heap.size := hI.bl.size
          have hsW := (HS.out.kept HB2.out).kept hI.bl
          have q0 := (hI.bl.cell (p := ⟨w.heap.size, 0, none⟩) hz3).trans p0
          have q1 := (hI.bl.cell (p := ⟨w.heap.size, 1, none⟩) hz3).trans p1
          have q2 := (hI.bl.cell (p := ⟨w.heap.size, 2, none⟩) hz3).trans p2
          rcases hic with rfl | rfl | rfl | rfl | rfl | rfl | rfl
          · have ho' : some _ = some o := ho
            cases ho'
            have e : b0 = false := hun
            subst e
            obtain ⟨i0, hi0, hz0, hz1, hz2'⟩ := info_parts infoN
            obtain ⟨W', hrun, r1, r2⟩ := run_make_own (P := Tryd.prog) W w2.heap.size 22 54 i0 (.agg #[.string ⟨#[]⟩, .string ⟨#[]⟩, .bool false]) 3 Tryd.underlying22 hi0 hz0 hz1 .i64 .i64 64 (by rw [hz2']; omega) (by unfold maxLen; omega) hBW
            have hf := hI.made hBW r1 ((Below.refl _ W).grown r2 (Nat.le_refl _) (fun k hk => by cases hk))
            exact wpOp_step rfl fun K' hK' => by
              rw [if_pos (by simp [Region.wanted])]
              refine wp_val (v := .slice (some ⟨W.heap.size, 0, none⟩) 0 64) (w' := W') ?_ (hK' _ _ ⟨_, _, _, _, _, _, _, _, _, _, _, _, _, _, rfl, rfl, hf⟩)
              rw [show ((64 : Nat) : Int) = 64 from rfl] at hrun
              simp [execOp, Act.eval, hrun, Result.andThen]
          · have ho' : some _ = some o := ho
            cases ho'
            have e : b1 = false := hun
            subst e
            exact wpOp_step rfl fun K' hK' => by
              rw [if_pos (by simp [Region.wanted])]
              refine wp_val (v := .slice a n c) (w' := W) ?_ (hK' _ _ ⟨_, _, _, _, _, _, _, _, _, _, _, _, _, _, rfl, rfl, hI.moved⟩)
              simp [execOp, Act.eval, frM, go_sem]
          · have ho' : some _ = some o := ho
            cases ho'
            have e : b2 = false := hun
            have d0 : b0 = true := hall ⟨0, .data⟩ (by simp) rfl
            have d1 : b1 = true := hall ⟨1, .data⟩ (by simp) rfl
            subst e d0 d1
            have h45 := hI.c1 rfl
            subst h45
            exact wpOp_step rfl fun K' hK' => by
              refine step_append_n rfl _ _ rfl v44 [] L rfl w2.heap.size (hI.c0 rfl rfl) a n c rfl hsW (by simp; omega) hBW ?_
              intro W' ad N cc hN hown hb hk
              exact hK' _ _ ⟨_, _, _, _, _, _, _, _, _, _, _, _, _, _, rfl, rfl, hI.app1 hown hb hk⟩
          · have ho' : some _ = some o := ho
            cases ho'
            have e : b3 = false := hun
            subst e
            exact wpOp_step rfl fun K' hK' => by
              rw [if_pos (by simp [Region.wanted])]
              refine wp_val (v := .agg #[.string gn, .string gv, .bool gb]) (w' := W) ?_ (hK' _ _ ⟨_, _, _, _, _, _, _, _, _, _, _, _, _, _, rfl, rfl, hI.loaded⟩)
              simp [execOp, Act.eval, frM, go_sem, q0, q1, q2]
          · have ho' : some _ = some o := ho
            cases ho'
            have e : b4 = false := hun
            have d3 : b3 = true := hall ⟨3, .data⟩ (by simp) rfl
            subst e
            have h47 := hI.c3 d3
            subst h47
            exact wpOp_step rfl fun K' hK' => by
              rw [if_pos (by simp [Region.wanted])]
              refine wp_val (v := .slice (some ⟨W.heap.size, 0, none⟩) 1 1) (w' := W.alloc (.cells #[.string gn, .string gv, .bool gb] 54)) ?_ (hK' _ _ ⟨_, _, _, _, _, _, _, _, _, _, _, _, _, _, rfl, rfl, hI.built hBW⟩)
              simp [execOp, Act.eval, frM, go_sem]
          · have ho' : some _ = some o := ho
            cases ho'
            have e : b5 = false := hun
            have d2 : b2 = true := hall ⟨2, .data⟩ (by simp) rfl
            have d4 : b4 = true := hall ⟨4, .data⟩ (by simp) rfl
            subst e d2 d4
            obtain ⟨q, h48, hq, _, _⟩ := hI.c4 rfl rfl
            subst h48
            exact wpOp_step rfl fun K' hK' => by
              refine step_append_n rfl _ _ rfl v46 L [((gn, gv), gb)] rfl w2.heap.size (hI.c2 rfl rfl) (some ⟨q, 0, none⟩) 1 1 rfl hq (by have := HS.out.len; omega) hBW ?_
              intro W' ad N cc hN hown hb hk
              exact hK' _ _ ⟨_, _, _, _, _, _, _, _, _, _, _, _, _, _, rfl, rfl, hI.app2 hN hown hb⟩
          · have ho' : some _ = some o := ho
            cases ho'
            have e : b6 = false := hun
            have d5 : b5 = true := hall ⟨5, .data⟩ (by simp) rfl
            subst e d5
            exact wpOp_step rfl fun K' hK' => by
              rw [if_pos (by simp [Region.wanted])]
              refine wp_val (v := v49) (w' := W) ?_ (hK' _ _ ⟨_, _, _, _, _, _, _, _, _, _, _, _, _, _, rfl, rfl, hI.assigned⟩)
              simp [execOp, Act.eval, frM, go_sem]
      · have h30 : decide ((3000 : Int) < (gn.size : Int) + (gv.size : Int)) = true := decide_eq_true (by omega)
        clear h3
        go_wp2_with fail
        all_goals go_ret
        all_goals exact ⟨rfl, HB2.out⟩
end Go.Proofs.YtgoglfahlfkbiaaDoor
