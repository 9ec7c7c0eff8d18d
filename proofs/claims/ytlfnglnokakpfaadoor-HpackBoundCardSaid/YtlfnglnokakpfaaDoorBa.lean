/-
  THE LAW HpackBound: the walk.
-/
import Derived.Test.YtlfnglnokakpfaaDoorRb
import Derived.Test.YtlfnglnokakpfaaDoorBo
namespace Go.Proofs.YtlfnglnokakpfaaDoor
open Go.RowKit Tt Hu Hu.Hf

theorem neq_same (p : Addr) (w : World) : (binOp .neq 29 (.iface 181 (.pointer (some p))) (.iface 181 (.pointer (some p)))).run Tryd.prog w = .ok (.bool false) w := by
  obtain ⟨i, hi, hc⟩ := Option.map_eq_some_iff.1 infoP
  obtain ⟨j, hj, _⟩ := Option.map_eq_some_iff.1 infoT
  simp only [binOp]
  simp [Op.equal, Op.maxDepth, run_equalIn_iface_ptr_same w 9998 p Tryd.underlying29 Tryd.underlying181 hi hc hj]
theorem Dead.kept {w w' : World} {d k : Nat} (h : Dead w d k) (hb : Below w.heap.size w w') : Dead w' d k :=
  ⟨(hb.cell (Hu.cell_lt h.c0)).trans h.c0, (hb.cell (Hu.cell_lt h.c2)).trans h.c2⟩
theorem decLen_dead {w : World} {d k : Nat} (h : Dead w d k) : Calls Tryd.prog 38 #[.pointer (some ⟨d, 0, none⟩)] w fun e w' => e = .returned (.int .i64 (k : Int)) ∧ w = w' := by
  have c2 := h.c2
  go_enter Tryd.func38, Tryd.ntmps38
  go_wp2
  go_ret
  exact ⟨rfl, rfl⟩
theorem ns_none (w : World) : Ns w none 0 0 [] := ⟨rfl, Nat.le_refl _, by unfold maxLen; omega, fun _ => rfl, fun i hi => by simp at hi⟩
def BdRel (limit n d A : Nat) (w : World) (s8 s9 : Value) (wr : World) : Prop := ∃ (i : Nat) (gone : Bool), s9 = .int .i64 (i : Int) ∧ s8 = .bool gone ∧ i ≤ n ∧ Below w.heap.size w wr ∧ ((gone = true ∧ ∃ k, Dead wr d k ∧ k * 32 ≤ limit) ∨ (gone = false ∧ ∃ m M, Dc wr d A limit m M ∧ m ≤ limit))

set_option maxRecDepth 100000 in
set_option maxHeartbeats 4000000 in
theorem bound_any (es : Nat → Addr) (x : Int) (a : Option Addr) (n c : Nat) (L : List Rw) (w : World) (S : Env w (errT es)) (hs : Ls w a n c L) :
    Calls Tryd.prog 9 #[.int .i64 x, .slice a n c] w fun e w' => e = .returned (.bool true) ∧ Below w.heap.size w w' := by
  have hle := hs.le
  have hm := hs.max
  unfold maxLen at hm
  have HS := Lib.hid hs
  have HLN := Lib.hid hs.len
  have HE := Lib.hid S
  have HF := Lib.hid (first_any (errT es) w S (errsT es))
  have hg := S.lt
  clear hs S
  by_cases hn : n ≤ 20
  · by_cases hx0 : x < 0
    · go_enter Tryd.func9, Tryd.ntmps9
      go_wp2_with fail
      refine HF.out.mono ?_
      rintro e w1 ⟨rfl, hb1⟩
      go_wp2_with fail
      go_ret
      exact ⟨rfl, hb1⟩
    · by_cases hx1 : 4096 < x
      · go_enter Tryd.func9, Tryd.ntmps9
        go_wp2_with fail
        refine HF.out.mono ?_
        rintro e w1 ⟨rfl, hb1⟩
        go_wp2_with fail
        go_ret
        exact ⟨rfl, hb1⟩
      · obtain ⟨limit, rfl⟩ : ∃ m : Nat, x = (m : Int) := ⟨x.toNat, by omega⟩
        have hlim : limit ≤ 4096 := by omega
        clear hx0 hx1
        go_enter Tryd.func9, Tryd.ntmps9
        go_wp2_with fail
        refine HF.out.mono ?_
        rintro e w1 ⟨rfl, hb1⟩
        have hz1 := hb1.size
        go_wp2_with fail
        refine (newDec_yes limit hlim w1 (fun g hm => by have := hg g hm; omega)).mono ?_
        rintro e w2 ⟨d, A, rfl, hD, hA, hb2⟩
        have hB2 : Below w.heap.size w w2 := hb1.trans (hb2.mono hz1)
        have hAd := hD.ne
        have HD := Lib.hid hD
        have HAW : Hid (w.heap.size ≤ A) := Lib.hid (by omega)
        clear hb1 hb2 hD hA hz1 hg
        go_wp2_with fail
        go_loopw [8, 9] (fun s8 s9 wr => BdRel limit n d A w s8 s9 wr) (fun _ s9 _ => n - (intOf s9).toNat)
        case atStart => exact ⟨0, false, rfl, rfl, by omega, hB2, Or.inr ⟨rfl, limit, [], HD.out, Nat.le_refl _⟩⟩
        case round =>
          obtain ⟨i, gone, rfl, rfl, hi, hB, hst⟩ := hrel
          clear hB2
          by_cases hlt : i < n
          · obtain ⟨⟨b, o, rfl, hc⟩, hsl⟩ := (HS.out.kept hB).row i (by rw [HLN.out]; exact hlt)
            have hat := sl_at (HS.out.row i (by rw [HLN.out]; exact hlt)).2
            generalize L[i]'(by rw [HLN.out]; exact hlt) = R at hc hsl hat
            obtain ⟨ra, rn, rc, rl⟩ := R
            simp only at hc hsl hat
            have hr9 := hsl.nine
            have hia : (0 : Int) ≤ (i : Int) := by omega
            have hib : (i : Int) < (n : Int) := by omega
            by_cases hr : rn ≤ 300
            · rcases hst with ⟨rfl, k, hk, hkl⟩ | ⟨rfl, m, M, hDc, hml⟩
              · have HDG := Lib.hid (decode_gone (errT es) d (.slice ra rn rc) wr hk (HE.out.kept hB) (errsT es))
                have HK := Lib.hid hk
                have hcg := (HE.out.kept hB).c115
                have HCG := Lib.hid hcg
                have HNE := Lib.hid (neq_same (es (115 - 101)))
                clear hcg hk
                go_wp2_with fail
                refine HDG.out.mono ?_
                rintro e w3 ⟨rfl, hb3⟩
                have hcg := (hb3.cell (Hu.cell_lt HCG.out)).trans HCG.out
                have hne := HNE.out
                have hB3 : Below w.heap.size w w3 := hB.trans (hb3.mono hB.size)
                have HDD := Lib.hid (decLen_dead (HK.out.kept hb3))
                have HSL := Lib.hid (sizeL_any none 0 0 [] w3 (ns_none _) (by simp [sumN]))
                have hsz0 : sumN [] = 0 := rfl
                have HK3 := Lib.hid (HK.out.kept hb3)
                clear hc HDG hb3
                simp only [errT] at hcg ⊢
                go_wp2_with fail
                refine HDD.out.mono ?_
                rintro e w' ⟨rfl, rfl⟩
                clear hcg hne
                go_wp2_with fail
                refine HSL.out.mono ?_
                rintro e w4 ⟨rfl, hb4⟩
                rw [hsz0]
                go_wp2_with fail
                refine ⟨⟨i + 1, true, by go_num, rfl, by omega, hB3.trans (hb4.mono hB3.size), Or.inl ⟨rfl, k, HK3.out.kept hb4, hkl⟩⟩, by simp [intOf]; omega⟩
              · have hbd := allS_bd limit rl.length (start rl m M)
                have hAdw := HAW.out
                have hzB := hB.size
                have HDA := Lib.hid (decode_alive (errT es) d A limit m M ra rn rc rl wr hDc hsl (by omega) (fun p hp h0 => by have := hat p hp h0; exact ⟨by omega, by omega⟩) (HE.out.kept hB) (errsT es))
                have hMl : M.length * 32 ≤ limit := by have h1 := total_ge M; have h2 := hDc.has.total_le; omega
                have hAd' : A < d := hDc.ne
                clear hDc hsl hat
                cases hres : allS limit rl.length (start rl m M) with
                | er cc =>
                  rw [hres] at HDA
                  clear hres hbd
                  go_wp2_with fail
                  refine HDA.out.mono ?_
                  rintro e w3 ⟨hk3, rfl, hdd⟩
                  generalize M.length = k at hMl hdd
                  have HML := Lib.hid hMl
                  have hB3 : Below w.heap.size w w3 := hB.trans (hk3.below (by omega) (by omega) (by omega))
                  have HDD := Lib.hid (decLen_dead hdd)
                  have HSL := Lib.hid (sizeL_any none 0 0 [] w3 (ns_none _) (by simp [sumN]))
                  have hsz0 : sumN [] = 0 := rfl
                  have HK3 := Lib.hid hdd
                  have hk9 : k * 32 ≤ 4096 := by omega
                  clear hc HDA hk3 hdd
                  simp only [errT]
                  go_wp2_with fail
                  refine HDD.out.mono ?_
                  rintro e w' ⟨rfl, rfl⟩
                  go_wp2_with fail
                  refine HSL.out.mono ?_
                  rintro e w4 ⟨rfl, hb4⟩
                  rw [hsz0]
                  go_wp2_with fail
                  refine ⟨⟨i + 1, true, by go_num, rfl, by omega, hB3.trans (hb4.mono hB3.size), Or.inl ⟨rfl, k, HK3.out.kept hb4, HML.out⟩⟩, by simp [intOf]; omega⟩
                | ok q =>
                  obtain ⟨u, s'⟩ := q
                  rw [hres] at HDA
                  obtain ⟨b1, b2, b3⟩ := hbd s' u ⟨hml, rfl, by simp [start]⟩ hres
                  clear hres hbd
                  go_wp2_with fail
                  refine HDA.out.mono ?_
                  rintro e w3 ⟨hk3, v, rfl, hown, hd3⟩
                  obtain ⟨a3, c3, rfl, hn3⟩ := hown.ns
                  have hB3 : Below w.heap.size w w3 := hB.trans (hk3.below (by omega) (by omega) (by omega))
                  have h1 := total_ge s'.M
                  have h2 := hd3.has.total_le
                  have hkl : s'.M.length * 32 ≤ limit := by omega
                  have HDL := Lib.hid (decLen_any hd3)
                  have HSL := Lib.hid (sizeL_any a3 s'.out.length c3 s'.out w3 hn3 (by omega))
                  have HD3 := Lib.hid hd3
                  rw [← b2] at b3
                  generalize s'.M.length = k at hkl HDL
                  generalize sumN s'.out = sx at b3 HSL
                  have hk9 : k * 32 ≤ 4096 := by omega
                  clear hc HDA hk3 hd3 hown hn3 h1 h2 b2
                  go_wp2_with fail
                  refine HDL.out.mono ?_
                  rintro e w' ⟨rfl, rfl⟩
                  go_wp2_with fail
                  refine HSL.out.mono ?_
                  rintro e w4 ⟨rfl, hb4⟩
                  go_wp2_with fail
                  refine ⟨⟨i + 1, false, by go_num, rfl, by omega, hB3.trans (hb4.mono hB3.size), Or.inr ⟨rfl, s'.m, s'.M, HD3.out.below hb4, b1⟩⟩, by simp [intOf]; omega⟩
            · go_wp2_with fail
              go_ret
              exact ⟨rfl, hB⟩
          · obtain rfl : i = n := by omega
            go_wp2_with fail
            go_ret
            exact ⟨rfl, hB⟩
  · go_enter Tryd.func9, Tryd.ntmps9
    go_wp2_with fail
    refine HF.out.mono ?_
    rintro e w1 ⟨rfl, hb1⟩
    go_wp2_with fail
    go_ret
    exact ⟨rfl, hb1⟩
end Go.Proofs.YtlfnglnokakpfaaDoor
