/-
  THE LAW HeadLess: the walk.
-/
import Derived.Test.YtgoglfahlfkbiaaDoorLh
import Derived.Test.YtgoglfahlfkbiaaDoorMo
import Derived.Test.YtgoglfahlfkbiaaDoorX
namespace Go.Proofs.YtgoglfahlfkbiaaDoor
open Go.RowKit Tt

theorem i64_bound {n : Int} (h : (Lit.int .i64 n).wf = true) : -9223372036854775808 ≤ n ∧ n ≤ 9223372036854775807 := by
  have h1 : IntKind.i64.min = -9223372036854775808 := by decide
  have h2 : IntKind.i64.max = 9223372036854775807 := by decide
  simp [Lit.wf, h1, h2] at h
  omega
/-- An index out of whatever number. -/
def idx (i : Int) (n : Nat) : Nat := ((i.tmod n + n).tmod n).toNat
theorem idx_lt (i : Int) {n : Nat} (h : 0 < n) : (i.tmod n + n).tmod n = (idx i n : Int) ∧ idx i n < n ∧ -(n : Int) < i.tmod n ∧ i.tmod n < (n : Int) := by
  have h1 : i.tmod n < (n : Int) := Int.tmod_lt_of_pos i (by omega)
  have h2 : -(n : Int) < i.tmod n := by
    have := Int.tmod_lt_of_pos (-i) (b := (n : Int)) (by omega)
    rw [Int.neg_tmod] at this
    omega
  have h3 : 0 ≤ (i.tmod n + n).tmod n := Int.tmod_nonneg _ (by omega)
  have h4 : (i.tmod n + n).tmod n < (n : Int) := Int.tmod_lt_of_pos _ (by omega)
  unfold idx
  omega
theorem slice_lN (a : Option Addr) (n c : Nat) (I : Nat) (h1 : I + 1 ≤ n) (w : World) :
    (Instr.slice 22 (.slice a n c) (some (.int .i64 ((I : Int) + 1))) none none).run Tryd.prog w = .ok (.slice (partN a c (I + 1)) (n - (I + 1)) (c - (I + 1))) w := slice_n a n c (I + 1) h1 w
theorem slice_hN (b o n c : Nat) (I : Nat) (h1 : I ≤ c) (w : World) :
    (Instr.slice 22 (.slice (some ⟨b, o, none⟩) n c) none (some (.int .i64 (I : Int))) none).run Tryd.prog w = .ok (.slice (some ⟨b, o, none⟩) I c) w := by
  rw [run_slice_h w _ _ _ _ elemN .i64 (I : Int) (by omega) (by omega), sizeOfN]
  show Result.ok (Value.slice (if c = 0 then some ⟨b, o, none⟩ else some (Addr.add ⟨b, o, none⟩ (0 * 3))) I c) w = _
  rw [Addr.add_lit]
  simp
theorem sm_sub {L M : List Hn} (h : ∀ x ∈ M, x ∈ L) (hs : Sm L) : Sm M := fun i hi => by
  obtain ⟨j, hj, e⟩ := List.mem_iff_getElem.1 (h _ (List.getElem_mem hi))
  rw [← e]
  exact hs j hj
theorem eq_bool (p : Bool) (W : World) : (binOp .eql 4 (.bool p) (.bool p)).run Tryd.prog W = .ok (.bool true) W := by cases p <;> kernel_rfl
theorem size_pos {s : ByteArray} (h : ¬ s = ⟨#[]⟩) : 0 < s.size := by
  obtain ⟨⟨l⟩⟩ := s
  cases l with
  | nil => exact absurd rfl h
  | cons c l => simp [ByteArray.size]
set_option maxRecDepth 100000 in
set_option maxHeartbeats 4000000 in
theorem less_any (a : Option Addr) (n c : Nat) (L : List Hn) (i0 k0 : Int) (w : World) (hs : Ns w a n c L) (hm : Sm L) (ea : Addr)
    (hE : w.cell? ⟨0, 0, none⟩ = some (errV ea)) (hi0 : -9223372036854775808 ≤ i0 ∧ i0 ≤ 9223372036854775807) (hk0 : -9223372036854775808 ≤ k0 ∧ k0 ≤ 9223372036854775807) :
    Calls Tryd.prog 6 #[.slice a n c, .int .i64 i0, .int .i64 k0] w (Yes w) := by
  have hge := cell_lt hE
  simp only at hge
  have HF := Lib.hid (first_any w ea hE)
  have HS := Lib.hid hs
  have HM := Lib.hid hm
  have HE := Lib.hid hE
  clear hs hm hE
  go_enter Tryd.func6, Tryd.ntmps6
  go_wp2_with fail
  refine HF.out.mono ?_
  rintro e w1 ⟨rfl, hb1⟩
  have HB1 := Lib.hid (show Below w.heap.size w w1 from hb1)
  have HLI := Lib.hid (light_any a n c L w1 (HS.out.kept hb1) HM.out)
  clear hb1 HF
  go_wp2_with fail
  refine HLI.out.mono ?_
  rintro e w2 ⟨r, rfl, hr, hb2⟩
  have hB2 : Below w.heap.size w w2 := HB1.out.trans (hb2.mono HB1.out.size)
  have HB2 := Lib.hid hB2
  clear hb2 hB2 HLI HB1
  cases r with
  | false =>
    go_wp2_with fail
    go_ret
    exact ⟨rfl, HB2.out⟩
  | true =>
  have hn := hr rfl
  clear hr
  by_cases h0 : n = 0
  · subst h0
    go_wp2_with fail
    go_ret
    exact ⟨rfl, HB2.out⟩
  have hn0 : ((n : Int) == 0) = false := by rw [beq_eq_false_iff_ne]; omega
  have hnn : (n : Int) ≠ 0 := by omega
  obtain ⟨i1, i2, i3, i4⟩ := idx_lt i0 (show 0 < n by omega)
  obtain ⟨k1, k2, k3, k4⟩ := idx_lt k0 (show 0 < n by omega)
  generalize idx i0 n = I at i1 i2
  generalize idx k0 n = K at k1 k2
  have hsL := (HS.out.kept HB2.out)
  have hLn := HS.out.len
  obtain ⟨b, o, rfl, x0, x1, x2⟩ := hsL.row I (by omega)
  obtain ⟨b', o', e', y0, y1, y2⟩ := hsL.row K (by omega)
  cases e'
  have hI := HM.out I (by omega)
  have hK := HM.out K (by omega)
  have hia : (0 : Int) ≤ (I : Int) := by omega
  have hib : (I : Int) < (n : Int) := by omega
  have hka : (0 : Int) ≤ (K : Int) := by omega
  have hkb : (K : Int) < (n : Int) := by omega
  have hgi : ∃ G, L[I] = G := ⟨_, rfl⟩
  have hgk : ∃ G, L[K] = G := ⟨_, rfl⟩
  obtain ⟨gi, hgi⟩ := hgi
  obtain ⟨gk, hgk⟩ := hgk
  rw [hgi] at x0 x1 x2 hI
  rw [hgk] at y0 y1 y2 hK
  obtain ⟨⟨ni, vi⟩, bi⟩ := gi
  obtain ⟨⟨nk, vk⟩, bk⟩ := gk
  simp only at x0 x1 x2 y0 y1 y2 hI hK
  clear hi0 hk0 hsL
  go_upto_region 6 with fail
  go_cut [8] from 60 to 91 (fun s8 wx => ∃ q : Bool, s8 = .bool q ∧ (q = false → pre1 58 ni = false ∧ pre1 58 nk = false) ∧ wx = w2)
  case first =>
    by_cases e1 : ni = ⟨#[]⟩
    · subst e1
      go_wp2_with fail
      go_meet
      exact ⟨true, rfl, (fun h => by cases h), rfl⟩
    have p1 : 0 < ni.size := size_pos e1
    have p1' : (0 : Int) < (ni.size : Int) := by omega
    by_cases e2 : nk = ⟨#[]⟩
    · subst e2
      clear e1
      go_wp2_with fail
      all_goals go_meet
      all_goals exact ⟨true, rfl, (fun h => by cases h), rfl⟩
    have p2 : 0 < nk.size := size_pos e2
    have p2' : (0 : Int) < (nk.size : Int) := by omega
    clear e1 e2
    go_wp2_with fail
    all_goals go_meet
    all_goals first
      | exact ⟨true, rfl, (fun h => by cases h), rfl⟩
      | (refine ⟨(ni.toList.isEmpty || ((ni[0].toNat : Int) == 58) || nk.toList.isEmpty || ((nk[0].toNat : Int) == 58)), rfl, fun h => ?_, rfl⟩
         simp only [Bool.or_eq_false_iff, beq_eq_false_iff_ne, ne_eq] at h
         obtain ⟨⟨⟨_, h1⟩, _⟩, h2⟩ := h
         refine ⟨?_, ?_⟩
         · rw [pre_at ni p1]
           exact decide_eq_false (fun e => h1 (by rw [e]; rfl))
         · rw [pre_at nk p2]
           exact decide_eq_false (fun e => h2 (by rw [e]; rfl)))
  case rest =>
  obtain ⟨q, rfl, hq, rfl⟩ := hcut
  cases q with
  | true =>
    go_wp2_with fail
    go_ret
    exact ⟨rfl, HB2.out⟩
  | false =>
  obtain ⟨pi, pk⟩ := hq rfl
  clear hq
  obtain ⟨w2, rfl⟩ : ∃ w2 : World, w2 = wc := ⟨_, rfl⟩
  have HH := Lib.hid (headers_any (some ⟨b, o, none⟩) n c L w2 (HS.out.kept HB2.out) (by omega))
  go_wp2_with fail
  refine HH.out.mono ?_
  rintro e w3 ⟨ad, c3, rfl, ho3, hb3⟩
  clear HH
  obtain ⟨g, rfl, hg1, hg2, -, hgz, hgc⟩ := ho3.spot (by omega)
  have hlw : b < w2.heap.size := Tt.cell_lt x0
  have hgb : ¬ g = b := by omega
  have hgb' : ¬ b = g := by omega
  have u0 := (hb3.cell (p := ⟨b, o + I * 3, none⟩) hlw).trans x0
  have u1 := (hb3.cell (p := ⟨b, o + I * 3 + 1, none⟩) hlw).trans x1
  have u2 := (hb3.cell (p := ⟨b, o + I * 3 + 2, none⟩) hlw).trans x2
  have t0 := (hb3.cell (p := ⟨b, o + K * 3, none⟩) hlw).trans y0
  have t1 := (hb3.cell (p := ⟨b, o + K * 3 + 1, none⟩) hlw).trans y1
  have t2 := (hb3.cell (p := ⟨b, o + K * 3 + 2, none⟩) hlw).trans y2
  have zi0 := hgz (I * 3)
  have zi1 := hgz (I * 3 + 1)
  have zi2 := hgz (I * 3 + 2)
  have zk0 := hgz (K * 3)
  have zk1 := hgz (K * 3 + 1)
  have zk2 := hgz (K * 3 + 2)
  obtain ⟨ci0, ci1, ci2⟩ := hgc I (by omega)
  obtain ⟨ck0, ck1, ck2⟩ := hgc K (by omega)
  have HO3 := Lib.hid ho3
  have HB3 := Lib.hid hb3
  have HGZ := Lib.hid hgz
  clear ho3 hb3 hgz hgc
  go_upto_region 11 with fail
  have hO4 := HO3.out.setH (i := I) (by omega) ((nk, vk), bk)
  simp only at hO4
  have hb4 : Below w2.heap.size w2 (((w3.setCell ⟨g, I * 3, none⟩ (.string nk)).setCell ⟨g, I * 3 + 1, none⟩ (.string vk)).setCell ⟨g, I * 3 + 2, none⟩ (.bool bk)) := ((HB3.out.setCell hg1 _).setCell hg1 _).setCell hg1 _
  generalize ((w3.setCell ⟨g, I * 3, none⟩ (.string nk)).setCell ⟨g, I * 3 + 1, none⟩ (.string vk)).setCell ⟨g, I * 3 + 2, none⟩ (.bool bk) = w4 at hO4 hb4 ⊢
  clear u0 u1 u2 t0 t1 t2 zi0 zi1 zi2 zk0 zk1 zk2 ci0 ci1 ci2 ck0 ck1 ck2 HO3 HB3 HGZ
  obtain ⟨g', hgg, _, hg4, -, hgz, hgc⟩ := hO4.spot (by simp; omega)
  cases hgg
  have u0 := (hb4.cell (p := ⟨b, o + I * 3, none⟩) hlw).trans x0
  have u1 := (hb4.cell (p := ⟨b, o + I * 3 + 1, none⟩) hlw).trans x1
  have u2 := (hb4.cell (p := ⟨b, o + I * 3 + 2, none⟩) hlw).trans x2
  have zk0 := hgz (K * 3)
  have zk1 := hgz (K * 3 + 1)
  have zk2 := hgz (K * 3 + 2)
  obtain ⟨ck0, ck1, ck2⟩ := hgc K (by simp; omega)
  have HO4 := Lib.hid hO4
  have HB4 := Lib.hid hb4
  clear hO4 hb4 hgz hgc
  go_upto_region 12 with fail
  have hO5 := HO4.out.setH (i := K) (by simp; omega) ((ni, vi), bi)
  simp only at hO5
  have hb5 : Below w2.heap.size w2 (((w4.setCell ⟨g, K * 3, none⟩ (.string ni)).setCell ⟨g, K * 3 + 1, none⟩ (.string vi)).setCell ⟨g, K * 3 + 2, none⟩ (.bool bi)) := ((HB4.out.setCell hg1 _).setCell hg1 _).setCell hg1 _
  generalize ((w4.setCell ⟨g, K * 3, none⟩ (.string ni)).setCell ⟨g, K * 3 + 1, none⟩ (.string vi)).setCell ⟨g, K * 3 + 2, none⟩ (.bool bi) = w5 at hO5 hb5 ⊢
  clear u0 u1 u2 zk0 zk1 zk2 ck0 ck1 ck2 HO4 HB4 hg4
  rw [show (L.set I ((nk, vk), bk)).set K ((ni, vi), bi) = swp L I K (by omega) (by omega) by unfold swp; rw [hgi, hgk]] at hO5
  have hb2w := HB2.out.size
  have hB5 : Below w.heap.size w w5 := HB2.out.trans (hb5.mono hb2w)
  have HO5 := Lib.hid (hO5.mono (B' := 0) (Nat.zero_le _))
  have HM5 := Lib.hid (show Ns w5 (some ⟨g, 0, none⟩) n c3 (swp L I K (by omega) (by omega)) from by have := NOwn.own' hO5; exact this)
  have HB5 := Lib.hid hB5
  have HSD := Lib.hid (HS.out.kept hB5)
  have hmx := HS.out.max
  have hle := HS.out.le
  have hsl1 := fun W => slice_hN b o n c I (by omega) W
  have hsl2 := fun W => slice_lN (some ⟨b, o, none⟩) n c I (by omega) W
  have hwr : IntKind.i64.wrap ((I : Int) + 1) = (I : Int) + 1 := by rw [IntKind.wrap_i64]; omega
  clear hO5 hb5 hB5 x0 x1 x2 y0 y1 y2 hgb hgb' hlw HO5
  go_cut [10] from 109 to 117 (fun s10 wx => ∃ a6 N6 c6, s10 = .slice a6 N6 c6 ∧ Ns wx a6 N6 c6 (L.eraseIdx I) ∧ Below w5.heap.size w5 wx)
  case first =>
    have HHD := Lib.hid (fun (W : World) (h : Below w5.heap.size w5 W) => headers_any (some ⟨b, o, none⟩) I c (L.take I) W (ns_take (HSD.out.kept h) I (by omega)) (by omega))
    have HPD := Lib.hid (fun (W : World) (h : Below w5.heap.size w5 W) => ns_part (HSD.out.kept h) (I + 1) (by omega))
    have HSZ := Lib.hid (show (L.take I).length = I by simp; omega)
    go_region_held3 (fun w' => Below w5.heap.size w5 w') (first | assumption | exact Below.refl _ _ | exact Below.drew (Below.refl _ _) | (refine Below.drew ?_; assumption))
      (first
        | (go_at_call 10; refine (HHD.out _ (by first | assumption | exact Below.drew (Below.refl _ _))).mono ?_; rintro e w' ⟨ad6, c6, rfl, ho6, hb6⟩; (have hB6 : Below w5.heap.size w5 w' := Below.trans (by first | assumption | exact Below.drew (Below.refl _ _)) (hb6.mono (by first | exact Below.size (by assumption) | exact Nat.le_refl _))))
        | (refine step_append_n rfl _ _ rfl _ (L.take I) (L.drop (I + 1)) rfl w5.heap.size (by first | assumption | exact NOwn.mono (by assumption) (Nat.le_refl _)) _ _ _ rfl (HPD.out _ (by assumption)) (by simp; omega) (Below.size (by assumption)) ?_; intro w7 a7 N7 c7 hN7 ho7 hb7 _; (have hB7 : Below w5.heap.size w5 w7 := Below.trans (by assumption) hb7)))
    all_goals
      go_wp2_with fail
      go_meet
      refine ⟨_, _, _, rfl, ?_, hB7⟩
      rw [List.eraseIdx_eq_take_drop_succ]
      have := NOwn.own' ho7
      exact this
  case rest =>
  obtain ⟨a6, N6, c6, rfl, hS6, hb6⟩ := hcut
  obtain ⟨W, rfl⟩ : ∃ W : World, W = wc := ⟨_, rfl⟩
  have hBWw : Below w.heap.size w W := HB5.out.trans (hb6.mono HB5.out.size)
  have HBW := Lib.hid hBWw
  have HSW := Lib.hid (HS.out.kept hBWw)
  have HGW := Lib.hid (HM5.out.kept hb6)
  have HXW := Lib.hid hS6
  have HEW := Lib.hid ((hBWw.cell (p := ⟨0, 0, none⟩) hge).trans HE.out)
  have hgeW : 0 < W.heap.size := Nat.lt_of_lt_of_le hge hBWw.size
  have hiL : I < L.length := by omega
  have hkL : K < L.length := by omega
  have HMS : Hid (Sm (swp L I K hiL hkL)) := Lib.hid (sm_sub mem_swp HM.out)
  have HMX : Hid (Sm (L.eraseIdx I)) := Lib.hid (sm_sub (fun x hx => List.mem_of_mem_eraseIdx hx) HM.out)
  have hN6 : N6 ≤ 100000 := by have := hS6.len; have := List.length_eraseIdx_le L I; omega
  have hpi : pre1 58 (L[I]).1.1 = false := by rw [hgi]; exact pi
  have hpk : pre1 58 (L[K]).1.1 = false := by rw [hgk]; exact pk
  have fR := openR_swp hiL hkL hpi hpk
  have fA := openA_swp hiL hkL hpi hpk
  have fT := trailB_swp (L := L) hiL hkL
  have fR2 := openR_less hiL hpi
  have fA2 := openA_less hiL hpi
  have fT2 := trailB_less (L := L) (i := I)
  have HFF := Lib.hid (⟨fR, fA, fT, fR2, fA2, fT2⟩ : _ ∧ _ ∧ _ ∧ _ ∧ _ ∧ _)
  clear fR fA fT fR2 fA2 fT2 hpi hpk hgi hgk pi pk hBWw hb6 hS6 HB5 HM5 HS HE HSD hsl1 hsl2 hwr hmx hle HB2 hb2w hg1 hg2
  have HO6 := Lib.hid (open_o (some ⟨b, o, none⟩) n c L W HSW.out HM.out (by omega) ea HEW.out)
  go_wp2_with fail
  refine HO6.out.mono ?_
  rintro e w7 ⟨⟨x7a, x7b, x7c, x7d, a7x, N7x, c7x, rfl⟩, hb7⟩
  have hbk7 : Below W.heap.size W w7 := hb7
  have hbb7 : Below W.heap.size W (w7.alloc (.cells #[.string x7a, .string x7b, .string x7c, .string x7d, .slice a7x N7x c7x] 27)) := hbk7.alloc hbk7.size _
  go_upto_region 14 with fail
  generalize w7.alloc (.cells #[.string x7a, .string x7b, .string x7c, .string x7d, .slice a7x N7x c7x] 27) = u7 at hbb7 ⊢
  have HK7 := Lib.hid hbb7
  clear hb7 hbk7 HO6 hbb7
  have HO7 := Lib.hid (open_o (some ⟨g, 0, none⟩) n c3 (swp L I K hiL hkL) u7 (HGW.out.kept HK7.out) HMS.out (by omega) ea ((HK7.out.cell (p := ⟨0, 0, none⟩) hgeW).trans HEW.out))
  go_wp2_with fail
  refine HO7.out.mono ?_
  rintro e w8 ⟨⟨x8a, x8b, x8c, x8d, a8x, N8x, c8x, rfl⟩, hb8⟩
  have hbk8 : Below W.heap.size W w8 := HK7.out.trans (hb8.mono HK7.out.size)
  have hbb8 : Below W.heap.size W (w8.alloc (.cells #[.string x8a, .string x8b, .string x8c, .string x8d, .slice a8x N8x c8x] 27)) := hbk8.alloc hbk8.size _
  go_upto_region 15 with fail
  generalize w8.alloc (.cells #[.string x8a, .string x8b, .string x8c, .string x8d, .slice a8x N8x c8x] 27) = u8 at hbb8 ⊢
  have HK8 := Lib.hid hbb8
  clear hb8 hbk8 HO7 hbb8 HK7
  have HO8 := Lib.hid (open_o a6 N6 c6 (L.eraseIdx I) u8 (HXW.out.kept HK8.out) HMX.out hN6 ea ((HK8.out.cell (p := ⟨0, 0, none⟩) hgeW).trans HEW.out))
  go_wp2_with fail
  refine HO8.out.mono ?_
  rintro e w9 ⟨⟨x9a, x9b, x9c, x9d, a9x, N9x, c9x, rfl⟩, hb9⟩
  have hbk9 : Below W.heap.size W w9 := HK8.out.trans (hb9.mono HK8.out.size)
  have hbb9 : Below W.heap.size W (w9.alloc (.cells #[.string x9a, .string x9b, .string x9c, .string x9d, .slice a9x N9x c9x] 27)) := hbk9.alloc hbk9.size _
  go_upto_region 16 with fail
  generalize w9.alloc (.cells #[.string x9a, .string x9b, .string x9c, .string x9d, .slice a9x N9x c9x] 27) = u9 at hbb9 ⊢
  have HK9 := Lib.hid hbb9
  clear hb9 hbk9 HO8 hbb9 HK8
  have HO9 := Lib.hid (openA_o (some ⟨b, o, none⟩) n c L u9 (HSW.out.kept HK9.out) HM.out (by omega) ea ((HK9.out.cell (p := ⟨0, 0, none⟩) hgeW).trans HEW.out))
  go_wp2_with fail
  refine HO9.out.mono ?_
  rintro e w10 ⟨⟨x10a, a10x, N10x, c10x, rfl⟩, hb10⟩
  have hbk10 : Below W.heap.size W w10 := HK9.out.trans (hb10.mono HK9.out.size)
  have hbb10 : Below W.heap.size W (w10.alloc (.cells #[.int .i64 x10a, .slice a10x N10x c10x] 36)) := hbk10.alloc hbk10.size _
  go_upto_region 17 with fail
  generalize w10.alloc (.cells #[.int .i64 x10a, .slice a10x N10x c10x] 36) = u10 at hbb10 ⊢
  have HK10 := Lib.hid hbb10
  clear hb10 hbk10 HO9 hbb10 HK9
  have HO10 := Lib.hid (openA_o (some ⟨g, 0, none⟩) n c3 (swp L I K hiL hkL) u10 (HGW.out.kept HK10.out) HMS.out (by omega) ea ((HK10.out.cell (p := ⟨0, 0, none⟩) hgeW).trans HEW.out))
  go_wp2_with fail
  refine HO10.out.mono ?_
  rintro e w11 ⟨⟨x11a, a11x, N11x, c11x, rfl⟩, hb11⟩
  have hbk11 : Below W.heap.size W w11 := HK10.out.trans (hb11.mono HK10.out.size)
  have hbb11 : Below W.heap.size W (w11.alloc (.cells #[.int .i64 x11a, .slice a11x N11x c11x] 36)) := hbk11.alloc hbk11.size _
  go_upto_region 18 with fail
  generalize w11.alloc (.cells #[.int .i64 x11a, .slice a11x N11x c11x] 36) = u11 at hbb11 ⊢
  have HK11 := Lib.hid hbb11
  clear hb11 hbk11 HO10 hbb11 HK10
  have HO11 := Lib.hid (openA_o a6 N6 c6 (L.eraseIdx I) u11 (HXW.out.kept HK11.out) HMX.out hN6 ea ((HK11.out.cell (p := ⟨0, 0, none⟩) hgeW).trans HEW.out))
  go_wp2_with fail
  refine HO11.out.mono ?_
  rintro e w12 ⟨⟨x12a, a12x, N12x, c12x, rfl⟩, hb12⟩
  have hbk12 : Below W.heap.size W w12 := HK11.out.trans (hb12.mono HK11.out.size)
  have hbb12 : Below W.heap.size W (w12.alloc (.cells #[.int .i64 x12a, .slice a12x N12x c12x] 36)) := hbk12.alloc hbk12.size _
  go_upto_region 19 with fail
  generalize w12.alloc (.cells #[.int .i64 x12a, .slice a12x N12x c12x] 36) = u12 at hbb12 ⊢
  have HK12 := Lib.hid hbb12
  clear hb12 hbk12 HO11 hbb12 HK11
  have HO12 := Lib.hid (trail_o (some ⟨b, o, none⟩) n c L u12 (HSW.out.kept HK12.out) HM.out ea ((HK12.out.cell (p := ⟨0, 0, none⟩) hgeW).trans HEW.out))
  go_wp2_with fail
  refine HO12.out.mono ?_
  rintro e w13 ⟨rfl, hb13⟩
  have hbk13 : Below W.heap.size W w13 := HK12.out.trans (hb13.mono HK12.out.size)
  have HK13 := Lib.hid hbk13
  clear hb13 HO12 HK12 hbk13
  have HO13 := Lib.hid (trail_o (some ⟨g, 0, none⟩) n c3 (swp L I K hiL hkL) w13 (HGW.out.kept HK13.out) HMS.out ea ((HK13.out.cell (p := ⟨0, 0, none⟩) hgeW).trans HEW.out))
  go_wp2_with fail
  refine HO13.out.mono ?_
  rintro e w14 ⟨rfl, hb14⟩
  have hbk14 : Below W.heap.size W w14 := HK13.out.trans (hb14.mono HK13.out.size)
  have HK14 := Lib.hid hbk14
  clear hb14 HO13 HK13 hbk14
  have HO14 := Lib.hid (trail_o a6 N6 c6 (L.eraseIdx I) w14 (HXW.out.kept HK14.out) HMX.out ea ((HK14.out.cell (p := ⟨0, 0, none⟩) hgeW).trans HEW.out))
  go_wp2_with fail
  refine HO14.out.mono ?_
  rintro e w15 ⟨rfl, hb15⟩
  have hbk15 : Below W.heap.size W w15 := HK14.out.trans (hb15.mono HK14.out.size)
  have HK15 := Lib.hid hbk15
  clear hb15 HO14 HK14 hbk15
  have HBF : Hid (Below w.heap.size w w15) := Lib.hid (HBW.out.trans (HK15.out.mono HBW.out.size))
  clear HK15 HBW HSW HGW HXW HEW HMS HMX HM hge hgeW hN6
  obtain ⟨fR, fA, fT, fR2, fA2, fT2⟩ := HFF.out
  clear HFF
  generalize (openR (swp L I K hiL hkL)).isSome = R1 at fR ⊢
  generalize (openA (swp L I K hiL hkL)).isSome = A1 at fA ⊢
  generalize trailB (swp L I K hiL hkL) = T1 at fT ⊢
  generalize (openR (L.eraseIdx I)).isSome = R2 at fR2 ⊢
  generalize (openA (L.eraseIdx I)).isSome = A2 at fA2 ⊢
  generalize trailB (L.eraseIdx I) = T2 at fT2 ⊢
  generalize (openR L).isSome = R0 at fR fR2 ⊢
  generalize (openA L).isSome = A0 at fA fA2 ⊢
  generalize trailB L = T0 at fT fT2 ⊢
  subst fR fA fT
  have hqn := eq_nil ea
  have hqg := gd_eq ea
  have hqm := ne_nil ea
  have hqh := gd_ne ea
  have hqb := eq_bool
  go_upto_region 22 with fail
  generalize w15 = w8 at HBF ⊢
  go_cut [6] from 154 to 196 (fun s6 wx => s6 = .bool true ∧ Below w8.heap.size w8 wx)
  case first =>
    cases R1 with
    | false =>
      cases A1 with
      | false =>
        cases T1 with
        | false => (go_quiet (fail)) <;> (go_wp2_with fail) <;> go_meet <;> exact ⟨rfl, bdN (Below.refl _ _) _⟩
        | true =>
          obtain rfl := fT2 rfl
          (go_quiet (fail)) <;> (go_wp2_with fail) <;> go_meet <;> exact ⟨rfl, bdN (Below.refl _ _) _⟩
      | true =>
        obtain rfl := fA2 rfl
        cases T1 with
        | false => (go_quiet (fail)) <;> (go_wp2_with fail) <;> go_meet <;> exact ⟨rfl, bdN (Below.refl _ _) _⟩
        | true =>
          obtain rfl := fT2 rfl
          (go_quiet (fail)) <;> (go_wp2_with fail) <;> go_meet <;> exact ⟨rfl, bdN (Below.refl _ _) _⟩
    | true =>
      obtain rfl := fR2 rfl
      cases A1 with
      | false =>
        cases T1 with
        | false => (go_quiet (fail)) <;> (go_wp2_with fail) <;> go_meet <;> exact ⟨rfl, bdN (Below.refl _ _) _⟩
        | true =>
          obtain rfl := fT2 rfl
          (go_quiet (fail)) <;> (go_wp2_with fail) <;> go_meet <;> exact ⟨rfl, bdN (Below.refl _ _) _⟩
      | true =>
        obtain rfl := fA2 rfl
        cases T1 with
        | false => (go_quiet (fail)) <;> (go_wp2_with fail) <;> go_meet <;> exact ⟨rfl, bdN (Below.refl _ _) _⟩
        | true =>
          obtain rfl := fT2 rfl
          (go_quiet (fail)) <;> (go_wp2_with fail) <;> go_meet <;> exact ⟨rfl, bdN (Below.refl _ _) _⟩
  case rest =>
  obtain ⟨rfl, hbz⟩ := hcut
  go_wp2_with fail
  go_ret
  exact ⟨rfl, HBF.out.trans (hbz.mono HBF.out.size)⟩
end Go.Proofs.YtgoglfahlfkbiaaDoor
