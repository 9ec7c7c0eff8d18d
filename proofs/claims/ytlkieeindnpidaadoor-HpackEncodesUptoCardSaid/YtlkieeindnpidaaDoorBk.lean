/-
  THE LAW HpackBack: the walk.
-/
import Derived.Test.YtlkieeindnpidaaDoorNa
import Derived.Test.YtlkieeindnpidaaDoorOb
import Derived.BigQuiet
import Derived.Deep.CutBlock
namespace Go.Proofs.YtlkieeindnpidaaDoor
open Go.RowKit Tt Hu Hu.Hf

set_option maxRecDepth 100000 in
set_option maxHeartbeats 2000000 in
theorem allB_any (a : Option Addr) (n c : Nat) (L : List Bk) (w : World) (h : Bs w a n c L) : Calls Tryd.prog 23 #[.slice a n c] w fun e w' => ∃ r : Bool, e = .returned (.bool r) ∧ Below w.heap.size w w' ∧ (r = true → n ≤ 20 ∧ ∀ i (hi : i < L.length), (L[i]).L.length ≤ 60) := by
  have hm := h.max
  have hle := h.le
  unfold maxLen at hm
  have HS := Lib.hid h
  have HL := Lib.hid h.len
  clear h
  by_cases hn : n ≤ 20
  · go_enter Tryd.func23, Tryd.ntmps23
    go_wp2_with fail
    go_loopw [3] (fun s3 wr => ∃ i : Nat, s3 = .int .i64 (i : Int) ∧ i ≤ n ∧ Below w.heap.size w wr ∧ ∀ k (hk : k < L.length), k < i → (L[k]).L.length ≤ 60) (fun s3 _ => n - (intOf s3).toNat)
    case atStart => exact ⟨0, rfl, by omega, Below.refl _ _, fun k hk h => by omega⟩
    case round =>
      obtain ⟨i, rfl, hi, hB, hall⟩ := hrel
      have HALL := Lib.hid hall
      clear hall
      by_cases hlt : i < n
      · have hli : i < L.length := by rw [HL.out]; exact hlt
        obtain ⟨⟨b, o, rfl, h0, h1⟩, hns, hz, _⟩ := (HS.out.kept hB).row i hli
        have hia : (0 : Int) ≤ (i : Int) := by omega
        have hib : (i : Int) < (n : Int) := by omega
        have HLI := Lib.hid (light_any _ _ _ _ wr hns hz)
        have HLE := Lib.hid hns.len
        generalize hR : L[i] = R at h1 HLI HLE
        have HR := Lib.hid hR
        clear h0 hns hz hR
        go_wp2_with fail
        refine HLI.out.mono ?_
        rintro e w2 ⟨r, rfl, hr, hb2⟩
        have hB2 : Below w.heap.size w w2 := hB.trans (hb2.mono hB.size)
        have HRR := Lib.hid hr
        clear hr
        cases r with
        | false =>
          go_wp2_with fail
          go_ret
          exact ⟨_, rfl, hB2, fun h => by cases h⟩
        | true =>
          go_wp2_with fail
          refine ⟨⟨i + 1, by go_num, by omega, hB2, fun k hk hki => ?_⟩, by simp [intOf]; omega⟩
          by_cases hki' : k = i
          · subst hki'
            rw [HR.out, HLE.out]
            first | exact HRR.out rfl | exact HRR.out trivial
          · exact HALL.out k hk (by omega)
      · obtain rfl : i = n := by omega
        go_wp2_with fail
        go_ret
        exact ⟨_, rfl, hB, fun _ => ⟨hn, fun k hk => HALL.out k hk (by rw [← HL.out]; exact hk)⟩⟩
  · go_enter Tryd.func23, Tryd.ntmps23
    go_wp2_with fail
    go_ret
    exact ⟨_, rfl, Below.refl _ _, fun h => by cases h⟩

structure Sy (limit b A d D : Nat) (w wr : World) : Prop where
  st : ∃ m M, Ec wr b A ⟨m, M, none⟩ ∧ Dc wr d D limit m M ∧ m ≤ limit
  bl : Below w.heap.size w wr
structure Md (limit b A d D m : Nat) (M : List Hd) (w wr : World) : Prop where
  st : ∃ s, Ec wr b A s ∧ Alike limit m M s ∧ total s.M ≤ s.m
  dc : Dc wr d D limit m M
  bl : Below w.heap.size w wr

set_option maxRecDepth 100000 in
set_option maxHeartbeats 8000000 in
theorem back_law (es : Nat → Addr) (x : Int) (a : Option Addr) (n c : Nat) (L : List Bk) (w : World) (hE : Env w (errT es)) (hs : Bs w a n c L) :
    Calls Tryd.prog 7 #[.int .i64 x, .slice a n c] w fun e w' => e = .returned (.bool true) ∧ Below w.heap.size w w' := by
  have hm := hs.max
  have hle := hs.le
  unfold maxLen at hm
  have HS := Lib.hid hs
  have HLN := Lib.hid hs.len
  have HE := Lib.hid hE
  have HF := Lib.hid (first_any (errT es) w hE (errsT es))
  have hg := hE.lt
  clear hs hE
  go_enter Tryd.func7, Tryd.ntmps7
  go_wp2_with fail
  refine HF.out.mono ?_
  rintro e w1 ⟨rfl, hb1⟩
  have hz1 := hb1.size
  go_wp2_with fail
  refine (allB_any a n c L w1 (HS.out.kept hb1)).mono ?_
  rintro e w2 ⟨r, rfl, hb2, hr⟩
  have hB2 : Below w.heap.size w w2 := hb1.trans (hb2.mono hz1)
  have hz2 := hB2.size
  clear hb1 hb2
  cases r with
  | false =>
    go_wp2_with fail
    go_ret
    exact ⟨rfl, hB2⟩
  | true =>
    obtain ⟨hn20, hall⟩ := hr rfl
    have HALL := Lib.hid hall
    clear hr hall
    by_cases hx0 : x < 0
    · go_wp2_with fail
      go_ret
      exact ⟨rfl, hB2⟩
    · by_cases hx1 : 4096 < x
      · go_wp2_with fail
        go_ret
        exact ⟨rfl, hB2⟩
      · obtain ⟨lim, rfl⟩ : ∃ m : Nat, x = (m : Int) := ⟨x.toNat, by omega⟩
        have hlim : lim ≤ 4096 := by omega
        clear hx0 hx1
        go_wp2_with fail
        refine (newEnc_yes lim hlim w2).mono ?_
        rintro e w5 ⟨b, A, rfl, hEc, hA, hb5⟩
        have hbl := hEc.lt
        have hne := hEc.ne
        have hB5 : Below w.heap.size w w5 := hB2.trans (hb5.mono hz2)
        have hz5 := hb5.size
        clear hb5 hB2
        go_wp2_with fail
        refine (newDec_yes lim hlim w5 (fun g hm => by have := hg g hm; omega)).mono ?_
        rintro e w6 ⟨d, D, rfl, hDc, hD, hb6⟩
        have hz6 := hb6.size
        have hdn := hDc.ne
        have hB6 : Below w.heap.size w w6 := hB5.trans (hb6.mono hB5.size)
        have HRD : Hid (Sy lim b A d D w w6) := Lib.hid ⟨⟨lim, [], hEc.below hb6, hDc, Nat.le_refl _⟩, hB6⟩
        have hAw : w.heap.size ≤ A := by omega
        have hDb : b < D := by omega
        clear hEc hDc hb6 hB5 hB6 hg hA hD hbl hz6 hz5
        go_wp2_with fail
        go_loopw [10] (fun s10 wr => ∃ i : Nat, s10 = .int .i64 (i : Int) ∧ i ≤ n ∧ Sy lim b A d D w wr) (fun s10 _ => n - (intOf s10).toNat)
        case atStart => exact ⟨0, rfl, by omega, HRD.out⟩
        case round =>
          obtain ⟨i, rfl, hi, hrd⟩ := hrel
          clear HRD
          by_cases hlt : i < n
          · obtain ⟨⟨m, M, hEx, hDx, hml⟩, hBx⟩ := hrd
            have hli : i < L.length := by rw [HLN.out]; exact hlt
            have hrow := HS.out.row i hli
            have hl60 := HALL.out i hli
            generalize L[i] = R at hrow hl60
            obtain ⟨rz, ra, rn, rc, rL⟩ := R
            simp only at hrow hl60
            obtain ⟨⟨b', o, rfl, h0, h1⟩, hns, hz, hzb⟩ := hrow
            obtain rfl := hns.len
            have HNS := Lib.hid hns
            have hbb := Hu.cell_lt h0
            simp only at hbb
            have HC0 := Lib.hid h0
            have HC1 := Lib.hid h1
            have k0 := (hBx.block b' hbb)
            have c1 := (World.cell?_of_block (a := ⟨b', o + i * 2 + 1, none⟩) k0).trans h1
            have c0 := (World.cell?_of_block (a := ⟨b', o + i * 2, none⟩) k0).trans h0
            have hia : (0 : Int) ≤ (i : Int) := by omega
            have hib : (i : Int) < (n : Int) := by omega
            have hsb := sumN_bound hz hl60
            have HSZ := Lib.hid (sizeW_any ra rL.length rc rL wr (hns.kept hBx) hz hsb)
            generalize hsx : sumN rL = sx at hsb HSZ
            have HSX := Lib.hid hsx
            clear hsx h0 h1 hns hz k0
            by_cases hs9 : sx ≤ 16384
            · go_wp2_with fail
              refine HSZ.out.mono ?_
              rintro e w7 ⟨rfl, hb7⟩
              have hEx7 := hEx.below hb7
              have hDx7 := hDx.below hb7
              have hBx7 : Below w.heap.size w w7 := hBx.trans (hb7.mono hBx.size)
              clear hEx hDx hb7 HSZ c0 c1 hBx
              have c07 := (World.cell?_of_block (a := ⟨b', o + i * 2, none⟩) (hBx7.block b' hbb)).trans HC0.out
              have hd7 := hDx7.lt
              have hz7 := hBx7.size
              go_upto_region 13 with fail
              go_cut [85] from 61 to 85 (fun s85 wx => s85 = .bool false ∧ Md lim b A d D m M w wx)
              case first =>
                by_cases h1 : 0 ≤ rz
                · by_cases h2 : rz ≤ (lim : Int)
                  · obtain ⟨q, rfl⟩ : ∃ q : Nat, rz = (q : Int) := ⟨rz.toNat, by omega⟩
                    have HR := Lib.hid (resizeE_yes b A ⟨m, M, none⟩ q (by omega) w7 hEx7)
                    have HD7 := Lib.hid hDx7
                    have HB7 := Lib.hid hBx7
                    clear hEx7 hDx7 hBx7
                    go_wp2_with fail
                    refine HR.out.mono ?_
                    rintro e w8 ⟨rfl, hE8, hk8⟩
                    go_wp2_with fail
                    go_meet
                    exact ⟨rfl, ⟨⟨_, hE8, alike_resize (by omega), hE8.has.total_le⟩, HD7.out.blocks (hk8.block d (by omega) (by omega) (by omega)) (hk8.block D (by omega) (by omega) (by omega)), HB7.out.trans (hk8.below (by omega) (by omega) (by omega))⟩⟩
                  · go_wp2_with fail
                    go_meet
                    exact ⟨rfl, ⟨⟨⟨m, M, none⟩, hEx7, alike_new hml, hEx7.has.total_le⟩, hDx7, hBx7⟩⟩
                · go_wp2_with fail
                  go_meet
                  exact ⟨rfl, ⟨⟨⟨m, M, none⟩, hEx7, alike_new hml, hEx7.has.total_le⟩, hDx7, hBx7⟩⟩
              case rest =>
                obtain ⟨rfl, ⟨⟨s, hEs, hAl, hTs⟩, hDs, hBs⟩⟩ := hcut
                clear hEx7 hDx7 hBx7 c07 hd7 hz7
                have hsm : sumN rL ≤ 16384 := by rw [HSX.out]; exact hs9
                have hlimS : s.m ≤ lim := hAl.1
                have hML := hDs.has.total_le
                have hEL := encode_list b A s ra rL.length rc rL wc hEs (fun W hk => HNS.out.kept (hBs.trans (hk.below (by omega) (by omega) hBs.size))) (by omega) (small_of_sum hsm)
                have hbk := block_back (limit := lim) (m := m) (M := M) (s := s) (L := rL) hAl hlim hML hTs hsm
                have hel := encode_len (s := s) (L := rL) hEs.m hEs.least hTs hsm
                have he2 : (encode s rL).2 = ⟨s.m, (encode s rL).2.M, none⟩ := rfl
                rw [he2] at hEL
                have HBK := Lib.hid hbk.1
                clear hbk he2 hAl hTs hML
                generalize (encode s rL).2.M = M' at hEL HBK
                generalize (encode s rL).1 = bs at hEL HBK hel
                generalize s.m = m' at hEL HBK hlimS
                rw [HSX.out] at hel
                have HEL := Lib.hid hEL
                have hd7 := hDs.lt
                have hz7 := hBs.size
                have HDX := Lib.hid hDs
                have HBX := Lib.hid hBs
                have c17 := (World.cell?_of_block (a := ⟨b', o + i * 2 + 1, none⟩) (hBs.block b' hbb)).trans HC1.out
                have hel9 : bs.length ≤ 100000 := by omega
                clear hEL hEs hDs hBs hel hsm
                go_wp2_with fail
                refine HEL.out.mono ?_
                rintro e w8 ⟨a1, N1, c1, rfl, hN1, ho1, hE1, hk1⟩
                have hN := hN1.out
                subst hN
                have hz8 := hk1.size
                have hD8 : Dc w8 d D lim m M := HDX.out.blocks (hk1.block d (by omega) (by omega) (by omega)) (hk1.block D (by omega) (by omega) (by omega))
                have hB8 : Below w.heap.size w w8 := HBX.out.trans (hk1.below (by omega) (by omega) (by omega))
                have hp1 := own_at ho1
                have hDE := decode_alive (errT es) d D lim m M a1 bs.length c1 bs w8 hD8 (sl_own ho1) (by omega) (fun p hp _ => by have := hp1 p hp; omega) (HE.out.kept hB8) (errsT es)
                rw [HBK.out] at hDE
                have HDE := Lib.hid hDE
                have HE1 := Lib.hid hE1
                have HB8 := Lib.hid hB8
                clear hDE ho1 hE1 hk1 hD8 hB8 hp1 hN1 HEL HBK HDX HBX c17
                go_wp2_with fail
                refine HDE.out.mono ?_
                rintro e w9 ⟨hk2, v, rfl, ho2, hD2⟩
                obtain ⟨a2, c2, rfl, hn2⟩ := ho2.ns
                have hz9 := hk2.size
                have HE9 := Lib.hid (HE1.out.blocks (hk2.block b (by omega) (by omega) (by omega)) (hk2.block A (by omega) (by omega) (by omega)))
                have hB9 : Below w.heap.size w w9 := HB8.out.trans (hk2.below (by omega) (by omega) (by omega))
                have c19 := (World.cell?_of_block (a := ⟨b', o + i * 2 + 1, none⟩) (hB9.block b' hbb)).trans HC1.out
                have HD9 := Lib.hid hD2
                have HB9 := Lib.hid hB9
                have HN2 := Lib.hid hn2
                have hzw9 := hB9.size
                have hr9 := hn2.le
                have hr99 := hn2.max
                unfold maxLen at hr99
                clear HDE hk2 ho2 hD2 hB9 HE1 HB8
                go_wp2_with fail
                go_loopw [14] (fun s14 wr => ∃ k : Nat, s14 = .int .i64 (k : Int) ∧ k ≤ rL.length ∧ Below w9.heap.size w9 wr) (fun s14 _ => rL.length - (intOf s14).toNat)
                case atStart => exact ⟨0, rfl, by omega, Below.refl _ _⟩
                case round =>
                  obtain ⟨k, rfl, hk, hBr⟩ := hrel
                  clear c19 hn2
                  by_cases hlk : k < rL.length
                  · obtain ⟨b2, o2, rfl, p0, p1, p2⟩ := (HN2.out.kept hBr).row k hlk
                    have hBw := HB9.out.trans (hBr.mono hzw9)
                    obtain ⟨b3, o3, rfl, q0, q1, q2⟩ := (HNS.out.kept hBw).row k hlk
                    have c1r := (World.cell?_of_block (a := ⟨b', o + i * 2 + 1, none⟩) (hBw.block b' hbb)).trans HC1.out
                    generalize rL[k] = h at p0 p1 p2 q0 q1 q2
                    have hka : (0 : Int) ≤ (k : Int) := by omega
                    have hkb : (k : Int) < (rL.length : Int) := by omega
                    clear hBw
                    go_wp2_with fail
                    go_quiet (fail)
                    all_goals go_wp2_with fail
                    all_goals exact ⟨⟨k + 1, by go_num, by omega, Hu.bdN hBr _⟩, by simp [intOf]; omega⟩
                  · obtain rfl : k = rL.length := by omega
                    go_wp2_with fail
                    refine ⟨⟨i + 1, by go_num, by omega, ⟨⟨m', M', HE9.out.below hBr, HD9.out.below hBr, hlimS⟩, HB9.out.trans (hBr.mono hzw9)⟩⟩, by simp [intOf]; omega⟩
            · go_wp2_with fail
              refine HSZ.out.mono ?_
              rintro e w7 ⟨rfl, hb7⟩
              go_wp2_with fail
              go_ret
              exact ⟨rfl, hBx.trans (hb7.mono hBx.size)⟩
          · obtain rfl : i = n := by omega
            have hBr := hrd.bl
            go_wp2_with fail
            go_ret
            exact ⟨rfl, hBr⟩
end Go.Proofs.YtlkieeindnpidaaDoor
