/-
  THE LAW HpackEncodes: the walk.
-/
import Derived.Test.YtlkieeindnpidaaDoorEm
import Derived.Test.YtlkieeindnpidaaDoorEs
import Derived.Test.YtlkieeindnpidaaDoorBk
import Derived.Test.YtlkieeindnpidaaDoorBu
namespace Go.Proofs.YtlkieeindnpidaaDoor
open Go.RowKit Tt Hu Hu.Hf

theorem infoP : (Tryd.prog.info? 181).map (fun i => i.comparable) = some true := by kernel_rfl
theorem infoT : (Tryd.prog.info? 195).map (fun i => i.size) = some 1 := by kernel_rfl
theorem eql_same (p : Addr) (w : World) : (binOp .eql 29 (.iface 181 (.pointer (some p))) (.iface 181 (.pointer (some p)))).run Tryd.prog w = .ok (.bool true) w := by
  obtain ⟨i, hi, hc⟩ := Option.map_eq_some_iff.1 infoP
  obtain ⟨j, hj, _⟩ := Option.map_eq_some_iff.1 infoT
  exact run_eql_iface_ptr_same w p Tryd.underlying29 Tryd.underlying181 hi hc hj
/-- Both encoders hold the same. -/
structure Sx (b A x t : Nat) (w wr : World) : Prop where
  st : ∃ s, Ec wr b A s ∧ Ed wr x t s
  bl : Below w.heap.size w wr
theorem Sx.step {b A x t : Nat} {w wr w' : World} (h : Sx b A x t w wr) (hb : Below wr.heap.size wr w') : Sx b A x t w w' := by
  obtain ⟨s, h1, h2⟩ := h.st
  exact ⟨⟨s, h1.below hb, h2.below hb⟩, h.bl.trans (hb.mono h.bl.size)⟩
/-- The program's encoder goes on, then the document's. -/
theorem ed_old {b A x t : Nat} {w w' : World} {s : ES} (h : Ed w x t s) (hk : Kq w.heap.size A b w w') (h1 : A < b) (h2 : b < x) (h3 : b < t) : Ed w' x t s :=
  h.old (B := b + 1) (fun k hk1 hk2 => hk.block k hk2 (by omega) (by omega)) h2 h3
theorem ec_old {b A x t : Nat} {w w' : World} {s : ES} (h : Ec w b A s) (hk : Kq w.heap.size t x w w') (h2 : b < x) (h3 : b < t) : Ec w' b A s :=
  h.old (B := b + 1) (hk.below h3 h2 h.lt) (Nat.lt_succ_self b)

theorem nown_kq {w w' : World} {A b B : Nat} {v : Value} {l : List Hn} (h : NOwn w B v l) (hk : Kq w.heap.size A b w w') (hA : A < B) (hb : b < B) : NOwn w' B v l := by
  obtain ⟨h1, h2⟩ := h
  refine ⟨h1, ?_⟩
  rcases h2 with h2 | ⟨g, cap, cur, hv, hg, hh, r⟩
  · exact Or.inl h2
  · exact Or.inr ⟨g, cap, cur, hv, hg, (hk.block g (Array.getElem?_eq_some_iff.1 hh).1 (by omega) (by omega)).trans hh, r⟩
set_option maxRecDepth 100000 in
set_option maxHeartbeats 8000000 in
theorem encodes_law (es : Nat → Addr) (v : Int) (a : Option Addr) (n c : Nat) (L : List Bk) (w : World) (hE : Env w (errT es)) (hs : Bs w a n c L) (hK : ∀ i (h : i < L.length), SmK 1048576 (L[i]).L) :
    Calls Tryd.prog 5 #[.int .i64 v, .slice a n c] w fun e w' => e = .returned (.bool true) ∧ Below w.heap.size w w' := by
  have hm := hs.max
  have hle := hs.le
  unfold maxLen at hm
  have HS := Lib.hid hs
  have HLN := Lib.hid hs.len
  have HE := Lib.hid hE
  have HK := Lib.hid hK
  have HF := Lib.hid (first_any (errT es) w hE (errsT es))
  clear hs hE hK
  go_enter Tryd.func5, Tryd.ntmps5
  go_wp2_with fail
  refine HF.out.mono ?_
  rintro e w1 ⟨rfl, hb1⟩
  have hz1 := hb1.size
  go_wp2_with fail
  refine (allB_any a n c L w1 (HS.out.kept hb1)).mono ?_
  rintro e w2 ⟨r, rfl, hb2, hr⟩
  have hB2 : Below w.heap.size w w2 := hb1.trans (hb2.mono hz1)
  have hz2 := hB2.size
  clear hb1 hb2
  cases r with
  | false =>
    go_wp2_with fail
    go_ret
    exact ⟨rfl, hB2⟩
  | true =>
    obtain ⟨hn20, hall⟩ := hr rfl
    have HALL := Lib.hid hall
    clear hr hall
    by_cases hv : 0 ≤ v ∧ v ≤ 4096
    · obtain ⟨m, rfl⟩ : ∃ m : Nat, v = (m : Int) := ⟨v.toNat, by omega⟩
      have hm4 : m ≤ 4096 := by omega
      clear hv
      go_wp2_with fail
      refine (newEnc_yes m hm4 w2).mono ?_
      rintro e w5 ⟨b, A, rfl, hEc, hA, hb5⟩
      have hbl := hEc.lt
      have hne := hEc.ne
      have hB5 : Below w.heap.size w w5 := hB2.trans (hb5.mono hz2)
      have hz5 := hb5.size
      clear hb5 hB2
      go_wp2_with fail
      refine (newD_any m hm4 w5).mono ?_
      rintro e w6 ⟨x, t, rfl, hEd, hx, ht, hb6⟩
      have HRD : Hid (Sx b A x t w w6) := Lib.hid ⟨⟨⟨m, [], none⟩, hEc.below hb6, hEd⟩, hB5.trans (hb6.mono hB5.size)⟩
      have hAw : w.heap.size ≤ A := by omega
      have hbx : b < x := by omega
      have hbt : b < t := by omega
      clear hEc hEd hb6 hB5 hx ht hA hbl hz5
      go_wp2_with fail
      go_loopw [9] (fun s9 wr => ∃ i : Nat, s9 = .int .i64 (i : Int) ∧ i ≤ n ∧ Sx b A x t w wr) (fun s9 _ => n - (intOf s9).toNat)
      case atStart => exact ⟨0, rfl, by omega, HRD.out⟩
      case round =>
        obtain ⟨i, rfl, hi, hrd⟩ := hrel
        clear HRD
        by_cases hlt : i < n
        · have hli : i < L.length := by rw [HLN.out]; exact hlt
          have hrow := HS.out.row i hli
          have hl60 := HALL.out i hli
          have hsk := HK.out i hli
          generalize L[i] = R at hrow hl60 hsk
          obtain ⟨rz, ra, rn, rc, rL⟩ := R
          simp only at hrow hl60 hsk
          obtain ⟨⟨b', o, rfl, h0, h1⟩, hns, hz, hzb⟩ := hrow
          obtain rfl := hns.len
          have HNS := Lib.hid hns
          have HSK := Lib.hid (show Small rL from hsk)
          have HSZ := Lib.hid hz
          have hbb := Hu.cell_lt h0
          simp only at hbb
          have HC0 := Lib.hid (fun W (h : Below w.heap.size w W) => (World.cell?_of_block (a := ⟨b', o + i * 2, none⟩) (h.block b' hbb)).trans h0)
          have HC1 := Lib.hid (fun W (h : Below w.heap.size w W) => (World.cell?_of_block (a := ⟨b', o + i * 2 + 1, none⟩) (h.block b' hbb)).trans h1)
          have hia : (0 : Int) ≤ (i : Int) := by omega
          have hib : (i : Int) < (n : Int) := by omega
          have HRD := Lib.hid hrd
          have c0 := HC0.out wr hrd.bl
          clear h0 h1 hns hz hsk hrd
          obtain ⟨⟨s, hEx, hDx⟩, hBx⟩ := HRD.out
          have HEX := Lib.hid hEx
          have HDX := Lib.hid hDx
          have HBX := Lib.hid hBx
          clear hEx hDx hBx HRD
          obtain ⟨can, hcan⟩ : ∃ can : Bool, can = (decide (0 ≤ rz) && decide (rz ≤ 4096)) := ⟨_, rfl⟩
          go_upto_region 13 with fail
          go_cut [10] from 55 to 68 (fun s10 wx => s10 = .bool can ∧ wr = wx)
          case first =>
            subst hcan
            by_cases h1 : 0 ≤ rz
            · go_wp2_with fail
              go_meet
              exact ⟨by simp [h1], rfl⟩
            · go_wp2_with fail
              go_meet
              exact ⟨by simp; omega, rfl⟩
          case rest =>
          obtain ⟨rfl, rfl⟩ := hcut
          have hcq : can = true → 0 ≤ rz ∧ rz ≤ 4096 := fun h => by rw [h] at hcan; simpa using hcan.symm
          have hcn : can = false → rz < 0 ∨ 4096 < rz := fun h => by
            rw [h] at hcan
            by_cases h0 : 0 ≤ rz
            · refine Or.inr ?_
              simp only [h0, decide_true, Bool.true_and] at hcan
              have := of_decide_eq_false hcan.symm
              omega
            · exact Or.inl (by omega)
          have HCQ := Lib.hid hcq
          have HCN := Lib.hid hcn
          clear hcan hcq hcn
          go_upto_region 14 with fail
          go_cut [86] from 69 to 86 (fun s86 wx => s86 = .bool false ∧ Ec wx b A (if can then resizeE s rz.toNat else s) ∧ Ed wx x t s ∧ Below w.heap.size w wx)
          case first =>
            cases can with
            | true =>
              obtain ⟨h1, h2⟩ := HCQ.out rfl
              obtain ⟨q, rfl⟩ : ∃ q : Nat, rz = (q : Int) := ⟨rz.toNat, by omega⟩
              have hq : q ≤ 4096 := by omega
              have hq1 : ((q : Int) == -1) = false := by rw [beq_eq_false_iff_ne]; omega
              have HR := Lib.hid (resizeE_yes b A s q hq wr HEX.out)
              clear h1 h2
              go_wp2_with fail
              refine HR.out.mono ?_
              rintro e w8 ⟨rfl, hE8, hk8⟩
              go_wp2_with fail
              go_meet
              exact ⟨rfl, by simpa using hE8, ed_old HDX.out hk8 hne hbx hbt, HBX.out.trans (hk8.below (by omega) (by omega) HBX.out.size)⟩
            | false =>
              have h1 := HCN.out rfl
              by_cases h2 : rz = -1
              · have hq1 : (rz == -1) = true := by rw [h2]; rfl
                have hq2 : (rz != -1) = false := by rw [h2]; rfl
                have hq3 : (!decide (rz = -1)) = false := by rw [h2]; rfl
                clear h1
                go_wp2_with fail
                go_meet
                exact ⟨rfl, by simpa using HEX.out, HDX.out, HBX.out⟩
              · have hq1 : (rz == -1) = false := by rw [beq_eq_false_iff_ne]; exact h2
                have hq2 : (rz != -1) = true := by rw [bne_iff_ne]; exact h2
                have HR := Lib.hid (resizeE_no b A s rz h1 _ wr HEX.out (HE.out.kept HBX.out).c109 ⟨_, _, rfl⟩)
                unfold errT at HR
                clear h1
                go_wp2_with fail
                refine HR.out.mono ?_
                rintro e w8 ⟨rfl, hb8⟩
                go_wp2_with fail
                go_meet
                exact ⟨rfl, by simpa using HEX.out.below hb8, HDX.out.below hb8, HBX.out.trans (hb8.mono HBX.out.size)⟩
          case rest =>
          obtain ⟨rfl, hE6, hD6, hB6⟩ := hcut
          obtain ⟨w6', rfl⟩ : ∃ w6' : World, w6' = wc := ⟨_, rfl⟩
          have c06 := HC0.out _ hB6
          have HE6 := Lib.hid hE6
          have HD6 := Lib.hid hD6
          have HB6 := Lib.hid hB6
          clear hE6 hD6 hB6 c0 HEX HDX HBX
          go_upto_if 87 with fail
          go_cut [10] from 88 to 94 (fun s10 wx => Sx b A x t w wx)
          case first =>
            cases can with
            | true =>
              obtain ⟨h1, h2⟩ := HCQ.out rfl
              obtain ⟨q, rfl⟩ : ∃ q : Nat, rz = (q : Int) := ⟨rz.toNat, by omega⟩
              have hq : q ≤ 4096 := by omega
              have HE6' : Hid (Ec w6' b A (resizeE s q)) := Lib.hid (by simpa using HE6.out)
              have HR := Lib.hid (resizeD_any x t s q hq w6' HD6.out)
              clear h1 h2
              go_wp2_with fail
              refine HR.out.mono ?_
              rintro e w8 ⟨rfl, hD8, hk8⟩
              go_wp2_with fail
              go_meet
              exact ⟨⟨_, ec_old HE6'.out hk8 hbx hbt, hD8⟩, HB6.out.trans (hk8.below (by omega) (by omega) HB6.out.size)⟩
            | false =>
              go_wp2_with fail
              go_meet
              exact ⟨⟨s, by simpa using HE6.out, HD6.out⟩, HB6.out⟩
          case rest =>
            obtain ⟨w7, rfl⟩ : ∃ w7 : World, w7 = wc := ⟨_, rfl⟩
            have HX7 := Lib.hid hcut
            clear hcut HE6 HD6 HB6 c06 HCQ HCN
            go_upto_region 18 with fail
            by_cases h3 : i % 3 = 2
            · go_wp2_with fail
              exact ⟨⟨i + 1, by go_num, by omega, HX7.out⟩, by simp [intOf]; omega⟩
            · obtain ⟨⟨s, hE7, hD7⟩, hB7⟩ := HX7.out
              have hl1 := hE7.lt
              have hl2 := hD7.lt
              have hl3 := hD7.dt.lt
              have HHD := Lib.hid (headers_any ra rL.length rc rL w7 (HNS.out.kept hB7) (by omega))
              have c1 := HC1.out w7 hB7
              have hz7 := hB7.size
              have HE7 := Lib.hid hE7
              have HD7 := Lib.hid hD7
              have HB7 := Lib.hid hB7
              clear hE7 hD7 hB7
              go_wp2_with fail
              refine HHD.out.mono ?_
              rintro e w8 ⟨ad, ck, rfl, hok, hb8⟩
              have hz8 := hb8.size
              have hB8 : Below w.heap.size w w8 := HB7.out.trans (hb8.mono hz7)
              have HE8 := Lib.hid (HE7.out.below hb8)
              have HD8 := Lib.hid (HD7.out.below hb8)
              have HOK := Lib.hid hok
              have HB8 := Lib.hid hB8
              have hz88 := hB8.size
              have c18 := HC1.out w8 hB8
              have HEN := Lib.hid (encode_list b A s ra rL.length rc rL w8 HE8.out (fun W hk => HNS.out.kept (HB8.out.trans (hk.below (by omega) (by omega) HB8.out.size))) (by omega) HSK.out)
              have HEX := Lib.hid (fun W hW => encodeD_any x t s ra rL.length rc rL W hW)
              generalize (encode s rL).2 = s2 at HEN HEX
              generalize (encode s rL).1 = bs at HEN HEX
              clear hok hb8 hB8 HHD c1 HX7 HE7 HD7 HB7
              go_wp2_with fail
              refine HEN.out.mono ?_
              rintro e w9 ⟨a9, N9, k9, rfl, hN9, ho9, hE9, hk9⟩
              have hz9 := hk9.size
              have HD9 := Lib.hid (ed_old HD8.out hk9 hne hbx hbt)
              have hB9 : Below w.heap.size w w9 := HB8.out.trans (hk9.below (by omega) (by omega) (by omega))
              have HB9 := Lib.hid hB9
              have hz99 := hB9.size
              have c19 := HC1.out w9 hB9
              have HOK9 := Lib.hid (nown_kq HOK.out hk9 (by omega) (by omega))
              have HO9 := Lib.hid ho9
              have HE9 := Lib.hid hE9
              have HEY := Lib.hid (HEX.out w9 HD9.out (fun W hk => HNS.out.kept (HB9.out.trans (hk.below (by omega) (by omega) HB9.out.size))) (by omega) HSK.out)
              clear ho9 hE9 hk9 hB9 HEN HEX HOK HE8 HD8 HB8 c18 hN9
              go_wp2_with fail
              refine HEY.out.mono ?_
              rintro e w10 ⟨a10, N10, k10, rfl, hN10, ho10, hD10, hk10⟩
              have hz10 := hk10.size
              have HE10 := Lib.hid (ec_old HE9.out hk10 hbx hbt)
              have hB10 : Below w.heap.size w w10 := HB9.out.trans (hk10.below (by omega) (by omega) (by omega))
              have HB10 := Lib.hid hB10
              have c110 := HC1.out w10 hB10
              have HOK10 := Lib.hid (NOwn.ns (nown_kq HOK9.out hk10 (by omega) (by omega)))
              have HO10 := Lib.hid (own_kq HO9.out hk10 (by omega) (by omega))
              have HD10 := Lib.hid hD10
              have HSB := Lib.hid (Hu.same_any a9 N9 k9 bs a10 N10 k10 bs w10 (sl_own HO10.out) (sl_own ho10))
              rw [show (bs == bs) = true from beq_self_eq_true bs] at HSB
              clear ho10 hD10 hk10 hB10 HEY HOK9 HO9 HE9 HD9 HB9 c19 hN10
              go_wp2_with fail
              refine HSB.out.mono ?_
              rintro e w11 ⟨rfl, rfl⟩
              obtain ⟨ad', ck', hck, hnk⟩ := HOK10.out
              cases hck
              have hsb := sumN_bound HSZ.out hl60
              have HSH : Hid (∀ W, Below w10.heap.size w10 W → Calls Tryd.prog 31 #[.slice ra rL.length rc, .slice ad rL.length ck] W fun e w' => e = .returned (.bool true) ∧ w'.cell? ⟨b', o + i * 2 + 1, none⟩ = some (.slice ra rL.length rc) ∧ Below w10.heap.size w10 w') := Lib.hid (fun W hW => by
                refine (sames_any ra rL.length rc ad rL.length ck rL W (HNS.out.kept (HB10.out.trans (hW.mono HB10.out.size))) (hnk.kept hW)).mono ?_
                rintro e w' ⟨rfl, hb⟩
                have hX := hW.trans (hb.mono hW.size)
                exact ⟨rfl, HC1.out w' (HB10.out.trans (hX.mono HB10.out.size)), hX⟩)
              have HZ1 : Hid (∀ W, Below w10.heap.size w10 W → Calls Tryd.prog 32 #[.slice ra rL.length rc] W fun e w' => e = .returned (.int .i64 (sumN rL : Int)) ∧ w'.cell? ⟨b', o + i * 2 + 1, none⟩ = some (.slice ra rL.length rc) ∧ Below w10.heap.size w10 w') := Lib.hid (fun W hW => by
                refine (sizeW_any ra rL.length rc rL W (HNS.out.kept (HB10.out.trans (hW.mono HB10.out.size))) HSZ.out hsb).mono ?_
                rintro e w' ⟨rfl, hb⟩
                have hX := hW.trans (hb.mono hW.size)
                exact ⟨rfl, HC1.out w' (HB10.out.trans (hX.mono HB10.out.size)), hX⟩)
              have HZ2 : Hid (∀ W, Below w10.heap.size w10 W → Calls Tryd.prog 33 #[.slice ra rL.length rc] W fun e w' => e = .returned (.int .i64 (sumN rL : Int)) ∧ w'.cell? ⟨b', o + i * 2 + 1, none⟩ = some (.slice ra rL.length rc) ∧ Below w10.heap.size w10 w') := Lib.hid (fun W hW => by
                refine (dsizeL_any ra rL.length rc rL W (HNS.out.kept (HB10.out.trans (hW.mono HB10.out.size))) HSZ.out hsb).mono ?_
                rintro e w' ⟨rfl, hb⟩
                have hX := hW.trans (hb.mono hW.size)
                exact ⟨rfl, HC1.out w' (HB10.out.trans (hX.mono HB10.out.size)), hX⟩)
              generalize sumN rL = SZ at HZ1 HZ2
              have HST : Hid (∀ W, Below w10.heap.size w10 W → Sx b A x t w W) := Lib.hid (fun W hW => ⟨⟨s2, HE10.out.below hW, HD10.out.below hW⟩, HB10.out.trans (hW.mono HB10.out.size)⟩)
              clear HOK10 HO10 HSB hnk hsb HE10 HD10
              go_upto_region 22 with fail
              go_cut [146] from 120 to 146 (fun s146 wx => s146 = .bool false ∧ Below w10.heap.size w10 wx)
              case first =>
                go_region_held3 (fun w' => w'.cell? ⟨b', o + i * 2 + 1, none⟩ = some (.slice ra rL.length rc) ∧ Below w10.heap.size w10 w')
                  (refine ⟨?_, ?_⟩ <;> first | assumption | (exact Below.drew (Below.refl _ _)) | (refine Below.drew ?_; assumption))
                  (first | (go_at_call 31; refine (HSH.out _ (by first | assumption | exact Below.refl _ _ | exact Below.drew (Below.refl _ _) | exact Below.drew (by assumption))).mono ?_; rintro e w' ⟨rfl, hw1, hw2⟩) | (go_at_call 32; refine (HZ1.out _ (by first | assumption | exact Below.refl _ _ | exact Below.drew (Below.refl _ _) | exact Below.drew (by assumption))).mono ?_; rintro e w' ⟨rfl, hw1, hw2⟩) | (go_at_call 33; refine (HZ2.out _ (by first | assumption | exact Below.refl _ _ | exact Below.drew (Below.refl _ _) | exact Below.drew (by assumption))).mono ?_; rintro e w' ⟨rfl, hw1, hw2⟩))
                all_goals
                  rename_i hSS
                  have hX := hSS.2
                  clear hSS
                  go_wp2_with fail
                  go_meet
                  exact ⟨by simp, hX⟩
              case rest =>
              obtain ⟨rfl, hbX⟩ := hcut
              go_wp2_with fail
              exact ⟨⟨i + 1, by go_num, by omega, HST.out _ hbX⟩, by simp [intOf]; omega⟩
        · obtain rfl : i = n := by omega
          have hBr := hrd.bl
          go_wp2_with fail
          go_ret
          exact ⟨rfl, hBr⟩
    · have hES := eql_same (es 8)
      have hE2 := (HE.out.kept hB2).c109
      have HN := Lib.hid (newEnc_no v (by omega) _ _ w2 hE2)
      clear hE2
      go_wp2_with fail
      refine HN.out.mono ?_
      rintro e w3 ⟨rfl, hb3⟩
      have hB3 : Below w.heap.size w w3 := hB2.trans (hb3.mono hz2)
      have hE3 := (HE.out.kept hB3).c109
      unfold errT at hE3
      by_cases h0 : v < 0
      · go_wp2_with fail
        go_ret
        exact ⟨rfl, hB3⟩
      · have h1 : 4096 < v := by omega
        go_wp2_with fail
        go_ret
        exact ⟨rfl, hB3⟩
end Go.Proofs.YtlkieeindnpidaaDoor
