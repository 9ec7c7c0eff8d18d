/-
  THE LAW HpackNever: the walk.
-/
import Derived.Test.YtlkieeindnpidaaDoorRb
namespace Go.Proofs.YtlkieeindnpidaaDoor
open Go.RowKit Tt Hu Hu.Hf

/-- How long a block is. -/
theorem litB_len' {first bits i : Nat} {h : Hd} (hi : i ≤ 2147483647) (h1 : h.1.size ≤ 1048576) (h2 : h.2.size ≤ 1048576) : (litB first bits i h).length ≤ sizeH h + 18 := by
  unfold litB sizeH
  have e1 := pint_len (first := first) (bits := bits) hi
  have e2 := ptext_len h1
  have e3 := ptext_len h2
  rw [List.length_append, List.length_append]
  split
  · omega
  · simp; omega
theorem encH_len' {m : Nat} {M : List Hd} {h : Hn} (hM : total M ≤ 4096) (h1 : h.1.1.size ≤ 1048576) (h2 : h.1.2.size ≤ 1048576) : (encH m M h).1.length ≤ sizeH h.1 + 18 := by
  have hi := idx_le (n := h.1.1) (v := h.1.2) hM
  unfold encH
  split
  · exact litB_len' hi h1 h2
  · split
    · have := pint_len (first := 128) (bits := 7) hi
      simp only
      omega
    · split
      · exact litB_len' hi h1 h2
      · exact litB_len' hi h1 h2
theorem encL_len : ∀ (L : List Hn) (m : Nat) (M : List Hd), m ≤ 4096 → total M ≤ m → sumN L ≤ 16384 → (encL m M L).1.length ≤ sumN L + 18 * L.length
  | [], m, M, _, _, _ => by simp [encL]
  | h :: L, m, M, hm, hM, hz => by
    have hsum : sumN (h :: L) = sizeH h.1 + sumN L := by simp [sumN]
    rw [hsum] at hz ⊢
    have hs : sizeH h.1 = h.1.1.size + h.1.2.size + 32 := rfl
    have h1 := encH_len' (m := m) (M := M) (h := h) (by omega) (by omega) (by omega)
    have h2 := encL_len L m (encH m M h).2 hm (total_encH hM h) (by omega)
    simp only [encL, List.length_append, List.length_cons]
    omega
theorem encode_len {s : ES} {L : List Hn} (hm : s.m ≤ 4096) (hl : s.asked.getD 0 ≤ 4096) (hM : total s.M ≤ s.m) (hz : sumN L ≤ 16384) : (encode s L).1.length ≤ 12 + sumN L + 18 * L.length := by
  have h1 := sizesB_len s hm hl
  have h2 := encL_len L s.m s.M hm hM hz
  simp only [encode, List.length_append]
  omega
/-- Headers that are Never leave the table. -/
theorem encL_never : ∀ (L : List Hn) (m : Nat) (M : List Hd), (∀ h ∈ L, h.2 = true) → (encL m M L).2 = M
  | [], m, M, _ => rfl
  | h :: L, m, M, hn => by
    have e : (encH m M h).2 = M := by
      unfold encH
      rw [if_pos (hn h List.mem_cons_self)]
    simp only [encL, e]
    exact encL_never L m M fun g hg => hn g (List.mem_cons_of_mem _ hg)
def nev (h : Hn) : Hn := (h.1, true)
/-- The first i of them are Never. -/
def nvL (L : List Hn) (i : Nat) : List Hn := (L.take i).map nev ++ L.drop i
theorem nvL_len (L : List Hn) (i : Nat) : (nvL L i).length = L.length := by simp [nvL]; omega
theorem nvL_get (L : List Hn) (i : Nat) (h : i < L.length) : (nvL L i)[i]'(by rw [nvL_len]; exact h) = L[i] := by
  unfold nvL
  rw [List.getElem_append_right (by simp; omega)]
  simp only [List.length_map, List.length_take, List.getElem_drop]
  congr 1
  omega
theorem nvL_set (L : List Hn) (i : Nat) (h : i < L.length) : (nvL L i).set i (((nvL L i)[i]'(by rw [nvL_len]; exact h)).1, true) = nvL L (i + 1) := by
  rw [nvL_get L i h]
  unfold nvL
  have hl : ((L.take i).map nev).length = i := by simp; omega
  rw [List.set_append_right _ _ (by omega), hl, Nat.sub_self, List.take_add_one, List.getElem?_eq_getElem h, List.drop_eq_getElem_cons h, List.set_cons_zero, List.map_append, List.append_assoc]
  rfl
theorem nvL_all (L : List Hn) : nvL L L.length = L.map nev := by simp [nvL]
theorem sumN_nev (L : List Hn) : sumN (L.map nev) = sumN L := by
  unfold sumN
  rw [List.map_map]
  rfl
def NvRel (L : List Hn) (B : Nat) (ad : Option Addr) (n c : Nat) (w : World) (s9 : Value) (wr : World) : Prop := ∃ i : Nat, s9 = .int .i64 (i : Int) ∧ i ≤ n ∧ NOwn wr B (.slice ad n c) (nvL L i) ∧ Below B w wr
def NrRel (L : List Hn) (b A d D B : Nat) (ad : Option Addr) (n c : Nat) (w : World) (s10 : Value) (wr : World) : Prop := ∃ j : Nat, s10 = .int .i64 (j : Int) ∧ j ≤ 2 ∧ Ec wr b A ⟨4096, [], none⟩ ∧ Dc wr d D 4096 4096 [] ∧ NOwn wr B (.slice ad n c) L ∧ Below w.heap.size w wr

set_option maxRecDepth 100000 in
set_option maxHeartbeats 8000000 in
theorem never_law (es : Nat → Addr) (a : Option Addr) (n c : Nat) (L : List Hn) (w : World) (hE : Env w (errT es)) (hs : Ns w a n c L) (hz : Sz47 L) :
    Calls Tryd.prog 8 #[.slice a n c] w fun e w' => e = .returned (.bool true) ∧ Below w.heap.size w w' := by
  have HS := Lib.hid hs
  have HLN := Lib.hid hs.len
  have HE := Lib.hid hE
  have HZ := Lib.hid hz
  have HF := Lib.hid (first_any (errT es) w hE (errsT es))
  have hg := hE.lt
  clear hs hE hz
  go_enter Tryd.func8, Tryd.ntmps8
  go_wp2_with fail
  refine HF.out.mono ?_
  rintro e w1 ⟨rfl, hb1⟩
  have hz1 := hb1.size
  go_wp2_with fail
  refine (light_any a n c L w1 (HS.out.kept hb1) HZ.out).mono ?_
  rintro e w2 ⟨r, rfl, hr, hb2⟩
  have hB2 : Below w.heap.size w w2 := hb1.trans (hb2.mono hz1)
  have hz2 := hB2.size
  clear hb1 hb2
  cases r with
  | false =>
    go_wp2_with fail
    go_ret
    exact ⟨rfl, hB2⟩
  | true =>
    have hn60 := hr rfl
    clear hr
    have hsb := sumN_bound HZ.out (by rw [HLN.out]; exact hn60)
    have HSZ := Lib.hid (sizeW_any a n c L w2 (HS.out.kept hB2) HZ.out hsb)
    generalize hsx : sumN L = sx at hsb HSZ
    have HSX := Lib.hid hsx
    clear hsx
    by_cases hs9 : sx ≤ 16384
    · go_wp2_with fail
      refine HSZ.out.mono ?_
      rintro e w3 ⟨rfl, hb3⟩
      have hB3 : Below w.heap.size w w3 := hB2.trans (hb3.mono hz2)
      have hz3 := hB3.size
      clear hb3 hB2 HSZ
      go_wp2_with fail
      refine (newEnc_yes 4096 (by omega) w3).mono ?_
      rintro e w4 ⟨b, A, rfl, hEc, hA, hb4⟩
      have hbl := hEc.lt
      have hne := hEc.ne
      have hB4 : Below w.heap.size w w4 := hB3.trans (hb4.mono hz3)
      have hz4 := hb4.size
      clear hb4 hB3
      go_wp2_with fail
      refine (newDec_yes 4096 (by omega) w4 (fun g hm => by have := hg g hm; omega)).mono ?_
      rintro e w5 ⟨d, D, rfl, hDc, hD, hb5⟩
      have hz5 := hb5.size
      have hdl := hDc.lt
      have hdn := hDc.ne
      have hB5 : Below w.heap.size w w5 := hB4.trans (hb5.mono hB4.size)
      have HEC := Lib.hid (hEc.below hb5)
      have HDC := Lib.hid hDc
      have HHD := Lib.hid (headers_any a n c L w5 (HS.out.kept hB5) (by omega))
      clear hEc hDc hb5 hB4 hg
      go_wp2_with fail
      refine HHD.out.mono ?_
      rintro e w6 ⟨ad, c6, rfl, hown, hb6⟩
      have HEC6 := Lib.hid (HEC.out.below hb6)
      have HDC6 := Lib.hid (HDC.out.below hb6)
      have hB6 : Below w.heap.size w w6 := hB5.trans (hb6.mono hB5.size)
      have hz6 := hb6.size
      have HB6 := Lib.hid hB6
      have hzB := hB5.size
      generalize hB : w5.heap.size = B at hown hdl hz6 hzB
      clear HHD HEC HDC hb6 hB6 hB5 hB
      go_wp2_with fail
      go_loopw [9] (fun s9 wr => NvRel L B ad n c6 w6 s9 wr) (fun s9 _ => n - (intOf s9).toNat)
      case atStart => exact ⟨0, rfl, by omega, by simpa [nvL] using hown, Below.refl _ _⟩
      case round =>
        obtain ⟨i, rfl, hi, ho, hBr⟩ := hrel
        clear hown
        by_cases hlt : i < n
        · have hli : i < L.length := by rw [HLN.out]; exact hlt
          obtain ⟨g, rfl, hg1, hg2, _, hfz, hcells⟩ := ho.spot (by rw [nvL_len]; omega)
          obtain ⟨p0, p1, p2⟩ := hcells i (by rw [nvL_len]; exact hli)
          have HO := Lib.hid ho
          have hf2 := hfz (i * 3 + 2)
          have hia : (0 : Int) ≤ (i : Int) := by omega
          have hib : (i : Int) < (n : Int) := by omega
          generalize (nvL L i)[i]'(by rw [nvL_len]; exact hli) = C at p0 p1 p2
          clear hcells hfz p0 p1 ho
          go_wp2_with fail
          have ho2 := HO.out.set2 (i := i) (by rw [nvL_len]; exact hli) true
          rw [nvL_set L i hli] at ho2
          refine ⟨⟨i + 1, by go_num, by omega, ho2, hBr.setCell hg1 _⟩, by simp [intOf]; omega⟩
        · obtain rfl : i = n := by omega
          rw [← HLN.out, nvL_all] at ho
          have HSX' : Hid (sumN (L.map nev) = sx) := Lib.hid (by rw [sumN_nev]; exact HSX.out)
          have HLM : Hid ((L.map nev).length = i) := Lib.hid (by rw [List.length_map]; exact HLN.out)
          have HNV : Hid (∀ m M, (encL m M (L.map nev)).2 = M) := Lib.hid (fun m M => encL_never _ _ _ (fun h hm => by obtain ⟨g, _, rfl⟩ := List.mem_map.1 hm; rfl))
          have HEC7 := Lib.hid (HEC6.out.old hBr (by omega))
          have HDC7 : Hid (Dc wr d D 4096 4096 []) := Lib.hid (HDC6.out.blocks (hBr.block d (by omega)) (hBr.block D (by omega)))
          have HB7 : Hid (Below w.heap.size w wr) := Lib.hid (HB6.out.trans (hBr.mono (by omega)))
          rw [HLN.out] at ho
          have HO := Lib.hid ho
          generalize L.map nev = NL at HSX' HLM HNV HO
          clear ho hBr HEC6 HDC6 HB6
          go_wp2_with fail
          go_loopw [10] (fun s10 wr => NrRel NL b A d D B ad i c6 w s10 wr) (fun s10 _ => 2 - (intOf s10).toNat)
          case atStart => exact ⟨0, rfl, by omega, HEC7.out, HDC7.out, HO.out, HB7.out⟩
          case round =>
            obtain ⟨j, rfl, hj, hEx, hDx, hox, hBx⟩ := hrel
            clear HEC7 HDC7 HO HB7
            by_cases hj2 : j < 2
            · have hns : Ns wr ad i c6 NL := by
                obtain ⟨a', c', he, hns⟩ := hox.ns
                cases he
                exact hns
              have hat := nown_at hox
              have hsm : sumN NL ≤ 16384 := by rw [HSX'.out]; exact hs9
              have hEL := encode_list b A ⟨4096, [], none⟩ ad i c6 NL wr hEx (fun W hk => hns.blk (fun p hp => by have := hat p hp; exact hk.block p.block (by omega) (by omega) (by omega))) (by rw [HLM.out]; omega) (small_of_sum hsm)
              have hbk := block_back (limit := 4096) (m := 4096) (M := []) (s := ⟨4096, [], none⟩) (L := NL) ⟨Nat.le_refl _, rfl, rfl⟩ (by omega) (by simp [total]) (by simp [total]) hsm
              have hel := encode_len (s := ⟨4096, [], none⟩) (L := NL) (Nat.le_refl _) (by simp) (by simp [total]) hsm
              have he2 : (encode ⟨4096, [], none⟩ NL).2 = ⟨4096, [], none⟩ := by simp only [encode, HNV.out]
              rw [he2] at hEL hbk
              have HBK := Lib.hid hbk.1
              generalize (encode ⟨4096, [], none⟩ NL).1 = bs at hEL HBK hel
              rw [HLM.out] at hel
              have HEL := Lib.hid hEL
              have HNS := Lib.hid hns
              have HAT := Lib.hid hat
              have HOX := Lib.hid hox
              have HDX := Lib.hid hDx
              have HBX := Lib.hid hBx
              have hzx := hBx.size
              have hwd := hDx.lt
              clear hEL hbk he2 hns hat hox hDx hBx hEx
              go_wp2_with fail
              refine HEL.out.mono ?_
              rintro e w8 ⟨a1, N1, c1, rfl, hN1, ho1, hE1, hk1⟩
              have hz8 := hk1.size
              have HNS8 : Hid (Ns w8 ad i c6 NL) := Lib.hid (HNS.out.blk (fun p hp => by have := HAT.out p hp; exact hk1.block p.block (by omega) (by omega) (by omega)))
              have HOX8 : Hid (NOwn w8 B (.slice ad i c6) NL) := Lib.hid (HOX.out.blk fun g hg => by have := World.ownsRow.lt HOX.out g hg; exact hk1.block g (by omega) (by omega) (by omega))
              have hD8 : Dc w8 d D 4096 4096 [] := HDX.out.blocks (hk1.block d (by omega) (by omega) (by omega)) (hk1.block D (by omega) (by omega) (by omega))
              have hB8 : Below w.heap.size w w8 := HBX.out.trans (hk1.below (by omega) (by omega) (by omega))
              have hp1 := own_at ho1
              have hN := hN1.out
              have hDE := decode_alive (errT es) d D 4096 4096 [] a1 N1 c1 bs w8 hD8 (sl_own ho1) (by omega) (fun p hp _ => by have := hp1 p hp; omega) (HE.out.kept hB8) (errsT es)
              rw [HBK.out] at hDE
              have HDE := Lib.hid hDE
              have HE1 := Lib.hid hE1
              have HB8 := Lib.hid hB8
              clear hDE ho1 hE1 hk1 hD8 hB8 hp1 hN1 hN HEL HBK HNS HAT HOX HDX HBX
              go_wp2_with fail
              refine HDE.out.mono ?_
              rintro e w9 ⟨hk2, v, rfl, ho2, hD2⟩
              obtain ⟨a2, c2, rfl, hn2⟩ := ho2.ns
              have hz9 := hk2.size
              have hns9 : Ns w9 ad i c6 NL := HNS8.out.blk (fun p hp => by have h1 := nown_at HOX8.out p hp; exact hk2.block p.block (by omega) (by omega) (by omega))
              have HOX9 : Hid (NOwn w9 B (.slice ad i c6) NL) := Lib.hid (HOX8.out.blk fun g hg => by have := World.ownsRow.lt HOX8.out g hg; exact hk2.block g (by omega) (by omega) (by omega))
              have HE9 := Lib.hid (HE1.out.blocks (hk2.block b (by omega) (by omega) (by omega)) (hk2.block A (by omega) (by omega) (by omega)))
              have hB9 : Below w.heap.size w w9 := HB8.out.trans (hk2.below (by omega) (by omega) (by omega))
              have HSM := Lib.hid (sames_any a2 NL.length c2 ad i c6 NL w9 hn2 hns9)
              have HD9 := Lib.hid hD2
              have HB9 := Lib.hid hB9
              have hzw9 := hB9.size
              clear HDE hk2 ho2 hD2 hn2 hns9 hB9 HNS8 HOX8 HE1 HB8
              go_wp2_with fail
              refine HSM.out.mono ?_
              rintro e w10 ⟨rfl, hb10⟩
              have HDL := Lib.hid (decLen_any (HD9.out.below hb10))
              clear HSM
              go_wp2_with fail
              refine HDL.out.mono ?_
              rintro e w' ⟨rfl, rfl⟩
              rw [show ((([] : List Hd).length : Nat) : Int) = 0 from rfl]
              go_wp2_with fail
              refine ⟨⟨j + 1, by go_num, by omega, HE9.out.below hb10, HD9.out.below hb10, HOX9.out.kept hb10, HB9.out.trans (hb10.mono hzw9)⟩, by simp [intOf]; omega⟩
            · obtain rfl : j = 2 := by omega
              go_wp2_with fail
              go_ret
              exact ⟨rfl, hBx⟩
    · go_wp2_with fail
      refine HSZ.out.mono ?_
      rintro e w3 ⟨rfl, hb3⟩
      go_wp2_with fail
      go_ret
      exact ⟨rfl, hB2.trans (hb3.mono hz2)⟩
end Go.Proofs.YtlkieeindnpidaaDoor
