/-
  THE LAW HpackOwn: the walk.
-/
import Derived.Test.YtlfnglnokakpfaaDoorNa
import Derived.Test.YtlfnglnokakpfaaDoorV
namespace Go.Proofs.YtlfnglnokakpfaaDoor
open Go.RowKit Tt Hu Hu.Hf

/-- Where a row of bytes of the call's own lies; its cells may be written. -/
theorem own_spot {w : World} {B : Nat} {a : Option Addr} {N c : Nat} {l : List UInt8} (h : Hu.Own w B (.slice a N c) l) (h0 : 0 < l.length) : ∃ g, a = some ⟨g, 0, none⟩ ∧ B ≤ g ∧ g < w.heap.size ∧ (∀ i, w.frozen? ⟨g, i, none⟩ = false) ∧
    ∀ i (h : i < l.length), w.cell? ⟨g, i, none⟩ = some (.int .u8 ((l[i]).toNat : Int)) := by
  have hsl := sl_own h
  obtain ⟨h1, h2⟩ := h
  rcases h2 with ⟨_, h2⟩ | ⟨g, cap, cur, hv, hg, hh, hnn, hm, hs, ht⟩
  · omega
  · cases hv
    refine ⟨g, rfl, hg, (Array.getElem?_eq_some_iff.1 hh).1, fun i => by simp [World.frozen?, hh], fun i hi => ?_⟩
    obtain ⟨b, o, e, r⟩ := hsl.row i hi
    cases e
    simpa using r
theorem own_set {w : World} {B g N c : Nat} {l : List UInt8} (h : Hu.Own w B (.slice (some ⟨g, 0, none⟩) N c) l) (i : Nat) (x : UInt8) : Hu.Own (w.setCell ⟨g, i, none⟩ (.int .u8 (x.toNat : Int))) B (.slice (some ⟨g, 0, none⟩) N c) (l.set i x) := by
  unfold Hu.Own
  rw [List.length_set, show cellsOf (l.set i x) = (cellsOf l).set i (.int .u8 (x.toNat : Int)) by simp [cellsOf, List.map_set]]
  exact ownsRow_set h _ _
theorem own_blk {w w' : World} {B : Nat} {v : Value} {l : List UInt8} (h : Hu.Own w B v l) (hb : ∀ g, v.ownBlock = some g → w'.heap[g]? = w.heap[g]?) : Hu.Own w' B v l := by
  obtain ⟨h1, h2⟩ := h
  refine ⟨h1, ?_⟩
  rcases h2 with h2 | ⟨g, cap, cur, hv, hg, hh, q⟩
  · exact Or.inl h2
  · refine Or.inr ⟨g, cap, cur, hv, hg, ?_, q⟩
    rw [hb g (by rw [hv]; rfl)]
    exact hh
/-- What a round leaves. -/
structure Rd (L : List Hn) (b A d D Bk : Nat) (ad : Option Addr) (n c : Nat) (w wr : World) : Prop where
  st : ∃ M, Ec wr b A ⟨4096, M, none⟩ ∧ Dc wr d D 4096 4096 M
  ko : NOwn wr Bk (.slice ad n c) L
  bl : Below w.heap.size w wr
def SpRel (L : List Hn) (B1 B2 : Nat) (a1 : Option Addr) (N1 c1 : Nat) (a2 : Option Addr) (c2 : Nat) (w9 : World) (s13 : Value) (wr : World) : Prop := ∃ (i : Nat) (l : List UInt8), s13 = .int .i64 (i : Int) ∧ i ≤ N1 ∧ l.length = N1 ∧ Hu.Own wr B1 (.slice a1 N1 c1) l ∧ NOwn wr B2 (.slice a2 L.length c2) L ∧ Below B1 w9 wr
def SqRel (n B1 B2 : Nat) (a2 : Option Addr) (c2 : Nat) (w9 : World) (s14 : Value) (wr : World) : Prop := ∃ (i : Nat) (L : List Hn), s14 = .int .i64 (i : Int) ∧ i ≤ n ∧ L.length = n ∧ NOwn wr B2 (.slice a2 n c2) L ∧ Below B1 w9 wr

set_option maxRecDepth 100000 in
set_option maxHeartbeats 8000000 in
theorem own_law (es : Nat → Addr) (a : Option Addr) (n c : Nat) (L : List Hn) (w : World) (hE : Env w (errT es)) (hs : Ns w a n c L) (hz : Sz47 L) :
    Calls Tryd.prog 10 #[.slice a n c] w fun e w' => e = .returned (.bool true) ∧ Below w.heap.size w w' := by
  have HS := Lib.hid hs
  have HLN := Lib.hid hs.len
  have HE := Lib.hid hE
  have HZ := Lib.hid hz
  have HF := Lib.hid (first_any (errT es) w hE (errsT es))
  have hg := hE.lt
  clear hs hE hz
  go_enter Tryd.func10, Tryd.ntmps10
  go_wp2_with fail
  refine HF.out.mono ?_
  rintro e w1 ⟨rfl, hb1⟩
  have hz1 := hb1.size
  go_wp2_with fail
  refine (light_any a n c L w1 (HS.out.kept hb1) HZ.out).mono ?_
  rintro e w2 ⟨r, rfl, hr, hb2⟩
  have hB2 : Below w.heap.size w w2 := hb1.trans (hb2.mono hz1)
  have hz2 := hB2.size
  clear hb1 hb2
  cases r with
  | false =>
    go_wp2_with fail
    go_ret
    exact ⟨rfl, hB2⟩
  | true =>
    have hn60 := hr rfl
    clear hr
    have hsb := sumN_bound HZ.out (by rw [HLN.out]; exact hn60)
    have HSZ := Lib.hid (sizeW_any a n c L w2 (HS.out.kept hB2) HZ.out hsb)
    generalize hsx : sumN L = sx at hsb HSZ
    have HSX := Lib.hid hsx
    clear hsx
    by_cases hs9 : sx ≤ 16384
    · go_wp2_with fail
      refine HSZ.out.mono ?_
      rintro e w3 ⟨rfl, hb3⟩
      have hB3 : Below w.heap.size w w3 := hB2.trans (hb3.mono hz2)
      have hz3 := hB3.size
      have HHD := Lib.hid (headers_any a n c L w3 (HS.out.kept hB3) (by omega))
      clear hb3 hB2 HSZ
      go_wp2_with fail
      refine HHD.out.mono ?_
      rintro e w4 ⟨ad, c4, rfl, hko, hb4⟩
      have hB4 : Below w.heap.size w w4 := hB3.trans (hb4.mono hz3)
      have hz4 := hB4.size
      clear hb4 hB3 HHD
      go_wp2_with fail
      refine (newEnc_yes 4096 (by omega) w4).mono ?_
      rintro e w5 ⟨b, A, rfl, hEc, hA, hb5⟩
      have hbl := hEc.lt
      have hne := hEc.ne
      have hB5 : Below w.heap.size w w5 := hB4.trans (hb5.mono hz4)
      have hz5 := hb5.size
      have hko5 := hko.kept hb5
      have HKA : Hid (∀ g, (Value.slice ad n c4).ownBlock = some g → g < A) := Lib.hid (fun g hgg => by have := World.ownsRow.lt hko g hgg; omega)
      clear hb5 hB4 hko
      go_wp2_with fail
      refine (newDec_yes 4096 (by omega) w5 (fun g hm => by have := hg g hm; omega)).mono ?_
      rintro e w6 ⟨d, D, rfl, hDc, hD, hb6⟩
      have hz6 := hb6.size
      have hdn := hDc.ne
      have hB6 : Below w.heap.size w w6 := hB5.trans (hb6.mono hB5.size)
      have HRD : Hid (Rd L b A d D w3.heap.size ad n c4 w w6) := Lib.hid ⟨⟨[], hEc.below hb6, hDc⟩, hko5.kept hb6, hB6⟩
      have hAw : w.heap.size ≤ A := by omega
      have hDb : b < D := by omega
      clear hEc hDc hb6 hB5 hB6 hg hko5 hA hD hbl hz6 hz5
      generalize w3.heap.size = Bk at HRD
      go_wp2_with fail
      go_loopw [9] (fun s9 wr => ∃ j : Nat, s9 = .int .i64 (j : Int) ∧ j ≤ 3 ∧ Rd L b A d D Bk ad n c4 w wr) (fun s9 _ => 3 - (intOf s9).toNat)
      case atStart => exact ⟨0, rfl, by omega, HRD.out⟩
      case round =>
        obtain ⟨j, rfl, hj, hrd⟩ := hrel
        clear HRD
        by_cases hj3 : j < 3
        · obtain ⟨⟨M, hEx, hDx⟩, hox, hBx⟩ := hrd
          have hsm : sumN L ≤ 16384 := by rw [HSX.out]; exact hs9
          have hM4 := hEx.has.total_le
          have hEL := encode_list b A ⟨4096, M, none⟩ a n c L wr hEx (fun W hk => HS.out.kept (hBx.trans (hk.below (by omega) (by omega) hBx.size))) (by rw [HLN.out]; omega) (small_of_sum hsm)
          have hbk := block_back (limit := 4096) (m := 4096) (M := M) (s := ⟨4096, M, none⟩) (L := L) ⟨Nat.le_refl _, rfl, rfl⟩ (by omega) hM4 hM4 hsm
          have hel := encode_len (s := ⟨4096, M, none⟩) (L := L) (Nat.le_refl _) (by simp) hM4 hsm
          have he2 : (encode ⟨4096, M, none⟩ L).2 = ⟨4096, (encode ⟨4096, M, none⟩ L).2.M, none⟩ := rfl
          rw [he2] at hEL
          have HBK := Lib.hid hbk.1
          generalize (encode ⟨4096, M, none⟩ L).2.M = M' at hEL HBK
          generalize (encode ⟨4096, M, none⟩ L).1 = bs at hEL HBK hel
          rw [HLN.out] at hel
          have HEL := Lib.hid hEL
          have HOX := Lib.hid hox
          have HDX := Lib.hid hDx
          have HBX := Lib.hid hBx
          have hzx := hBx.size
          have hwd := hDx.lt
          have hel9 : bs.length ≤ 100000 := by rw [HSX.out] at hel; omega
          clear hEL hbk he2 hox hDx hBx hEx hel hM4
          generalize hB1 : wr.heap.size = B1 at HEL hzx hwd
          go_wp2_with fail
          refine HEL.out.mono ?_
          rintro e w8 ⟨a1, N1, c1, rfl, hN1, ho1, hE1, hk1⟩
          have hz8 := hk1.size
          rw [hB1] at hz8
          have HOX8 : Hid (NOwn w8 Bk (.slice ad n c4) L) := Lib.hid (HOX.out.blk fun g hg => by have := HKA.out g hg; exact hk1.block g (by omega) (by omega) (by omega))
          have hD8 : Dc w8 d D 4096 4096 M := HDX.out.blocks (hk1.block d (by omega) (by omega) (by omega)) (hk1.block D (by omega) (by omega) (by omega))
          have hB8 : Below w.heap.size w w8 := HBX.out.trans (hk1.below (by omega) (by omega) (by omega))
          have HP1 := Lib.hid (own_at ho1)
          have hN := hN1.out
          subst hN
          have HBY := Lib.hid (bytes_any a1 bs.length c1 bs w8 (sl_own ho1) (by omega))
          have HO1 := Lib.hid ho1
          have HE1 := Lib.hid hE1
          have HD8 := Lib.hid hD8
          have HB8 := Lib.hid hB8
          clear hB1 ho1 hE1 hk1 hD8 hB8 hN1 HEL HOX HDX HBX
          go_wp2_with fail
          refine HBY.out.mono ?_
          rintro e w9 ⟨a9, N9, c9, rfl, hN9, ho9, hb9⟩
          have hz9 := hb9.size
          have hB9 : Below w.heap.size w w9 := HB8.out.trans (hb9.mono HB8.out.size)
          have hp9 := own_at ho9
          have hN9' := hN9.out
          subst hN9'
          have hDE := decode_alive (errT es) d D 4096 4096 M a9 bs.length c9 bs w9 (HD8.out.below hb9) (sl_own ho9) (by omega) (fun p hp _ => by have := hp9 p hp; omega) (HE.out.kept hB9) (errsT es)
          rw [HBK.out] at hDE
          have HDE := Lib.hid hDE
          have HE9 := Lib.hid (HE1.out.below hb9)
          have HO9 := Lib.hid (HO1.out.kept hb9)
          have HOX9 := Lib.hid (HOX8.out.kept hb9)
          have HB9 := Lib.hid hB9
          clear hDE ho9 hb9 hB9 hp9 hN9 HBK HBY HE1 HO1 HOX8 HB8 HD8
          go_wp2_with fail
          refine HDE.out.mono ?_
          rintro e w10 ⟨hk2, v, rfl, ho2, hD2⟩
          obtain ⟨a2, c2, rfl, hn2⟩ := ho2.ns
          have hzA := hk2.size
          have hOA : NOwn w10 Bk (.slice ad n c4) L := HOX9.out.blk fun g hg => by have := HKA.out g hg; exact hk2.block g (by omega) (by omega) (by omega)
          have hOB : Hu.Own w10 B1 (.slice a1 bs.length c1) bs := own_blk HO9.out fun g hg => by have := World.ownsRow.lt HO9.out g hg; exact hk2.block g (by omega) (by omega) (by omega)
          have hEA := HE9.out.blocks (hk2.block b (by omega) (by omega) (by omega)) (hk2.block A (by omega) (by omega) (by omega))
          have hBA : Below w.heap.size w w10 := HB9.out.trans (hk2.below (by omega) (by omega) (by omega))
          have hnsA : Ns w10 ad n c4 L := by
            obtain ⟨a', c', he, hns⟩ := hOA.ns
            cases he
            exact hns
          have HSM := Lib.hid (sames_any a2 L.length c2 ad n c4 L w10 hn2 hnsA)
          have HOA := Lib.hid hOA
          have HOB := Lib.hid hOB
          have HOM := Lib.hid ho2
          have HEA := Lib.hid hEA
          have HDA := Lib.hid hD2
          have HBA := Lib.hid hBA
          have hzw9 := hBA.size
          have HPB : Hid (∀ p, a1 = some p → p.block < w9.heap.size) := Lib.hid (fun p hp => by have := HP1.out p hp; omega)
          generalize hB2 : w9.heap.size = B2 at HOM HPB hz9 hzA
          clear HDE hk2 ho2 hD2 hn2 hnsA hOA hOB hEA hBA HOX9 HO9 HE9 HB9 HP1 hB2
          go_wp2_with fail
          refine HSM.out.mono ?_
          rintro e w11 ⟨rfl, hbB⟩
          have HOA := Lib.hid (HOA.out.kept hbB)
          have HOB := Lib.hid (HOB.out.kept hbB)
          have HOM := Lib.hid (HOM.out.kept hbB)
          have HEA := Lib.hid (HEA.out.below hbB)
          have HDA := Lib.hid (HDA.out.below hbB)
          have HBA : Hid (Below w.heap.size w w11) := Lib.hid (HBA.out.trans (hbB.mono hzw9))
          have hzB := hbB.size
          clear HSM hbB
          have hLn := HLN.out
          generalize hbl : bs.length = N1 at HOB hel9
          go_wp2_with fail
          go_loopw [13] (fun s13 wr => SpRel L B1 B2 a1 N1 c1 a2 c2 w11 s13 wr) (fun s13 _ => N1 - (intOf s13).toNat)
          case atStart => exact ⟨0, bs, rfl, by omega, hbl, HOB.out, HOM.out, Below.refl _ _⟩
          case round =>
            obtain ⟨i, l, rfl, hi, hll, hol, hom, hBr⟩ := hrel
            clear HOB HOM hbl
            by_cases hlt : i < N1
            · obtain ⟨g, rfl, hg1, hg2, hfz, hcells⟩ := own_spot hol (by omega)
              have p0 := hcells i (by omega)
              have hf0 := hfz i
              have HPG := HPB.out _ rfl
              simp only at HPG
              have HOL := Lib.hid hol
              have HOM' := Lib.hid hom
              have hia : (0 : Int) ≤ (i : Int) := by omega
              have hib : (i : Int) < (N1 : Int) := by omega
              clear hcells hfz hol hom
              go_wp2_with fail
              refine ⟨⟨i + 1, l.set i 238, by go_num, by omega, by rw [List.length_set]; exact hll, own_set HOL.out i 238, HOM'.out.blk fun k hk => Below.heap_setCell _ _ _ _ (by have := World.ownsRow.lt HOM'.out k hk; simp only; omega), hBr.setCell hg1 _⟩, by simp [intOf]; omega⟩
            · obtain rfl : i = N1 := by omega
              have HOM' := Lib.hid hom
              have HBr := Lib.hid hBr
              obtain ⟨wq, hwq⟩ : ∃ wq : World, wq = wr := ⟨_, rfl⟩
              clear hol hom hll
              go_wp2_with fail
              go_loopw [14] (fun s14 wr => SqRel L.length B1 B2 a2 c2 w11 s14 wr) (fun s14 _ => L.length - (intOf s14).toNat)
              case atStart => exact ⟨0, L, rfl, by omega, rfl, HOM'.out, HBr.out⟩
              case round =>
                obtain ⟨k, L', rfl, hk, hLL, hom, hBr⟩ := hrel
                clear HOM' HBr
                by_cases hlt : k < L.length
                · obtain ⟨g, rfl, hg1, hg2, _, hfz, hcells⟩ := hom.spot (by omega)
                  obtain ⟨p0, p1, p2⟩ := hcells k (by omega)
                  have hf0 := hfz (k * 3)
                  have hf1 := hfz (k * 3 + 1)
                  have HOM' := Lib.hid hom
                  have hka : (0 : Int) ≤ (k : Int) := by omega
                  have hkb : (k : Int) < (L.length : Int) := by omega
                  clear hcells hfz hom p2
                  go_wp2_with fail
                  have q1 := HOM'.out.set0 (i := k) (by omega) ⟨#[115, 112, 111, 105, 108, 116]⟩
                  have q2 := q1.set1 (i := k) (by rw [List.length_set]; omega) ⟨#[115, 112, 111, 105, 108, 116]⟩
                  refine ⟨⟨k + 1, _, by go_num, by omega, ?_, q2, (hBr.setCell (by simp only; omega) _).setCell (by simp only; omega) _⟩, by simp [intOf]; omega⟩
                  rw [List.length_set, List.length_set]
                  exact hLL
                · obtain rfl : k = L.length := by omega
                  clear hom
                  go_wp2_with fail
                  refine ⟨⟨j + 1, by go_num, by omega, ⟨⟨M', HEA.out.blocks (hBr.block b (by omega)) (hBr.block A (by omega)), HDA.out.blocks (hBr.block d (by omega)) (hBr.block D (by omega))⟩, HOA.out.blk fun g hg => hBr.block g (by have := HKA.out g hg; omega), HBA.out.trans (hBr.mono hzx)⟩⟩, by simp [intOf]; omega⟩
        · obtain rfl : j = 3 := by omega
          have hnsA : Ns wr ad n c4 L := by
            obtain ⟨a', c', he, hns⟩ := hrd.ko.ns
            cases he
            exact hns
          have HSM := Lib.hid (sames_any a n c ad n c4 L wr (HS.out.kept hrd.bl) hnsA)
          have hBr := hrd.bl
          clear hrd hnsA
          go_wp2_with fail
          refine HSM.out.mono ?_
          rintro e w9 ⟨rfl, hb9⟩
          go_wp2_with fail
          go_ret
          exact ⟨rfl, hBr.trans (hb9.mono hBr.size)⟩
    · go_wp2_with fail
      refine HSZ.out.mono ?_
      rintro e w3 ⟨rfl, hb3⟩
      go_wp2_with fail
      go_ret
      exact ⟨rfl, hB2.trans (hb3.mono hz2)⟩
end Go.Proofs.YtlfnglnokakpfaaDoor
