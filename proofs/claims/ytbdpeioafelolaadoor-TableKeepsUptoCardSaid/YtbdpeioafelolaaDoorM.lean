/-
  THE LAW TablePlays: its walk.
-/
import Derived.Test.YtbdpeioafelolaaDoorU
import Derived.LaidEql
namespace Go.Proofs.YtbdpeioafelolaaDoor
open Go.RowKit

theorem has_find {w : World} {A m : Nat} {M : List Hd} (h : Has w A m M) (name value : ByteArray) :
    Calls Tryd.prog 18 #[.pointer (some ⟨A, 0, none⟩), .string name, .string value] w fun e w' => e = .returned (.tuple #[.int .i64 ((fnd name value (allL M)).1 : Int), .bool (fnd name value (allL M)).2]) ∧ Below w.heap.size w w' := by
  obtain ⟨R, o, hr, ht, hM⟩ := h; exact find_any A name value M w hr ht
theorem has_resize_no {w : World} {A m : Nat} {M : List Hd} (_h : Has w A m M) (x : Int) (hx : x < 0 ∨ 4096 < x) (ev : Value) (hE : w.cell? ⟨0, 0, none⟩ = some ev) :
    Calls Tryd.prog 15 #[.pointer (some ⟨A, 0, none⟩), .int .i64 x] w fun e w' => e = .returned ev ∧ Below w.heap.size w w' :=
  (resize_no A x hx ev w hE).mono fun e w' ⟨h, q, hq⟩ => ⟨h, by rw [hq]; exact bdN (Below.refl _ _) q⟩
theorem infoP : (Tryd.prog.info? 71).map (fun i => i.comparable) = some true := by kernel_rfl
theorem infoT : (Tryd.prog.info? 87).map (fun i => i.size) = some 1 := by kernel_rfl
theorem eql_same (p : Addr) (w : World) : (binOp .eql 27 (.iface 71 (.pointer (some p))) (.iface 71 (.pointer (some p)))).run Tryd.prog w = .ok (.bool true) w := by
  obtain ⟨i, hi, hc⟩ := Option.map_eq_some_iff.1 infoP
  obtain ⟨j, hj, _⟩ := Option.map_eq_some_iff.1 infoT
  exact run_eql_iface_ptr_same w p Tryd.underlying27 Tryd.underlying71 hi hc hj
/-- The rounds over the calls. -/
def PlR (n A x : Nat) (w : World) (s15 : Value) (wr : World) : Prop := ∃ (i m : Nat) (M : List Hd), s15 = .int .i64 (i : Int) ∧ i ≤ n ∧ m ≤ 4096 ∧ Has wr A m M ∧ Dt wr x M.reverse m ∧ Below w.heap.size w wr
set_option maxRecDepth 100000 in
set_option maxHeartbeats 8000000 in
theorem plays_any (x : Int) (a1 : Option Addr) (n1 c1 : Nat) (L1 : List Cal) (ask : Int) (name value : ByteArray) (w : World) (ae : Addr) (hE : w.cell? ⟨0, 0, none⟩ = some (.iface 71 (.pointer (some ae)))) (h1 : Cl w a1 n1 c1 L1)
    (ha : -9223372036854775808 ≤ ask ∧ ask ≤ 9223372036854775807) :
    Calls Tryd.prog 3 #[.int .i64 x, .slice a1 n1 c1, .int .i64 ask, .string name, .string value] w fun e w' => e = .returned (.bool true) ∧ Below w.heap.size w w' := by
  have H1 := Lib.hid h1
  have hm1 := h1.max
  have HL1 := Lib.hid h1.len
  have HE := Lib.hid (fun W (hW : Below w.heap.size w W) => (hW.cell (p := ⟨0, 0, none⟩) (cell_lt hE)).trans hE)
  clear h1 hE
  go_enter Tryd.func3, Tryd.ntmps3
  go_wp2_with fail
  refine (first_any _).mono ?_
  rintro e w1 ⟨rfl, hb1⟩
  go_wp2_with fail
  refine (light_any a1 n1 c1 L1 w1 (H1.out.kept hb1)).mono ?_
  rintro e w2 ⟨y1, rfl, hy1, hb2⟩
  have hB2 : Below w.heap.size w w2 := hb1.trans (hb2.mono hb1.size)
  cases y1 with
  | false =>
    go_wp2_with fail
    go_ret
    exact ⟨rfl, hB2⟩
  | true =>
    have hn1 := hy1 rfl
    clear hy1 hb1 hb2
    by_cases hnz : 20000 < name.size
    · have hd1 : decide ((20000 : Int) < (name.size : Int)) = true := by simp; omega
      go_wp2_with fail
      go_ret
      exact ⟨rfl, hB2⟩
    have hd1 : decide ((20000 : Int) < (name.size : Int)) = false := by simp; omega
    by_cases hvz : 20000 < value.size
    · have hd2 : decide ((20000 : Int) < (value.size : Int)) = true := by simp; omega
      go_wp2_with fail
      go_ret
      exact ⟨rfl, hB2⟩
    have hd2 : decide ((20000 : Int) < (value.size : Int)) = false := by simp; omega
    clear hnz hvz
    by_cases hx : 0 ≤ x ∧ x ≤ 4096
    · obtain ⟨m, rfl⟩ : ∃ m : Nat, x = m := ⟨x.toNat, by omega⟩
      have hm : m ≤ 4096 := by omega
      have HCN := Lib.hid (fun W => can_yes m hm W)
      have HNW := Lib.hid (fun W => has_new m hm W)
      have HDN := Lib.hid (fun W => dnew_any m W hm)
      clear hx
      go_wp2_with fail
      refine (HNW.out _).mono ?_
      rintro e w4 ⟨rfl, hA4, hb4⟩
      have hB4 : Below w.heap.size w w4 := hB2.trans (hb4.mono hB2.size)
      have hwA : w.heap.size ≤ w2.heap.size := hB2.size
      go_wp2_with fail
      refine (HCN.out _).mono ?_
      rintro e w' ⟨rfl, rfl⟩
      go_wp2_with fail
      refine (HDN.out _).mono ?_
      rintro e w5 ⟨rfl, hX5, hb5⟩
      have hB5 : Below w.heap.size w w5 := hB4.trans (hb5.mono hB4.size)
      have hA5 := hA4.below hb5
      have hAB : w2.heap.size < w4.heap.size := hA4.lt
      generalize w2.heap.size = A at hA5 hAB hwA ⊢
      generalize w4.heap.size = X at hX5 hAB ⊢
      clear hA4 hb4 hb5 hB4 hB2 HCN HNW HDN
      go_wp2_with fail
      go_loopw [15] (fun s15 wr => PlR n1 A X w s15 wr) (fun s15 _ => n1 - (intOf s15).toNat)
      case atStart => exact ⟨0, m, [], rfl, by omega, hm, hA5, hX5, hB5⟩
      case round =>
        clear hA5 hX5 hB5
        obtain ⟨i, m, M, rfl, hin, hm, hA, hX, hBw⟩ := hrel
        have hTM := hA.total_le
        have hge := total_ge M
        by_cases hlt : i < n1
        · obtain ⟨b, o, rfl, e0, e1, e2, e3, e4⟩ := (H1.out.kept hBw).row i (by rw [HL1.out]; exact hlt)
          have hsz := H1.out.sz i (by rw [HL1.out]; exact hlt)
          have HCL := Lib.hid (fun W (hW : Below w.heap.size w W) => (H1.out.kept hW).row i (by rw [HL1.out]; exact hlt))
          generalize hC : L1[i]'(by rw [HL1.out]; exact hlt) = C at e0 e1 e2 e3 e4 hsz HCL
          clear hC
          have hia : (0 : Int) ≤ (i : Int) := by omega
          have hib : (i : Int) < (n1 : Int) := by omega
          by_cases hk : C.kind = 1
          · have hkb : ((C.kind : Int) == 1) = true := by rw [hk]; rfl
            clear hk
            have HAD := Lib.hid (has_add hA hm C.h C.nev hsz.1 hsz.2)
            have HX := Lib.hid hX
            clear hA hX
            go_wp2_with fail
            refine HAD.out.mono ?_
            rintro e w8 ⟨rfl, hA8, hk8⟩
            have hX8 := HX.out.kp hk8 hAB
            have hw8 := hBw.trans (hk8.below hwA hBw.size)
            obtain ⟨b', o', e', e0, e1, e2, e3, e4⟩ := HCL.out w8 hw8
            cases e'
            have HDA := Lib.hid (dadd_any X m M C.h C.nev w8 hX8 hTM hm hsz.1 hsz.2)
            have HA8 := Lib.hid hA8
            clear HAD HX hA8 hk8 hX8
            go_wp2_with fail
            refine HDA.out.mono ?_
            rintro e w9 ⟨rfl, hX9, hk9⟩
            have hA9 := HA8.out.kp hk9 (by omega)
            have hw9 := hw8.trans (hk9.below (by omega) hw8.size)
            have HIS := Lib.hid (is_any A X m _ ask w9 hA9 hX9 hm ha)
            have HA9 := Lib.hid hA9
            have HX9 := Lib.hid hX9
            clear HDA HA8 hk9 hA9 hX9
            go_wp2_with fail
            refine HIS.out.mono ?_
            rintro e w10 ⟨rfl, hb10⟩
            have hw10 := hw9.trans (hb10.mono hw9.size)
            go_wp2_with fail
            exact ⟨⟨i + 1, m, _, by go_num, by omega, hm, HA9.out.below hb10, HX9.out.below hb10, hw10⟩, by simp [intOf]; omega⟩
          · have hkb : ((C.kind : Int) == 1) = false := by rw [beq_eq_false_iff_ne]; exact hk
            clear hk
            by_cases hr : 0 ≤ C.num ∧ C.num ≤ 4096
            · obtain ⟨q, hq⟩ : ∃ q : Nat, C.num = q := ⟨C.num.toNat, by omega⟩
              have hq4 : q ≤ 4096 := by omega
              rw [hq] at e1
              have HCN := Lib.hid (fun W => can_yes q hq4 W)
              have HRS := Lib.hid (has_resize hA hm q hq4)
              have HX := Lib.hid hX
              have HQ := Lib.hid hq
              clear hA hX hr hq
              go_wp2_with fail
              refine (HCN.out _).mono ?_
              rintro e w' ⟨rfl, rfl⟩
              go_wp2_with fail
              refine HRS.out.mono ?_
              rintro e w8 ⟨rfl, hA8, hk8⟩
              have hX8 := HX.out.kp hk8 hAB
              have hw8 := hBw.trans (hk8.below hwA hBw.size)
              obtain ⟨b', o', e', e0, e1, e2, e3, e4⟩ := HCL.out w8 hw8
              cases e'
              rw [HQ.out] at e1
              have HDA := Lib.hid (dresize_any X m q M w8 hX8 (by omega) hq4)
              have HA8 := Lib.hid hA8
              clear HRS HX hA8 hk8 hX8
              go_wp2_with fail
              refine HDA.out.mono ?_
              rintro e w9 ⟨rfl, hX9, hk9⟩
              have hA9 := HA8.out.kp hk9 (by omega)
              have hw9 := hw8.trans (hk9.below (by omega) hw8.size)
              have HIS := Lib.hid (is_any A X q _ ask w9 hA9 hX9 hq4 ha)
              have HA9 := Lib.hid hA9
              have HX9 := Lib.hid hX9
              clear HDA HA8 hk9 hA9 hX9
              go_wp2_with fail
              refine HIS.out.mono ?_
              rintro e w10 ⟨rfl, hb10⟩
              have hw10 := hw9.trans (hb10.mono hw9.size)
              go_wp2_with fail
              exact ⟨⟨i + 1, q, _, by go_num, by omega, hq4, HA9.out.below hb10, HX9.out.below hb10, hw10⟩, by simp [intOf]; omega⟩
            · have HCN := Lib.hid (fun W => can_no C.num (by omega) W)
              have HRS := Lib.hid (has_resize_no hA C.num (by omega) _ (HE.out wr hBw))
              have HX := Lib.hid hX
              have HA := Lib.hid hA
              clear hA hX hr
              go_wp2_with fail
              refine (HCN.out _).mono ?_
              rintro e w' ⟨rfl, rfl⟩
              go_wp2_with fail
              refine HRS.out.mono ?_
              rintro e w8 ⟨rfl, hb8⟩
              have hX8 := HX.out.below hb8
              have hA8 := HA.out.below hb8
              have hw8 := hBw.trans (hb8.mono hBw.size)
              have HIS := Lib.hid (is_any A X m _ ask w8 hA8 hX8 hm ha)
              have HA9 := Lib.hid hA8
              have HX9 := Lib.hid hX8
              clear HRS HX HA hA8 hX8
              go_wp2_with fail
              refine HIS.out.mono ?_
              rintro e w10 ⟨rfl, hb10⟩
              have hw10 := hw8.trans (hb10.mono hw8.size)
              go_wp2_with fail
              exact ⟨⟨i + 1, m, _, by go_num, by omega, hm, HA9.out.below hb10, HX9.out.below hb10, hw10⟩, by simp [intOf]; omega⟩
        · have HF := Lib.hid (has_find hA name value)
          have HX := Lib.hid hX
          clear hA hX
          go_wp2_with fail
          refine HF.out.mono ?_
          rintro e w8 ⟨rfl, hb8⟩
          have hw8 := hBw.trans (hb8.mono hBw.size)
          have HF2 := Lib.hid (dfind_any X m name value M w8 (HX.out.below hb8) (by omega))
          clear HF
          generalize (fnd name value (allL M)).1 = fi at HF2 ⊢
          generalize (fnd name value (allL M)).2 = fb at HF2 ⊢
          go_wp2_with fail
          refine HF2.out.mono ?_
          rintro e w9 ⟨rfl, hb9⟩
          have hw9 := hw8.trans (hb9.mono hw8.size)
          have hff : ((fi : Int) == (fi : Int)) = true := by simp
          have hbb : (fb == fb) = true := by simp
          go_wp2_with fail
          go_ret
          exact ⟨rfl, hw9⟩
    · have HCN := Lib.hid (fun W => can_no x (by omega) W)
      have HNW := Lib.hid (new_no x (by omega) _ w2 (HE.out w2 hB2))
      clear hx
      go_wp2_with fail
      refine HNW.out.mono ?_
      rintro e w4 ⟨rfl, hb4⟩
      have hB4 : Below w.heap.size w w4 := hB2.trans (hb4.mono hB2.size)
      have hE4 := HE.out w4 hB4
      go_wp2_with fail
      refine (HCN.out _).mono ?_
      rintro e w' ⟨rfl, rfl⟩
      have HES := fun W => eql_same ae W
      go_wp2
      go_ret
      exact ⟨rfl, hB4⟩
end Go.Proofs.YtbdpeioafelolaaDoor
