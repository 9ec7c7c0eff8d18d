/-
  THE LAW TableEmptied: its walk.
-/
import Derived.Test.YtbdpeioafelolaaDoorP
namespace Go.Proofs.YtbdpeioafelolaaDoor
open Go.RowKit

theorem can_yes (m : Nat) (h : m ≤ 4096) (w : World) : Calls Tryd.prog 11 #[.int .i64 (m : Int)] w fun e w' => e = .returned (.bool true) ∧ w = w' := by
  have h1 : decide ((m : Int) ≤ 4096) = true := by simp; omega
  go_enter Tryd.func11, Tryd.ntmps11
  go_wp2
  go_ret
  exact ⟨by simp [h1], rfl⟩
theorem can_no (m : Int) (h : m < 0 ∨ 4096 < m) (w : World) : Calls Tryd.prog 11 #[.int .i64 m] w fun e w' => e = .returned (.bool false) ∧ w = w' := by
  rcases h with h | h
  · go_enter Tryd.func11, Tryd.ntmps11
    go_wp2
    go_ret
    exact ⟨rfl, rfl⟩
  · have h' : ¬ m < 0 := by omega
    have h2 : 0 ≤ m := by omega
    have h1 : decide (m ≤ 4096) = false := by simp; omega
    go_enter Tryd.func11, Tryd.ntmps11
    go_wp2
    go_ret
    exact ⟨by simp [h1], rfl⟩
/-- A table at block A with some headers. -/
def Has (w : World) (A m : Nat) (M : List Hd) : Prop := ∃ (R : Nat → Hd) (o : Nat), Rg R o M ∧ Tb w A R o M.length (total M) m ∧ total M ≤ m
theorem Has.lt {w : World} {A m : Nat} {M : List Hd} (h : Has w A m M) : A < w.heap.size := by obtain ⟨R, o, _, ht, _⟩ := h; exact ht.lt
theorem Has.kp {w w' : World} {A B m : Nat} {M : List Hd} (h : Has w A m M) (hk : Kp B w w') (hne : A ≠ B) : Has w' A m M := by
  have hl := h.lt
  obtain ⟨R, o, hr, ht, hm⟩ := h
  exact ⟨R, o, hr, ht.kept (hk.block A hl hne), hm⟩
theorem Has.below {w w' : World} {A m : Nat} {M : List Hd} (h : Has w A m M) (hb : Below w.heap.size w w') : Has w' A m M := by
  obtain ⟨R, o, hr, ht, hm⟩ := h
  exact ⟨R, o, hr, ht.below hb, hm⟩
theorem has_add {w : World} {A m : Nat} {M : List Hd} (h : Has w A m M) (hm : m ≤ 4096) (g : Hd) (c : Bool) (h1 : g.1.size ≤ 140737488351232) (h2 : g.2.size ≤ 140737488351232) :
    Calls Tryd.prog 13 #[.pointer (some ⟨A, 0, none⟩), hdN g c] w fun e w' => e = .returned (.tuple #[]) ∧ Has w' A m (addM m M g) ∧ Kp A w w' := by
  obtain ⟨R, o, hr, ht, hM⟩ := h
  refine (add_any A m M g c w (by omega) (by omega) hm hM hr ht).mono ?_
  rintro e w' ⟨R', o', h1, h2, h3, h4, h5⟩
  exact ⟨h1, ⟨R', o', h2, h3, h4⟩, h5⟩
theorem has_resize {w : World} {A m : Nat} {M : List Hd} (h : Has w A m M) (hm : m ≤ 4096) (x : Nat) (hx : x ≤ 4096) :
    Calls Tryd.prog 15 #[.pointer (some ⟨A, 0, none⟩), .int .i64 (x : Int)] w fun e w' => e = .returned .nilIface ∧ Has w' A x (shr x M) ∧ Kp A w w' := by
  obtain ⟨R, o, hr, ht, hM⟩ := h
  refine (resize_yes A m x M w hx (by omega) hr ht).mono ?_
  rintro e w' ⟨R', o', h1, h2, h3, h4⟩
  exact ⟨h1, ⟨R', o', h2, h3, (shr_le x M).1⟩, h4⟩
theorem has_new (m : Nat) (h : m ≤ 4096) (w : World) : Calls Tryd.prog 10 #[.int .i64 (m : Int)] w fun e w' => e = .returned (.tuple #[.pointer (some ⟨w.heap.size, 0, none⟩), .nilIface]) ∧ Has w' w.heap.size m [] ∧ Below w.heap.size w w' :=
  (new_yes m h w).mono fun e w' ⟨h1, h2, h3⟩ => ⟨h1, ⟨_, 0, rg_nil _, h2, by simp [total]⟩, h3⟩
theorem has_len {w : World} {A m : Nat} {M : List Hd} (h : Has w A m M) : Calls Tryd.prog 24 #[.pointer (some ⟨A, 0, none⟩)] w fun e w' => e = .returned (.int .i64 (M.length : Int)) ∧ w = w' := by
  obtain ⟨R, o, hr, ht, hM⟩ := h; exact len_any ht
theorem has_siz {w : World} {A m : Nat} {M : List Hd} (h : Has w A m M) : Calls Tryd.prog 28 #[.pointer (some ⟨A, 0, none⟩)] w fun e w' => e = .returned (.int .i64 (total M : Int)) ∧ w = w' := by
  obtain ⟨R, o, hr, ht, hM⟩ := h; exact siz_any ht
theorem has_get {w : World} {A m : Nat} {M : List Hd} (h : Has w A m M) (i : Int) (hi : -9223372036854775808 ≤ i ∧ i ≤ 9223372036854775807) :
    Calls Tryd.prog 25 #[.pointer (some ⟨A, 0, none⟩), .int .i64 i] w fun e w' => e = .returned (.tuple #[hdV ((getM M i).getD (⟨#[]⟩, ⟨#[]⟩)), .bool (getM M i).isSome]) ∧ Below w.heap.size w w' := by
  obtain ⟨R, o, hr, ht, hM⟩ := h; exact get_any A i M w hi hr ht
/-- The rounds over the first calls. -/
def Em1 (n A B m : Nat) (w : World) (s14 : Value) (wr : World) : Prop := ∃ (i : Nat) (M : List Hd), s14 = .int .i64 (i : Int) ∧ i ≤ n ∧ Has wr A m M ∧ Has wr B m [] ∧ Below w.heap.size w wr
/-- The rounds over the second calls. -/
def Em2 (n A B m : Nat) (w : World) (s15 : Value) (wr : World) : Prop := ∃ (i : Nat) (M : List Hd), s15 = .int .i64 (i : Int) ∧ i ≤ n ∧ Has wr A m M ∧ Has wr B m M ∧ Below w.heap.size w wr
set_option maxRecDepth 100000 in
set_option maxHeartbeats 8000000 in
theorem emptied_any (x : Int) (a1 : Option Addr) (n1 c1 : Nat) (L1 : List Cal) (a2 : Option Addr) (n2 c2 : Nat) (L2 : List Cal) (ask : Int) (w : World) (h1 : Cl w a1 n1 c1 L1) (h2 : Cl w a2 n2 c2 L2) (ha : -9223372036854775808 ≤ ask ∧ ask ≤ 9223372036854775807) :
    Calls Tryd.prog 7 #[.int .i64 x, .slice a1 n1 c1, .slice a2 n2 c2, .int .i64 ask] w fun e w' => e = .returned (.bool true) ∧ Below w.heap.size w w' := by
  have H1 := Lib.hid h1
  have H2 := Lib.hid h2
  have hm1 := h1.max
  have hm2 := h2.max
  have HL1 := Lib.hid h1.len
  have HL2 := Lib.hid h2.len
  clear h1 h2
  go_enter Tryd.func7, Tryd.ntmps7
  go_wp2_with fail
  refine (first_any _).mono ?_
  rintro e w1 ⟨rfl, hb1⟩
  go_wp2_with fail
  refine (light_any a1 n1 c1 L1 w1 (H1.out.kept hb1)).mono ?_
  rintro e w2 ⟨y1, rfl, hy1, hb2⟩
  have hB2 : Below w.heap.size w w2 := hb1.trans (hb2.mono hb1.size)
  cases y1 with
  | false =>
    go_wp2_with fail
    go_ret
    exact ⟨rfl, hB2⟩
  | true =>
    have hn1 := hy1 rfl
    clear hy1 hb1 hb2
    go_wp2_with fail
    refine (light_any a2 n2 c2 L2 w2 (H2.out.kept hB2)).mono ?_
    rintro e w3 ⟨y2, rfl, hy2, hb3⟩
    have hB3 : Below w.heap.size w w3 := hB2.trans (hb3.mono hB2.size)
    cases y2 with
    | false =>
      go_wp2_with fail
      go_ret
      exact ⟨rfl, hB3⟩
    | true =>
      have hn2 := hy2 rfl
      clear hy2 hb3 hB2
      by_cases hx : 0 ≤ x ∧ x ≤ 4096
      · obtain ⟨m, rfl⟩ : ∃ m : Nat, x = m := ⟨x.toNat, by omega⟩
        have hm : m ≤ 4096 := by omega
        have HCN := Lib.hid (fun W => can_yes m hm W)
        have HNW := Lib.hid (fun W => has_new m hm W)
        clear hx
        go_wp2_with fail
        refine (HCN.out _).mono ?_
        rintro e w' ⟨rfl, rfl⟩
        go_wp2_with fail
        refine (HNW.out _).mono ?_
        rintro e w4 ⟨rfl, hA4, hb4⟩
        have hB4 : Below w.heap.size w w4 := hB3.trans (hb4.mono hB3.size)
        have hwA : w.heap.size ≤ w3.heap.size := hB3.size
        go_wp2_with fail
        refine (HNW.out _).mono ?_
        rintro e w5 ⟨rfl, hA5, hb5⟩
        have hB5 : Below w.heap.size w w5 := hB4.trans (hb5.mono hB4.size)
        have hA5' := hA4.below hb5
        have hAB : w3.heap.size < w4.heap.size := hA4.lt
        generalize w3.heap.size = A at hA5' hAB hwA ⊢
        generalize w4.heap.size = B at hA5 hAB ⊢
        clear hA4 hb4 hb5 hB4 hB3
        go_wp2_with fail
        go_loopw [14] (fun s14 wr => Em1 n1 A B m w s14 wr) (fun s14 _ => n1 - (intOf s14).toNat)
        case atStart => exact ⟨0, [], rfl, by omega, hA5', hA5, hB5⟩
        case round =>
          obtain ⟨i, M, rfl, hin, hA, hBt, hBw⟩ := hrel
          clear hA5 hA5'
          by_cases hlt : i < n1
          · obtain ⟨b, o, rfl, e0, e1, e2, e3, e4⟩ := (H1.out.kept hBw).row i (by rw [HL1.out]; exact hlt)
            have hsz := H1.out.sz i (by rw [HL1.out]; exact hlt)
            generalize L1[i]'(by rw [HL1.out]; exact hlt) = C at e0 e1 e2 e3 e4 hsz
            have hia : (0 : Int) ≤ (i : Int) := by omega
            have hib : (i : Int) < (n1 : Int) := by omega
            have HAD := Lib.hid (has_add hA hm C.h C.nev hsz.1 hsz.2)
            have HB' := Lib.hid hBt
            have HA' := Lib.hid hA
            clear hA hBt
            by_cases hk : C.kind = 1
            · have hkb : ((C.kind : Int) == 1) = true := by rw [hk]; rfl
              clear hk
              go_wp2_with fail
              refine HAD.out.mono ?_
              rintro e w6 ⟨rfl, hA6, hk6⟩
              have hB6 := HB'.out.kp hk6 (by omega)
              have hw6 := hBw.trans (hk6.below hwA hBw.size)
              clear HAD HB' HA' e0 e1 e2 e3 e4
              go_wp2_with fail
              exact ⟨⟨i + 1, _, by go_num, by omega, hA6, hB6, hw6⟩, by simp [intOf]; omega⟩
            · have hkb : ((C.kind : Int) == 1) = false := by rw [beq_eq_false_iff_ne]; exact hk
              clear hk HAD
              go_wp2_with fail
              exact ⟨⟨i + 1, M, by go_num, by omega, HA'.out, HB'.out, hBw⟩, by simp [intOf]; omega⟩
          · have HRS := Lib.hid (has_resize hA hm 0 (by omega))
            have HB' := Lib.hid hBt
            clear hA hBt
            go_wp2_with fail
            refine HRS.out.mono ?_
            rintro e w6 ⟨rfl, hA6, hk6⟩
            rw [shr_zero] at hA6
            have hB6 := HB'.out.kp hk6 (by omega)
            have hw6 := hBw.trans (hk6.below hwA hBw.size)
            have HLN := Lib.hid (has_len hA6)
            have HSZ := Lib.hid (has_siz hA6)
            have HR2 := Lib.hid (has_resize hA6 (by omega) m hm)
            have HB6 := Lib.hid hB6
            clear HRS HB' hBw hA6 hB6 hk6
            go_wp2_with fail
            refine HLN.out.mono ?_
            rintro e w' ⟨rfl, rfl⟩
            go_wp2_with fail
            refine HSZ.out.mono ?_
            rintro e w' ⟨rfl, rfl⟩
            go_wp2_with fail
            refine HR2.out.mono ?_
            rintro e w7 ⟨rfl, hA7, hk7⟩
            have hB7 := HB6.out.kp hk7 (by omega)
            have hw7 := hw6.trans (hk7.below hwA hw6.size)
            have HA7 := Lib.hid (show Has w7 A m [] from hA7)
            have HB7 := Lib.hid hB7
            clear HLN HSZ HR2 HB6 hk7 hA7 hB7 hw6
            go_wp2_with fail
            go_loopw [15] (fun s15 wr => Em2 n2 A B m w s15 wr) (fun s15 _ => n2 - (intOf s15).toNat)
            case atStart => exact ⟨0, [], rfl, by omega, HA7.out, HB7.out, hw7⟩
            case round =>
              obtain ⟨i, M, rfl, hin, hA, hBt, hBw⟩ := hrel
              clear HA7 HB7 hw7
              by_cases hlt : i < n2
              · obtain ⟨b, o, rfl, e0, e1, e2, e3, e4⟩ := (H2.out.kept hBw).row i (by rw [HL2.out]; exact hlt)
                have hsz := H2.out.sz i (by rw [HL2.out]; exact hlt)
                have HCL := Lib.hid ((H2.out.kept hBw))
                generalize hC : L2[i]'(by rw [HL2.out]; exact hlt) = C at e0 e1 e2 e3 e4 hsz
                have HC := Lib.hid hC
                clear hC
                have hia : (0 : Int) ≤ (i : Int) := by omega
                have hib : (i : Int) < (n2 : Int) := by omega
                have HAD := Lib.hid (has_add hA hm C.h C.nev hsz.1 hsz.2)
                have HB' := Lib.hid hBt
                have HA' := Lib.hid hA
                clear hA hBt
                by_cases hk : C.kind = 1
                · have hkb : ((C.kind : Int) == 1) = true := by rw [hk]; rfl
                  clear hk
                  go_wp2_with fail
                  refine HAD.out.mono ?_
                  rintro e w8 ⟨rfl, hA8, hk8⟩
                  have hB8 := HB'.out.kp hk8 (by omega)
                  have hw8 := hBw.trans (hk8.below hwA hBw.size)
                  have HAD2 := Lib.hid (has_add hB8 hm C.h C.nev hsz.1 hsz.2)
                  have HA8 := Lib.hid hA8
                  clear HAD HB' HA' e0 e1 e2 e3 e4 hA8 hB8 hk8
                  obtain ⟨b', o', e', e0, e1, e2, e3, e4⟩ := (H2.out.kept hw8).row i (by rw [HL2.out]; exact hlt)
                  cases e'
                  rw [HC.out] at e0 e1 e2 e3 e4
                  go_wp2_with fail
                  refine HAD2.out.mono ?_
                  rintro e w9 ⟨rfl, hB9, hk9⟩
                  have hA9 := HA8.out.kp hk9 (by omega)
                  have hw9 := hw8.trans (hk9.below (by omega) hw8.size)
                  clear HAD2 HA8 e0 e1 e2 e3 e4
                  go_wp2_with fail
                  exact ⟨⟨i + 1, _, by go_num, by omega, hA9, hB9, hw9⟩, by simp [intOf]; omega⟩
                · have hkb : ((C.kind : Int) == 1) = false := by rw [beq_eq_false_iff_ne]; exact hk
                  clear hk HAD
                  go_wp2_with fail
                  exact ⟨⟨i + 1, M, by go_num, by omega, HA'.out, HB'.out, hBw⟩, by simp [intOf]; omega⟩
              · have HG := Lib.hid (has_get hA ask ha)
                have HA' := Lib.hid hA
                have HB' := Lib.hid hBt
                clear hA hBt
                go_wp2_with fail
                refine HG.out.mono ?_
                rintro e w8 ⟨rfl, hb8⟩
                have hz8 := hb8.size
                have hB8 : Below w.heap.size w w8 := hBw.trans (hb8.mono hBw.size)
                have hA8 := HA'.out.below hb8
                have hB8' := HB'.out.below hb8
                have HG2 := Lib.hid (has_get (hB8'.below ((Below.refl _ w8).alloc (Nat.le_refl _) (.cells #[.string ((getM M ask).getD (⟨#[]⟩, ⟨#[]⟩)).1, .string ((getM M ask).getD (⟨#[]⟩, ⟨#[]⟩)).2, .bool false] 34))) ask ha)
                clear HG HA' HB' hBw hb8
                generalize (getM M ask).isSome = y at HG2 ⊢
                generalize hg : (getM M ask).getD (⟨#[]⟩, ⟨#[]⟩) = g at HG2 ⊢
                clear hg
                have HA8 := Lib.hid hA8
                have HB8 := Lib.hid hB8'
                clear hA8 hB8'
                go_wp2_with fail
                refine HG2.out.mono ?_
                rintro e w9 ⟨rfl, hb9⟩
                have hz9 := hb9.size
                simp only [World.size_alloc] at hz9
                have hB9 : Below w.heap.size w w9 := (hB8.alloc hB8.size _).trans (hb9.mono (by have := hB8.size; simp; omega))
                have hb89 : Below w8.heap.size w8 w9 := ((Below.refl _ w8).alloc (Nat.le_refl _) _).trans (hb9.mono (by simp))
                have g0 := (hb9.cell (p := ⟨w8.heap.size, 0, none⟩) (by simp)).trans (by simp : _ = some (.string g.1))
                have g1 := (hb9.cell (p := ⟨w8.heap.size, 1, none⟩) (by simp)).trans (by simp : _ = some (.string g.2))
                have g2 := (hb9.cell (p := ⟨w8.heap.size, 2, none⟩) (by simp)).trans (by simp : _ = some (.bool false))
                have hlt9 : w8.heap.size < w9.heap.size := by omega
                have HA9 := Lib.hid (HA8.out.below hb89)
                have HB9 := Lib.hid (HB8.out.below hb89)
                clear HG2 HA8 HB8 hb9 hb89 hB8
                go_wp2_with fail
                have HSM := Lib.hid (fun W => same_any g g W)
                rw [show decide (g = g) = true by simp] at HSM
                refine (HSM.out _).mono ?_
                rintro e w10 ⟨rfl, hb10⟩
                have hz10 := hb10.size
                simp only [World.size_alloc] at hz10
                have hB10 : Below w.heap.size w w10 := (hB9.alloc hB9.size _).trans (hb10.mono (by have := hB9.size; simp; omega))
                have hb910 : Below w9.heap.size w9 w10 := ((Below.refl _ w9).alloc (Nat.le_refl _) _).trans (hb10.mono (by simp))
                have hA10 := HA9.out.below hb910
                have hB10' := HB9.out.below hb910
                have HLA := Lib.hid (has_len hA10)
                have HLB := Lib.hid (has_len hB10')
                have HSA := Lib.hid (has_siz hA10)
                have HSB := Lib.hid (has_siz hB10')
                clear HSM HA9 HB9 hb10 hb910 hB9 g0 g1 g2 hA10 hB10'
                have hyy : (y == y) = true := by simp
                go_wp2_with fail
                refine HLA.out.mono ?_
                rintro e w' ⟨rfl, rfl⟩
                go_wp2_with fail
                refine HLB.out.mono ?_
                rintro e w' ⟨rfl, rfl⟩
                have hll : ((M.length : Int) == (M.length : Int)) = true := by simp
                go_wp2_with fail
                refine HSA.out.mono ?_
                rintro e w' ⟨rfl, rfl⟩
                go_wp2_with fail
                refine HSB.out.mono ?_
                rintro e w' ⟨rfl, rfl⟩
                have htt : ((total M : Int) == (total M : Int)) = true := by simp
                go_wp2_with fail
                go_ret
                exact ⟨rfl, hB10⟩
      · have HCN := Lib.hid (fun W => can_no x (by omega) W)
        clear hx
        go_wp2_with fail
        refine (HCN.out _).mono ?_
        rintro e w' ⟨rfl, rfl⟩
        go_wp2_with fail
        go_ret
        exact ⟨rfl, hB3⟩
end Go.Proofs.YtbdpeioafelolaaDoor
