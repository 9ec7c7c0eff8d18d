/-
  CONTRACTS: Int. Written by gen_c.py.
-/
import Derived.Test.YtlkieeindnpidaaDoorB
import Derived.ScopeJumps
import Derived.WalkMore
namespace Go.Proofs.YtlkieeindnpidaaDoor
open Go.RowKit Tt Hu Hu.Hf

theorem wp_mono' {P : Program} {a : Act} {w : World} {Q Q' : Exit → Act → World → Prop} {c : Code} (h : c.wp P Q a w) (hq : ∀ e a w, Q e a w → Q' e a w) : c.wp P Q' a w := by
  intro b k cs
  obtain ⟨e, a2, w2, h1, h2⟩ := h b k cs
  exact ⟨e, a2, w2, hq _ _ _ h1, h2⟩
/-- One label: the code behind it is walked once. -/
theorem scope_one {P : Program} {a : Act} {w : World} {Q : Exit → Act → World → Prop} {c r : Code} (l : Nat) (J : Act → World → Prop) (m : Act → World → Nat)
    (h : findLabel c l = some (Code.skip.seq r))
    (core : ∀ n a w, J a w → m a w ≤ n → r.wp P (Exit.jump l (fun a' w' => J a' w' ∧ m a' w' < n) Q) a w)
    (first : (∀ a w, J a w → r.wp P (Exit.jump l J Q) a w) → c.wp P (Exit.jump l J Q) a w) : (Code.scope c).wp P Q a w := by
  refine wp_scope_jumps l J m h (first fun a w hJ => wp_mono' (core _ a w hJ (Nat.le_refl _)) ?_) (fun a w hJ => wp_seq (wp_skip (core _ a w hJ (Nat.le_refl _))))
  intro e a w hq
  cases e with
  | goto l => exact ⟨hq.1, hq.2.1⟩
  | normal => exact hq
  | exit id => exact hq
  | ret => exact hq
  | panic ch => exact hq
  | outgrown => exact hq

theorem low_u8 : ∀ c : UInt8, bits .andNot .u8 (c.toNat : Int) 128 = ((c.toNat % 128 : Nat) : Int) := by
  have h : (List.range 256).all (fun x => bits .andNot .u8 (x : Int) 128 == ((x % 128 : Nat) : Int)) = true := by kernel_rfl
  intro c
  have := List.all_eq_true.1 h c.toNat (List.mem_range.2 c.toNat_lt)
  simpa using this
theorem top_u8 : ∀ c : UInt8, bits .and .u8 (c.toNat : Int) 128 = if 128 ≤ c.toNat then 128 else 0 := by
  have h : (List.range 256).all (fun x => bits .and .u8 (x : Int) 128 == if 128 ≤ x then 128 else 0) = true := by kernel_rfl
  intro c
  have := List.all_eq_true.1 h c.toNat (List.mem_range.2 c.toNat_lt)
  simpa using this

/-- What holds at the label. -/
structure IntMid (bt : Nat) (l : List UInt8) (acc k : Nat) : Prop where
  k1 : 1 ≤ k
  k6 : k ≤ 6
  kl : k ≤ l.length
  bd : acc < 256 * 2 ^ (7 * (k - 1))
  run : getInt bt l = more7 acc k (l.drop k)
def IntJ (bt : Nat) (l : List UInt8) (w : World) (a : Option Addr) (n c : Nat) (act : Act) (wr : World) : Prop := ∃ (acc k : Nat) (s7 s8 u2 u3 u9 u10 u11 u12 u13 u14 u15 u16 u17 u18 u19 u20 u21 u22 u23 u24 u25 u26 u27 u28 u29 u30 u31 u32 u33 u34 u35 u36 u37 u38 u39 u40 u41 u42 u43 u44 u45 u46 u47 u48 u49 u50 u51 u52 u53 u54 u55 u56 u57 u58 u59 u60 u61 u62 u63 u64 u65 : Value),
  act = { tmps := #[.slice a n c, .int .i64 (bt : Int), u2, u3, .int .i64 0, .int .i64 0, .nilIface, s7, s8, u9, u10, u11, u12, u13, u14, u15, u16, u17, u18, u19, u20, u21, u22, u23, u24, u25, u26, u27, u28, u29, u30, u31, u32, u33, u34, u35, u36, u37, u38, u39, u40, u41, u42, u43, u44, u45, u46, u47, u48, u49, u50, u51, u52, u53, u54, u55, u56, u57, u58, u59, u60, u61, u62, u63, u64, u65], defers := [] } ∧ s7 = .int .u64 (acc : Int) ∧ s8 = .int .i64 (k : Int) ∧ Below w.heap.size w wr ∧ IntMid bt l acc k
/-- The errors, as they lie in memory: E by the document's numbers. -/
structure Env (w : World) (E : Nat → Value) : Prop where
  c101 : w.cell? ⟨3, 0, none⟩ = some (E 101)
  c102 : w.cell? ⟨2, 0, none⟩ = some (E 102)
  c107 : w.cell? ⟨4, 0, none⟩ = some (E 107)
  c108 : w.cell? ⟨6, 0, none⟩ = some (E 108)
  c109 : w.cell? ⟨0, 0, none⟩ = some (E 109)
  c110 : w.cell? ⟨5, 0, none⟩ = some (E 110)
  c115 : w.cell? ⟨1, 0, none⟩ = some (E 115)
theorem Env.kept {w w' : World} {E : Nat → Value} (h : Env w E) (hb : Below w.heap.size w w') : Env w' E :=
  ⟨(hb.cell (Hu.cell_lt h.c101)).trans h.c101, (hb.cell (Hu.cell_lt h.c102)).trans h.c102, (hb.cell (Hu.cell_lt h.c107)).trans h.c107, (hb.cell (Hu.cell_lt h.c108)).trans h.c108, (hb.cell (Hu.cell_lt h.c109)).trans h.c109, (hb.cell (Hu.cell_lt h.c110)).trans h.c110, (hb.cell (Hu.cell_lt h.c115)).trans h.c115⟩
theorem Env.drewN {w : World} {E : Nat → Value} (h : Env w E) (q : Nat) : Env (w.drewN q) E := h.kept (Hu.below_drewN w q)
/-- What Int answers. -/
def intV (E : Nat → Value) : Res (Nat × Nat) → Value
  | .ok (n, m) => .tuple #[.int .i64 (n : Int), .int .i64 (m : Int), .nilIface]
  | .er c => .tuple #[.int .i64 0, .int .i64 0, E c]
def IntPost (E : Nat → Value) (r : Res (Nat × Nat)) (w : World) (e : Ending) (w' : World) : Prop := e = .returned (intV E r) ∧ Below w.heap.size w w'
def atOf (act : Act) : Nat := 7 - (intOf (act.tmps.getD 8 undef)).toNat

theorem step_acc {acc x k : Nat} (hk : 1 ≤ k) (h : acc < 256 * 2 ^ (7 * (k - 1))) (hx : x < 128) : acc + x * 2 ^ (7 * (k - 1)) < 256 * 2 ^ (7 * (k + 1 - 1)) := by
  obtain ⟨j, rfl⟩ : ∃ j, k = j + 1 := ⟨k - 1, by omega⟩
  simp only [Nat.add_sub_cancel] at *
  have e : 2 ^ (7 * (j + 1)) = 128 * 2 ^ (7 * j) := by rw [Nat.mul_add, Nat.pow_add, Nat.mul_comm]
  rw [e]
  have h2 : x * 2 ^ (7 * j) ≤ 128 * 2 ^ (7 * j) := Nat.mul_le_mul_right _ (by omega)
  generalize 2 ^ (7 * j) = p at *
  omega
theorem drop_at {l : List UInt8} {k : Nat} (h : k < l.length) : l.drop k = l[k] :: l.drop (k + 1) := List.drop_eq_getElem_cons h

set_option maxRecDepth 100000 in
set_option maxHeartbeats 4000000 in
theorem int_any (E : Nat → Value) (bt : Nat) (a : Option Addr) (n c : Nat) (l : List UInt8) (w : World) (hb1 : 1 ≤ bt) (hb8 : bt ≤ 8) (hs : Sl w a n c l) (hE : Env w E) :
    Calls Tryd.prog 16 #[.slice a n c, .int .i64 (bt : Int)] w (IntPost E (getInt bt l) w) := by
  have hlen := hs.len
  have hnn := hs.nine
  have HS := Lib.hid hs
  have HE := Lib.hid hE
  clear hs hE
  go_enter Tryd.func16, Tryd.ntmps16
  go_wp2
  refine scope_one 0 (IntJ bt l w a n c) (fun act _ => atOf act) rfl ?core ?first
  case core =>
    rintro m act wr ⟨acc, k, s7, s8, u2, u3, u9, u10, u11, u12, u13, u14, u15, u16, u17, u18, u19, u20, u21, u22, u23, u24, u25, u26, u27, u28, u29, u30, u31, u32, u33, u34, u35, u36, u37, u38, u39, u40, u41, u42, u43, u44, u45, u46, u47, u48, u49, u50, u51, u52, u53, u54, u55, u56, u57, u58, u59, u60, u61, u62, u63, u64, u65, rfl, rfl, rfl, hbw, hM⟩ hle
    obtain ⟨hk1, hk6, hkl, hacc, hrun⟩ := hM
    have hee := HE.out.kept hbw
    by_cases h6 : k = 6
    · subst h6
      have c2 := hee.c102
      have HR : Hid (getInt bt l = .er 102) := Lib.hid (by rw [hrun]; cases l.drop 6 <;> rfl)
      clear hee hrun hacc
      go_wp2
      go_quiet (fail)
      all_goals go_wp2
      all_goals go_ret3
      all_goals exact ⟨by rw [HR.out]; rfl, by repeat (first | exact hbw | (refine Hu.bdN ?_ _) | (refine Below.drew ?_))⟩
    · have h6b : ((k : Int) == 6) = false := by rw [beq_eq_false_iff_ne]; omega
      by_cases hkn : k = l.length
      · have c1 := hee.c101
        have HR : Hid (getInt bt l = .er 101) := Lib.hid (by rw [hrun, List.drop_eq_nil_of_le (by omega), more7, if_neg h6])
        have hkb : ((k : Int) == (n : Int)) = true := by rw [beq_iff_eq]; omega
        clear hee hrun hacc hkn h6
        go_wp2
        go_quiet (fail)
        all_goals go_wp2
        all_goals go_ret3
        all_goals exact ⟨by rw [HR.out]; rfl, by repeat (first | exact hbw | (refine Hu.bdN ?_ _) | (refine Below.drew ?_))⟩
      · have hkl' : k < l.length := by omega
        obtain ⟨b, o, rfl⟩ := HS.out.some (by omega)
        have e0 := (HS.out.kept hbw).cell hkl'
        have hkb : ((k : Int) == (n : Int)) = false := by rw [beq_eq_false_iff_ne]; omega
        rw [drop_at hkl'] at hrun
        have hand := low_u8 l[k]
        have htop := top_u8 l[k]
        have hx := l[k].toNat_lt
        generalize l[k] = x at e0 hrun hand htop hx
        have hia : (0 : Int) ≤ (k : Int) := by omega
        have hib : (k : Int) < (n : Int) := by omega
        have hst := step_acc hk1 hacc (show x.toNat % 128 < 128 by omega)
        have hp35 : 2 ^ (7 * (k + 1 - 1)) ≤ 2 ^ 35 := Nat.pow_le_pow_right (by omega) (by omega)
        have hx128 : x.toNat % 128 < 128 := by omega
        generalize hX : x.toNat % 128 = X at hand hst hx128
        have hp34 : 256 * 2 ^ (7 * (k + 1 - 1)) ≤ 256 * 2 ^ 35 := Nat.mul_le_mul_left _ hp35
        have hYb : X * 2 ^ (7 * (k - 1)) ≤ acc + X * 2 ^ (7 * (k - 1)) := Nat.le_add_left _ _
        have hsh : IntKind.u64.wrap ((X : Int) * 2 ^ (7 * (k - 1))) = ((X * 2 ^ (7 * (k - 1)) : Nat) : Int) := by
          rw [show ((X : Int) * 2 ^ (7 * (k - 1))) = ((X * 2 ^ (7 * (k - 1)) : Nat) : Int) by simp, IntKind.wrap_u64]
          generalize X * 2 ^ (7 * (k - 1)) = Y at hst hYb
          omega
        have hle6 : 7 - k ≤ m := by simpa [atOf, intOf] using hle
        have HLE := Lib.hid hle6
        have hw2 : IntKind.u64.wrap ((acc : Int) + ((X * 2 ^ (7 * (k - 1)) : Nat) : Int)) = ((acc + X * 2 ^ (7 * (k - 1)) : Nat) : Int) := by
          rw [IntKind.wrap_u64]
          generalize X * 2 ^ (7 * (k - 1)) = Y at hst hYb ⊢
          omega
        have HST := Lib.hid hst
        have hZ43 : acc + X * 2 ^ (7 * (k - 1)) < 9000000000000 := by omega
        have HW : Hid (acc + X * 2 ^ (7 * (k - 1)) = acc + X * 2 ^ (7 * (k - 1))) := Lib.hid rfl
        generalize hY : X * 2 ^ (7 * (k - 1)) = Y at hsh hw2 HST HW hZ43
        generalize hZ : acc + Y = Z at hw2 HST HW hZ43
        have HRUN : Hid (getInt bt l = if 128 ≤ x.toNat then more7 Z (k + 1) (l.drop (k + 1)) else if 2147483647 < Z then .er 102 else .ok (Z, k + 1)) := Lib.hid (by
          rw [hrun, more7, if_neg h6, hX, hY, hZ])
        have HK6 : Hid (k ≠ 6) := Lib.hid h6
        clear hrun HE HS hX hst hle hle6 hp34 hp35 hYb hY hZ hacc HW h6 hkl
        by_cases hhi : 128 ≤ x.toNat
        · rw [if_pos hhi] at htop
          have HR : Hid (getInt bt l = more7 Z (k + 1) (l.drop (k + 1))) := Lib.hid (by rw [HRUN.out, if_pos hhi])
          clear HRUN hhi hee
          go_wp2
          go_step3
          refine ⟨rfl, ⟨Z, k + 1, _, _, _, _, _, _, _, _, _, _, _, _, _, _, _, _, _, _, _, _, _, _, _, _, _, _, _, _, _, _, _, _, _, _, _, _, _, _, _, _, _, _, _, _, _, _, _, _, _, _, _, _, _, _, _, _, _, _, _, _, _, rfl, rfl, by go_num, hbw, ⟨by omega, by have := HK6.out; omega, hkl', HST.out, HR.out⟩⟩, ?_⟩
          simp [atOf, intOf]
          have := HLE.out
          have := HK6.out
          omega
        · rw [if_neg hhi] at htop
          by_cases hmx : 2147483647 < Z
          · have HR : Hid (getInt bt l = .er 102) := Lib.hid (by rw [HRUN.out, if_neg hhi, if_pos hmx])
            have c2 := hee.c102
            have hdc : decide (2147483647 < Z) = true := by simpa using hmx
            have hdi : decide ((2147483647 : Int) < (Z : Int)) = true := by simp; omega
            clear HRUN hhi hee
            go_wp2
            go_quiet (fail)
            all_goals go_wp2
            all_goals go_ret3
            all_goals exact ⟨by rw [HR.out]; rfl, by repeat (first | exact hbw | (refine Hu.bdN ?_ _) | (refine Below.drew ?_))⟩
          · have HR : Hid (getInt bt l = .ok (Z, k + 1)) := Lib.hid (by rw [HRUN.out, if_neg hhi, if_neg hmx])
            have hdi : decide ((2147483647 : Int) < (Z : Int)) = false := by simp; omega
            have hZb : (Z : Int) ≤ 2147483647 := by omega
            clear HRUN hhi hee hmx
            go_wp2
            go_ret3
            exact ⟨by rw [HR.out]; simp [intV], hbw⟩
  case first =>
    intro core
    cases l with
    | nil =>
      obtain rfl : n = 0 := by simpa using hlen.symm
      have HPX := Lib.hid (fun W => prefix_yes bt hb1 hb8 W)
      have c1 := HE.out.c101
      clear core HS
      go_wp2_with fail
      refine (HPX.out _).mono ?_
      rintro e w' ⟨rfl, rfl⟩
      go_wp2
      go_quiet (fail)
      all_goals go_wp2
      all_goals go_ret3
      all_goals exact ⟨rfl, by repeat (first | exact Below.refl _ _ | (refine Hu.bdN ?_ _) | (refine Below.drew ?_))⟩
    | cons x t =>
      have HPX := Lib.hid (fun W => prefix_yes bt hb1 hb8 W)
      have HFU := Lib.hid (fun W => full_any bt hb1 hb8 W)
      obtain ⟨b, o, rfl⟩ := HS.out.some (by simp)
      have e0 := HS.out.cell (i := 0) (by simp)
      simp only [List.getElem_cons_zero, Nat.add_zero] at e0
      have hand := and_pre x.toNat bt hb8 (by have := x.toNat_lt; omega)
      have hn0 : ((n : Int) == 0) = false := by rw [beq_eq_false_iff_ne]; simp at hlen; omega
      have hn1 : (0 : Int) < (n : Int) := by simp at hlen; omega
      have hx := x.toNat_lt
      have hpb := pow_bits hb8
      have hr8 := Nat.mod_le x.toNat (2 ^ bt)
      by_cases hlt : x.toNat % 2 ^ bt < 2 ^ bt - 1
      · have HR := Lib.hid (getInt_cons_lt (l := t) hlt)
        generalize x.toNat % 2 ^ bt = r at hand hr8 hlt HR
        have hPb : 2 ^ bt - 1 ≤ 255 := by omega
        generalize 2 ^ bt - 1 = P at hand hlt HFU hPb
        have hrb : r ≤ 255 := by omega
        have hdc : decide (r < P) = true := by simpa using hlt
        have hdi : decide ((r : Int) < (P : Int)) = true := by simp; omega
        clear core HS HE hpb
        go_wp2_with fail
        refine (HPX.out _).mono ?_
        rintro e w' ⟨rfl, rfl⟩
        go_wp2_with fail
        go_quiet ((go_at_call 41; exact Calls.quiet_of_same ((HFU.out _).mono fun e w' ⟨h1, h2⟩ => ⟨h1, h2.symm⟩)))
        all_goals (
          go_wp2_with fail
          refine (HFU.out _).mono ?_
          rintro e w' ⟨rfl, rfl⟩
          go_wp2
          go_ret3
          exact ⟨by rw [HR.out]; simp [intV], Hu.bdN (Below.refl _ _) _⟩)
      · have HR := Lib.hid (getInt_cons_ge (l := t) hlt)
        generalize x.toNat % 2 ^ bt = r at hand hr8 hlt HR
        have hPb : 2 ^ bt - 1 ≤ 255 := by omega
        generalize 2 ^ bt - 1 = P at hand hlt HFU hPb
        have hrb : r ≤ 255 := by omega
        have hdc : decide (r < P) = false := by simpa using hlt
        have hdi : decide ((r : Int) < (P : Int)) = false := by simp; omega
        have HCO := Lib.hid core
        clear core HS HE hpb
        go_wp2_with fail
        refine (HPX.out _).mono ?_
        rintro e w' ⟨rfl, rfl⟩
        go_wp2_with fail
        go_quiet ((go_at_call 41; exact Calls.quiet_of_same ((HFU.out _).mono fun e w' ⟨h1, h2⟩ => ⟨h1, h2.symm⟩)))
        all_goals (
          go_wp2_with fail
          refine (HFU.out _).mono ?_
          rintro e w' ⟨rfl, rfl⟩
          go_wp2
          go_step3
          rename_i hK
          refine hK _ _ (HCO.out _ _ ?_)
          refine ⟨r, 1, _, _, _, _, _, _, _, _, _, _, _, _, _, _, _, _, _, _, _, _, _, _, _, _, _, _, _, _, _, _, _, _, _, _, _, _, _, _, _, _, _, _, _, _, _, _, _, _, _, _, _, _, _, _, _, _, _, _, _, _, _, rfl, rfl, rfl, Hu.bdN (Below.refl _ _) _, ⟨by omega, by omega, by simp, by omega, by rw [HR.out]; rfl⟩⟩)
end Go.Proofs.YtlkieeindnpidaaDoor
