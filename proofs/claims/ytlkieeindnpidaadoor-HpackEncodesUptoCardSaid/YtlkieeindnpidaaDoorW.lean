/-
  CONTRACTS: the document's Int.
-/
import Derived.Test.YtlkieeindnpidaaDoorV
namespace Go.Proofs.YtlkieeindnpidaaDoor
open Go.RowKit Tt Hu Hu.Hf

/-- What the document's Int answers. -/
def intD : Res (Nat × Nat) → Value
  | .ok (n, m) => .tuple #[.int .i64 (n : Int), .int .i64 (m : Int), .int .i64 0]
  | .er c => .tuple #[.int .i64 0, .int .i64 0, .int .i64 (c : Int)]
theorem and127 : ∀ c : UInt8, bits .and .u8 (c.toNat : Int) 127 = ((c.toNat % 128 : Nat) : Int) := by
  have h : (List.range 256).all (fun x => bits .and .u8 (x : Int) 127 == ((x % 128 : Nat) : Int)) = true := by kernel_rfl
  intro c
  have := List.all_eq_true.1 h c.toNat (List.mem_range.2 c.toNat_lt)
  simpa using this

theorem wrap_nat {n : Nat} (h : n < 9000000000000) : wrap64 (n : Int) = n := by unfold wrap64; omega

set_option maxRecDepth 100000 in
theorem dint_bad (bt : Int) (s : Value) (w : World) (hb : bt < 1 ∨ 8 < bt) :
    Calls Tryd.prog 17 #[s, .int .i64 bt] w fun e w' => e = .returned (intD (.er 102)) ∧ Below w.heap.size w w' := by
  have hk' : bt < 1 ∨ (1 ≤ bt ∧ 8 < bt) := by omega
  clear hb
  rcases hk' with h | ⟨h, h'⟩
  all_goals
    go_enter Tryd.func17, Tryd.ntmps17
    go_wp2_with fail
    go_ret3
    exact ⟨rfl, Below.refl _ _⟩

set_option maxRecDepth 100000 in
set_option maxHeartbeats 4000000 in
theorem dint_any (bt : Nat) (a : Option Addr) (n c : Nat) (l : List UInt8) (w : World) (hb1 : 1 ≤ bt) (hb8 : bt ≤ 8) (hs : Sl w a n c l) :
    Calls Tryd.prog 17 #[.slice a n c, .int .i64 (bt : Int)] w fun e w' => e = .returned (intD (getInt bt l)) ∧ Below w.heap.size w w' := by
  have hlen := hs.len
  have hnn := hs.nine
  have HS := Lib.hid hs
  clear hs
  cases l with
  | nil =>
    obtain rfl : n = 0 := by simpa using hlen.symm
    go_enter Tryd.func17, Tryd.ntmps17
    go_wp2_with fail
    go_ret3
    exact ⟨rfl, Below.refl _ _⟩
  | cons x0 l0 =>
    have hn1 : 0 < n := by simp at hlen; omega
    obtain ⟨b, o, rfl⟩ := HS.out.some (by simp)
    have e0 := HS.out.cell (i := 0) (by simp)
    simp only [List.getElem_cons_zero, Nat.add_zero] at e0
    have hx0 := x0.toNat_lt
    have hand := and_pre x0.toNat bt hb8 (by omega)
    have hwp := wrap_pow (k := bt) hb8
    have hp256 := pow_bits (bits := bt) hb8
    have hpos := Nat.two_pow_pos bt
    have hG : Hid (getInt bt (x0 :: l0) = if x0.toNat % 2 ^ bt < 2 ^ bt - 1 then .ok (x0.toNat % 2 ^ bt, 1) else more7 (x0.toNat % 2 ^ bt) 1 l0) := Lib.hid rfl
    have hmlt : x0.toNat % 2 ^ bt < 2 ^ bt := Nat.mod_lt _ hpos
    obtain ⟨T, hT⟩ : ∃ T, 2 ^ bt = T + 1 := ⟨2 ^ bt - 1, by omega⟩
    rw [hT] at hG hand hwp hp256 hpos hmlt
    rw [show T + 1 - 1 = T by omega] at hG hand
    push_cast at hwp
    generalize x0.toNat % (T + 1) = N at hG hand hmlt
    by_cases hlt : N < T
    · rw [if_pos hlt] at hG
      go_enter Tryd.func17, Tryd.ntmps17
      go_wp2_with fail
      go_ret3
      exact ⟨by rw [hG.out]; rfl, Below.refl _ _⟩
    · rw [if_neg hlt] at hG
      have hnz : ((n : Int) == 0) = false := by rw [beq_eq_false_iff_ne]; omega
      go_enter Tryd.func17, Tryd.ntmps17
      go_wp2_with fail
      clear hwp hand hnz
      go_loopw [8, 9] (fun s8 s9 wr => ∃ (acc k : Nat), s8 = .int .i64 (acc : Int) ∧ s9 = .int .i64 (k : Int) ∧ IntMid bt (x0 :: l0) acc k ∧ wr = w) (fun _ s9 _ => 7 - (intOf s9).toNat)
      case atStart => exact ⟨N, 1, rfl, rfl, ⟨by omega, by omega, by simp, by omega, by rw [hG.out]; rfl⟩, rfl⟩
      case round =>
        obtain ⟨acc, k, rfl, rfl, hM, rfl⟩ := hrel
        obtain ⟨hk1, hk6, hkl, hacc, hrun⟩ := hM
        by_cases hin : k < n ∧ k ≤ 5
        · obtain ⟨hkn, hk5⟩ := hin
          have hkl' : k < (x0 :: l0).length := by omega
          have e1 := HS.out.cell hkl'
          rw [drop_at hkl'] at hrun
          have hand := and127 ((x0 :: l0)[k])
          have hx := ((x0 :: l0)[k]).toNat_lt
          generalize (x0 :: l0)[k] = x at e1 hrun hand hx
          have hst := step_acc hk1 hacc (show x.toNat % 128 < 128 by omega)
          have hp35 : 2 ^ (7 * (k + 1 - 1)) ≤ 2 ^ 35 := Nat.pow_le_pow_right (by omega) (by omega)
          have hx128 : x.toNat % 128 < 128 := by omega
          generalize hX : x.toNat % 128 = X at hand hst hx128
          have hp34 : 256 * 2 ^ (7 * (k + 1 - 1)) ≤ 256 * 2 ^ 35 := Nat.mul_le_mul_left _ hp35
          have hYb : X * 2 ^ (7 * (k - 1)) ≤ acc + X * 2 ^ (7 * (k - 1)) := Nat.le_add_left _ _
          have hZ43 : acc + X * 2 ^ (7 * (k - 1)) < 9000000000000 := Nat.lt_of_lt_of_le (Nat.lt_of_lt_of_le hst hp34) (by decide)
          have HST := Lib.hid hst
          clear hst hp34 hp35
          generalize hY : X * 2 ^ (7 * (k - 1)) = Y at hYb HST hZ43
          have h6 : k ≠ 6 := by omega
          have HRUN : Hid (getInt bt (x0 :: l0) = if 128 ≤ x.toNat then more7 (acc + Y) (k + 1) ((x0 :: l0).drop (k + 1)) else if 2147483647 < (acc + Y) then .er 102 else .ok ((acc + Y), k + 1)) := Lib.hid (by
            rw [hrun, more7, if_neg h6, hX, hY])
          have HXY : Hid (X * 2 ^ (7 * (k - 1)) = Y) := Lib.hid hY
          have HK : Hid ((x0 :: l0).length = n) := Lib.hid hlen
          clear hrun hX hYb hY hacc h6 hG
          have hkk : k = 1 ∨ k = 2 ∨ k = 3 ∨ k = 4 ∨ k = 5 := by omega
          rcases hkk with rfl | rfl | rfl | rfl | rfl
          all_goals
            have hY := HXY.out
            simp only [Nat.sub_self, Nat.mul_zero, Nat.pow_zero, Nat.mul_one, Nat.reduceSub, Nat.reduceMul, Nat.reducePow] at hY
            clear HXY
            by_cases hhi : 128 ≤ x.toNat
            · have HR := Lib.hid (HRUN.out.trans (if_pos hhi))
              have hnl : ¬ x.toNat < 128 := by omega
              clear HRUN
              go_wp2_with fail
              go_roundw
              case rel => exact ⟨acc + Y, _, by go_num, by simp, ⟨by omega, by omega, hkl', HST.out, HR.out⟩, trivial⟩
              case measure => simp [intOf] <;> omega
            · have hnl : x.toNat < 128 := by omega
              by_cases hmx : 2147483647 < (acc + Y)
              · have HR := Lib.hid (HRUN.out.trans ((if_neg hhi).trans (if_pos hmx)))
                clear HRUN hhi
                go_wp2_with fail
                go_ret3
                exact ⟨by rw [HR.out]; rfl, Below.refl _ _⟩
              · have HR := Lib.hid (HRUN.out.trans ((if_neg hhi).trans (if_neg hmx)))
                clear HRUN hhi
                go_wp2_with fail
                go_ret3
                exact ⟨by rw [HR.out]; simp [intD] <;> omega, Below.refl _ _⟩
        · by_cases h6 : k = 6
          · subst h6
            have HR : Hid (getInt bt (x0 :: l0) = .er 102) := Lib.hid (by rw [hrun]; cases (x0 :: l0).drop 6 <;> rfl)
            have hn5 : 5 < n := by omega
            clear hrun hG hacc
            by_cases h6n : 6 < n
            · go_wp2_with fail
              go_ret3
              exact ⟨by rw [HR.out]; rfl, Below.refl _ _⟩
            · go_wp2_with fail
              go_ret3
              exact ⟨by rw [HR.out]; rfl, Below.refl _ _⟩
          · have hkn : k = n := by omega
            subst hkn
            have HR : Hid (getInt bt (x0 :: l0) = .er 101) := Lib.hid (by rw [hrun, List.drop_eq_nil_of_le (by omega), more7, if_neg h6])
            clear hrun hG hacc
            go_wp2_with fail
            go_ret3
            exact ⟨by rw [HR.out]; rfl, Below.refl _ _⟩
end Go.Proofs.YtlkieeindnpidaaDoor
