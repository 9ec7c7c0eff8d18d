/-
  CONTRACTS: the document's Decode.
-/
import Derived.Test.YtdkmnblfmmmfkaaDoorDs
namespace Go.Proofs.YtdkmnblfmmmfkaaDoor
open Go.RowKit Hf

/-- Its rounds. -/
def DrRel (l : List UInt8) (w : World) (s6 s7 s8 s9 s10 : Value) (wr : World) : Prop := ∃ (i cd k N cc : Nat) (ad : Option Addr) (out : List UInt8) (on : Bool), s10 = .int .i64 (i : Int) ∧ s7 = .int .u32 (cd : Int) ∧ s8 = .int .i64 (k : Int) ∧ s9 = .bool on ∧ s6 = .slice ad N cc ∧
  Hid (on = true ↔ cd = 2 ^ k - 1) ∧ Own wr (w.heap.size + 1) (.slice ad N cc) out ∧ out.length ≤ i ∧ i ≤ 8 * l.length ∧ Ck wr w.heap.size code ∧ Below w.heap.size w wr ∧ w.heap.size < wr.heap.size ∧ Wait cd k ∧ Hid (saysText l = says l (8 * l.length - i) i cd k out)
/-- What it answers. -/
def DecrPost (l : List UInt8) (w : World) (e : Ending) (w' : World) : Prop := Below w.heap.size w w' ∧ match saysText l with
  | some out => e = .returned (.tuple #[.string ⟨out.toArray⟩, .int .i64 0])
  | none => e = .returned (.tuple #[.string ⟨#[]⟩, .int .i64 107])

set_option maxRecDepth 100000 in
set_option maxHeartbeats 4000000 in
theorem decoder_any (a : Option Addr) (n c : Nat) (l : List UInt8) (w : World) (hs : Sl w a n c l) (hn : n ≤ 1000000) :
    Calls Tryd.prog 21 #[.slice a n c] w (DecrPost l w) := by
  have hlen := hs.len
  have HLEN := Lib.hid hlen
  subst hlen
  have HS := Lib.hid hs
  clear hs
  go_enter Tryd.func21, Tryd.ntmps21
  go_wp2_with fail
  refine (codesr_any w).mono ?_
  rintro e w1 ⟨rfl, hck1, hb1, hlt1⟩
  go_wp2_with fail
  refine (lengths_any _).mono ?_
  rintro e w2 ⟨rfl, rfl⟩
  go_wp2_with fail
  go_loopw [6, 7, 8, 9, 10] (fun s6 s7 s8 s9 s10 wr => DrRel l w s6 s7 s8 s9 s10 wr) (fun _ _ _ _ s10 _ => 8 * l.length - (intOf s10).toNat)
  case atStart => exact ⟨0, 0, 0, 0, 0, none, [], true, rfl, rfl, rfl, rfl, rfl, Lib.hid (by simp), Own.nil _ _, by simp, by omega, hck1, hb1, hlt1, wait_zero, Lib.hid rfl⟩
  case round =>
    obtain ⟨i, cd, k, N, cc, ad, out, on, rfl, rfl, rfl, rfl, rfl, hon, hown, hol, hi8, hck, hB, hlt, hwait, hdec⟩ := hrel
    have hk29 := hwait.1
    by_cases hlt8 : i < 8 * l.length
    · obtain ⟨p, t, hpt, hp, ht⟩ : ∃ p t, i = 8 * p + t ∧ p < l.length ∧ t < 8 := ⟨i / 8, i % 8, by omega, by omega, by omega⟩
      obtain ⟨ab, ao, rfl⟩ := HS.out.some (by omega)
      have hcell := (HS.out.kept hB).cell (i := p) hp
      have hq : (i : Int) / 8 = (p : Int) := by omega
      have hr : (i : Int) % 8 = (t : Int) := by omega
      have ht0 : (0 : Int) ≤ 7 - (t : Int) := by omega
      have ht1 : (7 : Int) - (t : Int) < 64 := by omega
      have hbit : (l[p]).toNat / 2 ^ (7 - t) % 2 = bit l i := by
        unfold bit
        rw [show i / 8 = p by omega, show i % 8 = t by omega, List.getD_eq_getElem?_getD, List.getElem?_eq_getElem hp]
        rfl
      have hx8 : (l[p]).toNat < 256 := (l[p]).toNat_lt
      generalize l[p] = x at hcell hbit hx8
      have HPT := Lib.hid hpt
      clear hpt
      have hstep := wait_step hwait l i
      have hlt2 := bit_lt l i
      obtain ⟨r, hr8⟩ : ∃ r, 8 * l.length - i = r + 1 := ⟨8 * l.length - i - 1, by omega⟩
      have hdec2 := hdec.out
      rw [hr8, says] at hdec2
      have hR : Hid (r = 8 * l.length - (i + 1)) := Lib.hid (by omega)
      have hv : bits .and .u32 ((x.toNat : Int) / 2 ^ (7 - t) % 4294967296) 1 = ((bit l i : Nat) : Int) := by
        have hle : x.toNat / 2 ^ (7 - t) ≤ x.toNat := Nat.div_le_self _ _
        rw [← hbit, show ((x.toNat : Int) / 2 ^ (7 - t)) = ((x.toNat / 2 ^ (7 - t) : Nat) : Int) by simp]
        generalize x.toNat / 2 ^ (7 - t) = y at hle
        rw [show ((y : Int) % 4294967296) = (y : Int) by omega, show (1 : Int) = ((1 : Nat) : Int) from rfl, u32_and_nat _ _ (by omega) (by omega), nat_mask1]
      clear hbit hdec hr8
      generalize bit l i = bt at hv hstep hlt2 hdec2
      obtain ⟨hk1, hcl, hwn⟩ := hstep
      have hc30 : 2 * cd + bt < 1073741824 := by
        have := Nat.pow_le_pow_right (n := 2) (by decide) (show k + 1 ≤ 30 by omega)
        have e30 : (2 : Nat) ^ 30 = 1073741824 := by decide
        omega
      have hor : bits .or .u32 ((cd : Int) * 2) (bt : Int) = ((2 * cd + bt : Nat) : Int) := by
        rw [show (cd : Int) * 2 = ((cd * 2 : Nat) : Int) by omega, u32_or_nat _ _ (by omega) (by omega), nat_join1 _ _ (by omega) hlt2, Nat.mul_comm]
      have HO : Hid ((on && ((bt : Int) == 1)) = true ↔ 2 * cd + bt = 2 ^ (k + 1) - 1) := Lib.hid (by
        have h1 := hon.out
        have h2 := hwait.2.2
        have hp2 : 2 ^ (k + 1) = 2 * 2 ^ k := by rw [Nat.pow_succ, Nat.mul_comm]
        rw [hp2]
        rw [Bool.and_eq_true, beq_iff_eq, h1]
        omega)
      have HW := Lib.hid hwn
      generalize 2 * cd + bt = X at hcl hwn hc30 hor HO hdec2 HW
      have hcd : cd < 1073741824 := by
        have h1 := hwait.2.2
        have := Nat.pow_le_pow_right (n := 2) (by decide) (show k ≤ 30 by omega)
        have e30 : (2 : Nat) ^ 30 = 1073741824 := by decide
        omega
      have HV := Lib.hid hv
      have hb2 : (bt : Int) < 2 := by omega
      clear hwn hcl hon hwait HV hx8
      have hlow : k + 1 < 5 → sym X (k + 1) = none := by
        intro h5
        obtain ⟨l1, l2, l3⟩ := low_all (k + 1) h5
        unfold sym
        rw [if_neg (by omega)]
      have HC : Hid (∀ W, Ck W w.heap.size code → Calls Tryd.prog 30 #[.slice (some ⟨w.heap.size, 0, none⟩) 257 257, .string lets, .int .u32 (X : Int), .int .i64 ((k : Int) + 1)] W (SymrPost X (k + 1) W)) := Lib.hid (fun W hW => by
        have := symbolr_any w.heap.size X (k + 1) hk1 (by omega) W hW
        rw [show ((k + 1 : Nat) : Int) = (k : Int) + 1 by simp] at this
        exact this)
      cases hsy : sym X (k + 1) with
      | none =>
        rw [hsy] at hdec2
        have HD := Lib.hid hdec2
        have HC2 : Hid (∀ W, Ck W w.heap.size code → Calls Tryd.prog 30 #[.slice (some ⟨w.heap.size, 0, none⟩) 257 257, .string lets, .int .u32 (X : Int), .int .i64 ((k : Int) + 1)] W fun e w' => e = .returned (.int .i64 (-1)) ∧ W = w') := Lib.hid (fun W hW => by
          have := HC.out W hW
          unfold SymrPost at this
          rw [hsy] at this
          exact this)
        have HW2 := Lib.hid (HW.out hsy)
        clear hdec2 hsy hlow HC HW
        by_cases h5 : k + 1 < 5
        · cases on
          all_goals go_wp2_with fail
          all_goals exact ⟨⟨i + 1, X, k + 1, N, cc, ad, out, _, by go_num, rfl, by go_num, rfl, rfl, HO, hown, by omega, by omega, hck, hB, hlt, HW2.out, Lib.hid (by rw [HD.out, hR.out])⟩, by simp [intOf]; omega⟩
        · cases on
          all_goals go_wp2_with fail
          all_goals ((with_reducible_and_instances refine Calls.mono (HC2.out _ hck) ?_))
          all_goals rintro e w' ⟨rfl, rfl⟩
          all_goals go_wp2_with fail
          all_goals exact ⟨⟨i + 1, X, k + 1, N, cc, ad, out, _, by go_num, rfl, by go_num, rfl, rfl, HO, hown, by omega, by omega, hck, hB, hlt, HW2.out, Lib.hid (by rw [HD.out, hR.out])⟩, by simp [intOf]; omega⟩
      | some s =>
        rw [hsy] at hdec2
        simp only at hdec2
        have h5 : ¬ k + 1 < 5 := fun h => by rw [hlow h] at hsy; cases hsy
        have hs257 := (sym_bound hsy hk1).1
        have HC2 : Hid (∀ W, Ck W w.heap.size code → Calls Tryd.prog 30 #[.slice (some ⟨w.heap.size, 0, none⟩) 257 257, .string lets, .int .u32 (X : Int), .int .i64 ((k : Int) + 1)] W fun e w' => e = .returned (.int .i64 (s : Int)) ∧ W = w') := Lib.hid (fun W hW => by
          have := HC.out W hW
          unfold SymrPost at this
          rw [hsy] at this
          exact this)
        clear hsy hlow HC HW
        by_cases h256 : s = 256
        · rw [if_pos h256] at hdec2
          have HD := Lib.hid hdec2
          have hb : ((s : Int) == 256) = true := by rw [h256]; rfl
          clear hdec2 h256
          cases on
          all_goals go_wp2_with fail
          all_goals ((with_reducible_and_instances refine Calls.mono (HC2.out _ hck) ?_))
          all_goals rintro e w' ⟨rfl, rfl⟩
          all_goals go_wp2_with fail
          all_goals go_ret2
          all_goals exact ⟨hB, by rw [HD.out]; rfl⟩
        · rw [if_neg h256] at hdec2
          have HD := Lib.hid hdec2
          have hb : ((s : Int) == 256) = false := by rw [beq_eq_false_iff_ne]; omega
          have hsb : (s : Int) % 256 = (((UInt8.ofNat s).toNat : Nat) : Int) := by rw [ofNat_toNat']; omega
          have HSB := Lib.hid hsb
          clear hdec2 h256 hsb
          cases on
          all_goals go_wp2_with fail
          all_goals ((with_reducible_and_instances refine Calls.mono (HC2.out _ hck) ?_))
          all_goals rintro e w' ⟨rfl, rfl⟩
          all_goals go_wp2_with (at_builtin; (refine wp_append_bytes rfl _ _ rfl _ out [UInt8.ofNat s] rfl (w.heap.size + 1) (hown.alloc _) (some ⟨wr.heap.size, 0, none⟩) 1 1 rfl (sl_new1 _ _ _ (by first | exact HSB.out | (rw [← HSB.out]; omega))) (by omega) (by simp; omega) ?_); intro w3 a3 N3 c3 hN3 hown3 hb3)
          all_goals (have hb4 : Below (w.heap.size + 1) wr w3 := ((Below.refl _ wr).alloc (by omega) _).trans hb3)
          all_goals (have hz4 := hb4.size)
          all_goals exact ⟨⟨i + 1, 0, 0, N3, c3, a3, _, true, by go_num, rfl, rfl, rfl, rfl, Lib.hid (by simp), hown3, by rw [List.length_append]; exact Nat.succ_le_succ hol, by omega, hck.kept hb4, hB.trans (hb4.mono (by omega)), by omega, wait_zero, Lib.hid (by rw [HD.out, hR.out])⟩, by simp [intOf]; omega⟩
    · obtain rfl : i = 8 * l.length := by omega
      have hdec2 := hdec.out
      rw [Nat.sub_self, says] at hdec2
      have hconv := (own_sl2 hown).conv
      by_cases h8 : 8 ≤ k
      · rw [if_pos (Or.inl h8)] at hdec2
        have HD := Lib.hid hdec2
        clear hdec2 hdec hon hwait
        go_wp2_with fail
        all_goals go_ret2
        all_goals exact ⟨hB, by rw [HD.out]; rfl⟩
      · cases on with
        | true =>
          rw [if_neg (by rw [not_or]; exact ⟨h8, fun h => h (hon.out.1 rfl)⟩)] at hdec2
          have HD := Lib.hid hdec2
          clear hdec2 hdec hon hwait
          go_wp2_with fail
          all_goals go_ret2
          all_goals exact ⟨hB, by rw [HD.out]; rfl⟩
        | false =>
          rw [if_pos (Or.inr (fun h => by have := hon.out.2 h; cases this))] at hdec2
          have HD := Lib.hid hdec2
          clear hdec2 hdec hon hwait
          go_wp2_with fail
          all_goals go_ret2
          all_goals exact ⟨hB, by rw [HD.out]; rfl⟩
end Go.Proofs.YtdkmnblfmmmfkaaDoor
