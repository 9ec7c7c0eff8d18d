/-
  CONTRACTS: PutInt, PutText, Int, Text.
-/
import Derived.Test.YtlkieeindnpidaaDoorA
namespace Go.Proofs.YtlkieeindnpidaaDoor
open Go.RowKit Tt Hu Hu.Hf

/-- The numbers that may be put. -/
def canPut (first bits n : Int) : Prop := 1 ≤ bits ∧ bits ≤ 8 ∧ 0 ≤ n ∧ n ≤ 2147483647 ∧ 0 ≤ first ∧ first ≤ 255 ∧ first % 2 ^ bits.toNat = 0
instance (first bits n : Int) : Decidable (canPut first bits n) := by unfold canPut; infer_instance
/-- P4.1: PutInt's bytes behind b. -/
def putInt (first bits n : Int) : List UInt8 := if canPut first bits n then pint first.toNat bits.toNat n.toNat else []
theorem and_pre (f k : Nat) (hk : k ≤ 8) (hf : f ≤ 255) : bits .and .i64 (f : Int) ((2 ^ k - 1 : Nat) : Int) = ((f % 2 ^ k : Nat) : Int) := by
  have hp := Nat.two_pow_pos k
  have h := bits_mask .i64 62 (by decide) (fun n h0 h1 => by rw [IntKind.wrap_i64]; omega) k (by omega) (f : Int) (by omega) (by omega)
  have e : ((2 ^ k - 1 : Nat) : Int) = 2 ^ k - 1 := by rw [Int.natCast_sub hp]; simp
  rw [e, h]
  simp

set_option maxRecDepth 100000 in
set_option maxHeartbeats 2000000 in
theorem putInt_any (a : Option Addr) (n c : Nat) (l : List UInt8) (first bts x : Int) (w : World) (hs : Sl w a n c l) (hn : n ≤ 900000000) (hb : -9223372036854775808 ≤ bts ∧ bts ≤ 9223372036854775807) :
    Calls Tryd.prog 13 #[.slice a n c, .int .i64 first, .int .i64 bts, .int .i64 x] w (OwnOut w.heap.size (l ++ putInt first bts x) w) := by
  have HG0 := Lib.hid (fun W (hW : Below w.heap.size w W) => grown_any a n c l 0 W (hs.kept hW) (by omega))
  have HG6 := Lib.hid (fun W (hW : Below w.heap.size w W) => grown_any a n c l 6 W (hs.kept hW) (by omega))
  have HL := Lib.hid hs.len
  clear hs
  by_cases hc : canPut first bts x
  · have HP : Hid (putInt first bts x = pint first.toNat bts.toNat x.toNat) := Lib.hid (by unfold putInt; rw [if_pos hc])
    obtain ⟨h1, h2, h3, h4, h5, h6, h7⟩ := hc
    obtain ⟨f, rfl⟩ : ∃ f : Nat, first = f := ⟨first.toNat, by omega⟩
    obtain ⟨k, rfl⟩ : ∃ k : Nat, bts = k := ⟨bts.toNat, by omega⟩
    obtain ⟨y, rfl⟩ : ∃ y : Nat, x = y := ⟨x.toNat, by omega⟩
    simp only [Int.toNat_natCast] at HP h7
    have h7' : f % 2 ^ k = 0 := by exact_mod_cast h7
    have hand := and_pre f k (by omega) (by omega)
    rw [h7'] at hand
    have HPX := Lib.hid (fun W => prefix_yes k (by omega) (by omega) W)
    have HFU := Lib.hid (fun W => full_any k (by omega) (by omega) W)
    have hq : f / 2 ^ k * 2 ^ k = f := Nat.div_mul_cancel (Nat.dvd_of_mod_eq_zero h7')
    have HAI := Lib.hid (fun B a N c l W ho hB hl => addInt_any B a N c l (f / 2 ^ k) k y (by omega) (by omega) (by omega) (by omega) W ho hB hl)
    rw [hq] at HAI
    clear h7 h7' hq
    generalize 2 ^ k - 1 = P at hand HFU
    go_enter Tryd.func13, Tryd.ntmps13
    go_wp2_with fail
    refine (HPX.out _).mono ?_
    rintro e w' ⟨rfl, rfl⟩
    go_wp2_with fail
    refine (HFU.out _).mono ?_
    rintro e w' ⟨rfl, rfl⟩
    go_wp2_with fail
    refine (HG6.out _ (Below.refl _ _)).mono ?_
    rintro e w1 ⟨a1, N1, c1, rfl, hN1, ho1, hb1⟩
    have hz1 := hb1.size
    have HO := Lib.hid (HAI.out w.heap.size a1 N1 c1 l w1 ho1 hz1 (by have := HL.out; omega))
    clear HAI HG0 HG6 ho1 hand
    go_wp2_with fail
    refine HO.out.mono ?_
    rintro e w2 ⟨a2, N2, c2, rfl, hN2, ho2, hb2, _⟩
    go_wp2_with fail
    go_ret
    exact ⟨_, _, _, rfl, by rw [HP.out]; exact hN2, by rw [HP.out]; exact ho2, hb1.trans hb2⟩
  · have HP : Hid (putInt first bts x = []) := Lib.hid (by unfold putInt; rw [if_neg hc])
    by_cases hk : 1 ≤ bts ∧ bts ≤ 8
    · obtain ⟨k, rfl⟩ : ∃ k : Nat, bts = k := ⟨bts.toNat, by omega⟩
      have HPX := Lib.hid (fun W => prefix_yes k (by omega) (by omega) W)
      by_cases h45 : 0 ≤ x ∧ x ≤ 2147483647 ∧ 0 ≤ first ∧ first ≤ 255
      · obtain ⟨f, rfl⟩ : ∃ f : Nat, first = f := ⟨first.toNat, by omega⟩
        have HFU := Lib.hid (fun W => full_any k (by omega) (by omega) W)
        have hand := and_pre f k (by omega) (by omega)
        have hne : f % 2 ^ k ≠ 0 := fun h => hc ⟨by omega, by omega, by omega, by omega, by omega, by omega, by rw [Int.toNat_natCast]; exact_mod_cast h⟩
        obtain ⟨h4, h5, h6, h7⟩ := h45
        clear hc
        generalize 2 ^ k - 1 = P at hand HFU
        generalize f % 2 ^ k = r at hand hne
        have hr : ((r : Int) != 0) = true := by simpa using hne
        go_enter Tryd.func13, Tryd.ntmps13
        go_wp2_with fail
        refine (HPX.out _).mono ?_
        rintro e w' ⟨rfl, rfl⟩
        go_wp2_with fail
        refine (HFU.out _).mono ?_
        rintro e w' ⟨rfl, rfl⟩
        go_wp2_with fail
        refine (HG0.out _ (Below.refl _ _)).mono ?_
        rintro e w1 ⟨a1, N1, c1, rfl, hN1, ho1, hb1⟩
        go_wp2_with fail
        go_ret
        exact ⟨_, _, _, rfl, by rw [HP.out, List.append_nil]; exact hN1, by rw [HP.out, List.append_nil]; exact ho1, hb1⟩
      · clear hc
        have h45' : x < 0 ∨ (0 ≤ x ∧ 2147483647 < x) ∨ (0 ≤ x ∧ x ≤ 2147483647 ∧ first < 0) ∨ (0 ≤ x ∧ x ≤ 2147483647 ∧ 0 ≤ first ∧ 255 < first) := by omega
        clear h45
        rcases h45' with h | ⟨h, h'⟩ | ⟨h, h', h2⟩ | ⟨h, h', h2, h3⟩
        all_goals
          go_enter Tryd.func13, Tryd.ntmps13
          go_wp2_with fail
          refine (HPX.out _).mono ?_
          rintro e w' ⟨rfl, rfl⟩
          go_wp2_with fail
          refine (HG0.out _ (Below.refl _ _)).mono ?_
          rintro e w1 ⟨a1, N1, c1, rfl, hN1, ho1, hb1⟩
          go_wp2_with fail
          go_ret
          exact ⟨_, _, _, rfl, by rw [HP.out, List.append_nil]; exact hN1, by rw [HP.out, List.append_nil]; exact ho1, hb1⟩
    · have HPX := Lib.hid (fun W => prefix_no bts (by omega) W)
      clear hc hk
      go_enter Tryd.func13, Tryd.ntmps13
      go_wp2_with fail
      refine (HPX.out _).mono ?_
      rintro e w' ⟨rfl, rfl⟩
      go_wp2_with fail
      refine (HG0.out _ (Below.refl _ _)).mono ?_
      rintro e w1 ⟨a1, N1, c1, rfl, hN1, ho1, hb1⟩
      go_wp2_with fail
      go_ret
      exact ⟨_, _, _, rfl, by rw [HP.out, List.append_nil]; exact hN1, by rw [HP.out, List.append_nil]; exact ho1, hb1⟩
theorem putText_any (a : Option Addr) (n c : Nat) (l : List UInt8) (s : ByteArray) (w : World) (hs : Sl w a n c l) (hn : n ≤ 100000000) (hz : s.size ≤ 1048576) :
    Calls Tryd.prog 19 #[.slice a n c, .string s] w (OwnOut w.heap.size (l ++ ptext s) w) := by
  have HG := Lib.hid (grown_any a n c l (6 + s.size) w hs (by omega))
  have HL := Lib.hid hs.len
  have hc1 : ((6 + s.size : Nat) : Int) = 6 + (s.size : Int) := by simp
  rw [hc1] at HG
  clear hs hc1
  go_enter Tryd.func19, Tryd.ntmps19
  go_wp2_with fail
  refine HG.out.mono ?_
  rintro e w1 ⟨a1, N1, c1, rfl, hN1, ho1, hb1⟩
  have HA := Lib.hid (addText_any w.heap.size a1 N1 c1 l s w1 ho1 hb1.size hz (by have := HL.out; omega))
  clear HG ho1
  go_wp2_with fail
  refine HA.out.mono ?_
  rintro e w2 ⟨a2, N2, c2, rfl, hN2, ho2, hb2, _⟩
  go_wp2_with fail
  go_ret
  exact ⟨_, _, _, rfl, hN2, ho2, hb1.trans hb2⟩
end Go.Proofs.YtlkieeindnpidaaDoor
