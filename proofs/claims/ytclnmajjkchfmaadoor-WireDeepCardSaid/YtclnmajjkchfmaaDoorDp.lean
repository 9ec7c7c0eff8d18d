/-
  THE LAW WireDeep (P1.5): contract.
-/
import Derived.Test.YtclnmajjkchfmaaDoorV
import Derived.Test.YtclnmajjkchfmaaDoorMd
namespace Go.Proofs.YtclnmajjkchfmaaDoor
open Go.RowKit Wr

theorem i64_and63 (n : Int) : bits .and .i64 n 63 = n % 64 := by
  have h63 : (BitVec.ofInt 64 63).toNat = 2 ^ 6 - 1 := by decide
  have key : (BitVec.ofInt 64 n &&& BitVec.ofInt 64 63).toNat = (n % ((2 ^ 64 : Nat) : Int)).toNat % 2 ^ 6 := by
    rw [BitVec.toNat_and, BitVec.toNat_ofInt, h63, Nat.and_two_pow_sub_one_eq_mod]
  show IntKind.i64.wrap ((BitVec.ofInt 64 n &&& BitVec.ofInt 64 63).toNat : Nat) = n % 64
  rw [key, IntKind.wrap_i64]
  omega

set_option maxRecDepth 100000 in
set_option maxHeartbeats 2000000 in
theorem deep_any (ea : Nat → Addr) (n : Int) (t : Bool) (w : World) (E : Env w ea) :
    Calls Tryd.prog 9 #[.int .i64 n, .bool t] w fun e w' => e = .returned (.bool true) ∧ Below w.heap.size w w' := by
  obtain ⟨k, hk, hk64⟩ : ∃ k : Nat, bits .and .i64 n 63 = (k : Int) ∧ k < 64 := ⟨(n % 64).toNat, by rw [i64_and63]; omega, by omega⟩
  go_enter Tryd.func9, Tryd.ntmps9
  go_wp2_with fail
  refine (first_any ea w E).mono ?_
  rintro e w1 ⟨rfl, hb1⟩
  have E1 := E.kept hb1
  have hz1 := hb1.size
  go_wp2_with (at_make; refine wp_make_bytes rfl _ _ rfl _ rfl rfl (by omega) (by omega) w.heap.size hz1 ?_; intro w2 ad2 hown2 hb2)
  go_loopw [6, 7] (fun v i wr => ∃ (j : Nat) (ad : Option Addr) (N c : Nat), v = .slice ad N c ∧ i = .int .i64 j ∧ j ≤ k ∧ Hid (N = (List.replicate j (11 : UInt8)).length) ∧ Own wr w.heap.size (.slice ad N c) (List.replicate j 11) ∧ Below w.heap.size w wr)
    (fun _ i _ => k - (intOf i).toNat)
  case atStart => exact ⟨0, _, _, _, rfl, rfl, by omega, Lib.hid rfl, hown2, hb1.trans (hb2.mono hz1)⟩
  case round =>
    obtain ⟨j, ad, N, c, rfl, rfl, hj, hN, ho, hb⟩ := hrel
    have hz := hb.size
    by_cases h : j < k
    · go_wp2_with (at_builtin; (refine wp_append_bytes rfl _ _ rfl _ (List.replicate j 11) [11] rfl w.heap.size (ho.alloc _) (some ⟨wr.heap.size, 0, none⟩) 1 1 rfl (sl_new1 _ _ _ rfl) (by simp; omega) (by simp; omega) ?_); intro w3 ad3 N3 c3 hN3 hown3 hb3)
      have e : List.replicate j (11 : UInt8) ++ [11] = List.replicate (j + 1) 11 := List.replicate_succ'.symm
      rw [e] at hN3 hown3
      refine ⟨⟨j + 1, _, _, _, rfl, by go_num, by omega, hN3, hown3, (hb.alloc (by omega) _).trans hb3⟩, by simp [intOf]; omega⟩
    · have hjk : j = k := by omega
      subst hjk
      cases t
      · go_wp2_with fail
        have hl3 : ∃ tt, Mid tt ∧ List.replicate j (11 : UInt8) = List.replicate j 11 ++ tt := ⟨[], Or.inl rfl, by simp⟩
        obtain ⟨ad3, rfl⟩ : ∃ x, x = ad := ⟨_, rfl⟩
        obtain ⟨N3, rfl⟩ : ∃ x, x = N := ⟨_, rfl⟩
        obtain ⟨c3, rfl⟩ : ∃ x, x = c := ⟨_, rfl⟩
        obtain ⟨w3, rfl⟩ : ∃ x, x = wr := ⟨_, rfl⟩
        have hN3 := hN; have hown3 := ho; have hB3 := hb
        have hl3len : (List.replicate j (11 : UInt8)).length < 70 := by simp; omega
        have hl3' := hl3
        clear hN ho hb hl3
        generalize hlq : List.replicate j (11 : UInt8) = l3 at hN3 hown3 hl3len
        have hl3 : ∃ tt, Mid tt ∧ l3 = List.replicate j 11 ++ tt := ⟨[], Or.inl rfl, by rw [← hlq]; simp⟩
        clear hl3' hlq
        go_loopw [6, 8] (fun v i wr => ∃ (q : Nat) (ad : Option Addr) (N c : Nat), v = .slice ad N c ∧ i = .int .i64 q ∧ q ≤ j ∧ Hid (N = (l3 ++ List.replicate q (12 : UInt8)).length) ∧ Own wr w.heap.size (.slice ad N c) (l3 ++ List.replicate q 12) ∧ Below w.heap.size w wr)
          (fun _ i _ => j - (intOf i).toNat)
        case atStart => exact ⟨0, _, _, _, rfl, rfl, by omega, by simpa using hN3, by simpa using hown3, hB3⟩
        case round =>
          obtain ⟨q, ad, N, c, rfl, rfl, hq, hN, ho, hb⟩ := hrel
          have hz := hb.size
          by_cases h : q < j
          · go_wp2_with (at_builtin; (refine wp_append_bytes rfl _ _ rfl _ (l3 ++ List.replicate q 12) [12] rfl w.heap.size (ho.alloc _) (some ⟨wr.heap.size, 0, none⟩) 1 1 rfl (sl_new1 _ _ _ rfl) (by simp; omega) (by simp; omega) ?_); intro w4 ad4 N4 c4 hN4 hown4 hb4)
            have e : l3 ++ List.replicate q (12 : UInt8) ++ [12] = l3 ++ List.replicate (q + 1) 12 := by rw [List.append_assoc]; congr 1; exact List.replicate_succ'.symm
            rw [e] at hN4 hown4
            refine ⟨⟨q + 1, _, _, _, rfl, by go_num, by omega, hN4, hown4, (hb.alloc (by omega) _).trans hb4⟩, by simp [intOf]; omega⟩
          · have hqj : q = j := by omega
            subst hqj
            obtain ⟨tt, hmid, rfl⟩ := hl3
            have e : List.replicate q (11 : UInt8) ++ tt ++ List.replicate q 12 = nest q tt := by unfold nest; simp
            rw [e] at hN ho
            have hs := ho.sl'
            have Er := E.kept hb
            have hlen := nest_length q tt
            have htt : tt.length ≤ 2 := by rcases hmid with rfl | rfl <;> simp
            have hch := check_any ea ad N c (nest q tt) wr hs Er
            by_cases h32 : q ≤ 32
            · rw [check_nest hmid q h32] at hch
              have HC := Lib.hid hch
              have HS := Lib.hid hs
              clear hch hs E E1 Er hown2 hown3 e hlen hmid hN3 ho hl3len
              go_wp2_with fail
              refine HC.out.mono ?_
              rintro e w5 ⟨hb5, rfl⟩
              go_wp2_with fail
              go_ret
              exact ⟨rfl, hb.trans (hb5.mono hz)⟩
            · rw [check_deep q (by omega)] at hch
              have hrd := rec_deep q (by omega) tt
              have HC := Lib.hid hch
              have HS := Lib.hid hs
              have HE := Lib.hid Er
              have HR := Lib.hid hrd
              have hNN : N ≤ 200 := by have := hN.out; omega
              clear hch hs E E1 Er hown2 hown3 e hlen hmid hN3 ho hl3len hrd
              go_wp2_with fail
              refine HC.out.mono ?_
              rintro e w5 ⟨hb5, g, rfl, _, _⟩
              have hz5 := hb5.size
              have hnx := next_any ea ad N c (nest q tt) w5 (HS.out.kept hb5) (HE.out.kept hb5) (by omega)
              rw [HR.out] at hnx
              have HX := Lib.hid hnx
              clear hnx
              go_wp2_with fail
              refine HX.out.mono ?_
              rintro e w6 ⟨hb6, rfl⟩
              have hz6 := hb6.size
              go_wp2_with fail
              go_ret
              have hq6 : Below w.heap.size w w6 := (hb.trans (hb5.mono hz)).trans (hb6.mono (by omega))
              refine ⟨rfl, ?_⟩
              (repeat (first | (with_reducible refine Below.setCell ?_ (by dsimp only; omega) _) | (with_reducible refine bdN ?_ _) | (with_reducible refine Below.drew ?_) | (with_reducible refine Below.alloc ?_ (by first | omega | (simp; omega)) _) | (with_reducible exact hq6)))
      · go_wp2_with (at_builtin; (refine wp_append_bytes rfl _ _ rfl _ (List.replicate j 11) [16, 5] rfl w.heap.size (ho.alloc _) (some ⟨wr.heap.size, 0, none⟩) 2 2 rfl (sl_new2 _ _ _ _ _ rfl rfl) (by simp; omega) (by simp; omega) ?_); intro w3 ad3 N3 c3 hN3 hown3 hb3)
        have hB3 : Below w.heap.size w w3 := (hb.alloc (by omega) _).trans hb3
        have hl3len : (List.replicate j (11 : UInt8) ++ [16, 5]).length < 70 := by simp; omega
        clear hN ho hb hb3
        generalize hlq : List.replicate j (11 : UInt8) ++ [16, 5] = l3 at hN3 hown3 hl3len
        have hl3 : ∃ tt, Mid tt ∧ l3 = List.replicate j 11 ++ tt := ⟨[16, 5], Or.inr rfl, hlq.symm⟩
        clear hlq
        go_loopw [6, 8] (fun v i wr => ∃ (q : Nat) (ad : Option Addr) (N c : Nat), v = .slice ad N c ∧ i = .int .i64 q ∧ q ≤ j ∧ Hid (N = (l3 ++ List.replicate q (12 : UInt8)).length) ∧ Own wr w.heap.size (.slice ad N c) (l3 ++ List.replicate q 12) ∧ Below w.heap.size w wr)
          (fun _ i _ => j - (intOf i).toNat)
        case atStart => exact ⟨0, _, _, _, rfl, rfl, by omega, by simpa using hN3, by simpa using hown3, hB3⟩
        case round =>
          obtain ⟨q, ad, N, c, rfl, rfl, hq, hN, ho, hb⟩ := hrel
          have hz := hb.size
          by_cases h : q < j
          · go_wp2_with (at_builtin; (refine wp_append_bytes rfl _ _ rfl _ (l3 ++ List.replicate q 12) [12] rfl w.heap.size (ho.alloc _) (some ⟨wr.heap.size, 0, none⟩) 1 1 rfl (sl_new1 _ _ _ rfl) (by simp; omega) (by simp; omega) ?_); intro w4 ad4 N4 c4 hN4 hown4 hb4)
            have e : l3 ++ List.replicate q (12 : UInt8) ++ [12] = l3 ++ List.replicate (q + 1) 12 := by rw [List.append_assoc]; congr 1; exact List.replicate_succ'.symm
            rw [e] at hN4 hown4
            refine ⟨⟨q + 1, _, _, _, rfl, by go_num, by omega, hN4, hown4, (hb.alloc (by omega) _).trans hb4⟩, by simp [intOf]; omega⟩
          · have hqj : q = j := by omega
            subst hqj
            obtain ⟨tt, hmid, rfl⟩ := hl3
            have e : List.replicate q (11 : UInt8) ++ tt ++ List.replicate q 12 = nest q tt := by unfold nest; simp
            rw [e] at hN ho
            have hs := ho.sl'
            have Er := E.kept hb
            have hlen := nest_length q tt
            have htt : tt.length ≤ 2 := by rcases hmid with rfl | rfl <;> simp
            have hch := check_any ea ad N c (nest q tt) wr hs Er
            by_cases h32 : q ≤ 32
            · rw [check_nest hmid q h32] at hch
              have HC := Lib.hid hch
              have HS := Lib.hid hs
              clear hch hs E E1 Er hown2 hown3 e hlen hmid hN3 ho hl3len
              go_wp2_with fail
              refine HC.out.mono ?_
              rintro e w5 ⟨hb5, rfl⟩
              go_wp2_with fail
              go_ret
              exact ⟨rfl, hb.trans (hb5.mono hz)⟩
            · rw [check_deep q (by omega)] at hch
              have hrd := rec_deep q (by omega) tt
              have HC := Lib.hid hch
              have HS := Lib.hid hs
              have HE := Lib.hid Er
              have HR := Lib.hid hrd
              have hNN : N ≤ 200 := by have := hN.out; omega
              clear hch hs E E1 Er hown2 hown3 e hlen hmid hN3 ho hl3len hrd
              go_wp2_with fail
              refine HC.out.mono ?_
              rintro e w5 ⟨hb5, g, rfl, _, _⟩
              have hz5 := hb5.size
              have hnx := next_any ea ad N c (nest q tt) w5 (HS.out.kept hb5) (HE.out.kept hb5) (by omega)
              rw [HR.out] at hnx
              have HX := Lib.hid hnx
              clear hnx
              go_wp2_with fail
              refine HX.out.mono ?_
              rintro e w6 ⟨hb6, rfl⟩
              have hz6 := hb6.size
              go_wp2_with fail
              go_ret
              have hq6 : Below w.heap.size w w6 := (hb.trans (hb5.mono hz)).trans (hb6.mono (by omega))
              refine ⟨rfl, ?_⟩
              (repeat (first | (with_reducible refine Below.setCell ?_ (by dsimp only; omega) _) | (with_reducible refine bdN ?_ _) | (with_reducible refine Below.drew ?_) | (with_reducible refine Below.alloc ?_ (by first | omega | (simp; omega)) _) | (with_reducible exact hq6)))
end Go.Proofs.YtclnmajjkchfmaaDoor
