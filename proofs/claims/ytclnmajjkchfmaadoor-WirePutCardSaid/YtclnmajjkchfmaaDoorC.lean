/-
  CONTRACTS: grown, addVarint, Varint, Size, Fixed, Unfixed; Bytes; the document's.
-/
import Derived.Test.YtclnmajjkchfmaaDoorK
import Derived.Test.YtclnmajjkchfmaaDoorS
import Derived.Test.YtclnmajjkchfmaaDoorB
namespace Go.Proofs.YtclnmajjkchfmaaDoor
open Go.RowKit Wr

/-- It answers new bytes, and turns nothing that was. -/
def Built (l : List UInt8) (w : World) (e : Ending) (w' : World) : Prop := ∃ a' N c', e = .returned (.slice a' N c') ∧ Hid (N = l.length) ∧ Own w' w.heap.size (.slice a' N c') l ∧ Below w.heap.size w w'
/-- It answers bytes of the call's own from block B on, and turns nothing below B. -/
def Added (B : Nat) (l : List UInt8) (w : World) (e : Ending) (w' : World) : Prop := ∃ a' N c', e = .returned (.slice a' N c') ∧ Hid (N = l.length) ∧ Own w' B (.slice a' N c') l ∧ Below B w w'

set_option maxHeartbeats 400000 in
theorem grown_any (a : Option Addr) (n c : Nat) (l : List UInt8) (w : World) (hs : Sl w a n c l) (k : Int) (h0 : 0 ≤ k) (hk : n + k ≤ 140737488355328) :
    Calls Tryd.prog 45 #[.slice a n c, .int .i64 k] w (Built l w) := by
  have hl := hs.len
  subst hl
  go_enter Tryd.func45, Tryd.ntmps45
  go_wp2_with (first | (at_make; refine wp_make_bytes rfl _ _ rfl _ rfl rfl (by omega) (by omega) w.heap.size (Nat.le_refl _) ?_; intro w1 ad1 hown1 hb1; have hs1 := hs.kept hb1; have hz1 := hb1.size) | (at_builtin; refine wp_append_bytes rfl _ _ rfl _ [] l rfl w.heap.size hown1 a l.length c rfl hs1 (by simp; omega) hz1 ?_; intro w2 ad2 N2 c2 hN2 hown2 hb2))
  go_ret
  exact ⟨_, _, _, rfl, hN2, hown2, hb1.trans hb2⟩

set_option maxHeartbeats 400000 in
theorem bytes_any (a : Option Addr) (n c : Nat) (l : List UInt8) (w : World) (hs : Sl w a n c l) (hk : n ≤ 140737488355328) :
    Calls Tryd.prog 13 #[.slice a n c] w (Built l w) := by
  have hl := hs.len
  subst hl
  go_enter Tryd.func13, Tryd.ntmps13
  go_wp2_with (first | (at_make; refine wp_make_bytes rfl _ _ rfl _ rfl rfl (by omega) (by omega) w.heap.size (Nat.le_refl _) ?_; intro w1 ad1 hown1 hb1; have hs1 := hs.kept hb1; have hz1 := hb1.size) | (at_builtin; refine wp_append_bytes rfl _ _ rfl _ [] l rfl w.heap.size hown1 a l.length c rfl hs1 (by simp; omega) hz1 ?_; intro w2 ad2 N2 c2 hN2 hown2 hb2))
  go_ret
  exact ⟨_, _, _, rfl, hN2, hown2, hb1.trans hb2⟩

set_option maxRecDepth 100000 in
set_option maxHeartbeats 1000000 in
theorem addVarint_any (B : Nat) (a : Option Addr) (n c : Nat) (l : List UInt8) (w : World) (hown : Own w B (.slice a n c) l) (hn : n = l.length) (u : Nat) (hu : u ≤ 18446744073709551615) (hB : B ≤ w.heap.size) (hk : l.length + 10 ≤ 140737488355328) :
    Calls Tryd.prog 44 #[.slice a n c, .int .u64 u] w (Added B (l ++ varint u) w) := by
  subst hn
  have h10 := varint_len10 hu
  go_enter Tryd.func44, Tryd.ntmps44
  go_wp2
  go_loopw [0, 1] (fun v i wr => ∃ (x : Nat) (pre : List UInt8) (ad : Option Addr) (N c' : Nat), i = .int .u64 x ∧ x ≤ 18446744073709551615 ∧ v = .slice ad N c' ∧ Hid (varint u = pre ++ varint x) ∧ Own wr B (.slice ad N c') (l ++ pre) ∧ Below B w wr)
    (fun _ i _ => (intOf i).toNat)
  case atStart => exact ⟨u, [], a, _, c, rfl, hu, rfl, by simp [Hid], by simpa using hown, Below.refl _ _⟩
  case round =>
    obtain ⟨x, pre, ad, N, c', rfl, hx, rfl, hv, ho, hb⟩ := hrel
    have hz := hb.size
    have hpl : pre.length ≤ 9 := by
      have := congrArg List.length hv.out
      have := varint_pos x
      simp at *; omega
    by_cases h : x < 128
    · have hb1 : (x : Int) = ((UInt8.ofNat x).toNat : Int) := by rw [ofNat_toNat (by omega)]
      have HB := Lib.hid hb1; clear hb1
      go_wp2_with (at_builtin; (refine wp_append_bytes rfl _ _ rfl _ (l ++ pre) [UInt8.ofNat x] rfl B (ho.alloc _) (some ⟨wr.heap.size, 0, none⟩) 1 1 rfl (sl_new1 _ _ _ HB.out) (by simp; omega) (by simp; omega) ?_); intro w2 ad2 N2 c2 hN2 hown2 hb2)
      go_ret
      have e : l ++ pre ++ [UInt8.ofNat x] = l ++ varint u := by rw [hv.out, varint_lo h, List.append_assoc]
      rw [e] at hN2 hown2
      exact ⟨_, _, _, rfl, hN2, hown2, (hb.alloc (by omega) _).trans hb2⟩
    · have HB := Lib.hid (or128 (u := x))
      go_wp2_with (at_builtin; (refine wp_append_bytes rfl _ _ rfl _ (l ++ pre) [UInt8.ofNat (x % 128 + 128)] rfl B (ho.alloc _) (some ⟨wr.heap.size, 0, none⟩) 1 1 rfl (sl_new1 _ _ _ HB.out) (by simp; omega) (by simp; omega) ?_); intro w2 ad2 N2 c2 hN2 hown2 hb2)
      go_roundw
      case rel => exact ⟨x / 128, pre ++ [UInt8.ofNat (x % 128 + 128)], _, _, _, by go_num, by omega, rfl, Lib.hid (by rw [hv.out, varint_hi h]; simp), by rw [← List.append_assoc]; exact hown2, (hb.alloc (by omega) _).trans hb2⟩
      case measure => simp [intOf]; omega

set_option maxHeartbeats 400000 in
theorem size_any (u : Nat) (hu : u ≤ 18446744073709551615) (w : World) :
    Calls Tryd.prog 32 #[.int .u64 u] w fun e w' => e = .returned (.int .i64 ((varint u).length : Int)) ∧ w = w' := by
  have h10 := varint_len10 hu
  have hor : u ||| 1 < 2 ^ 64 := Nat.or_lt_two_pow (by omega) (by decide)
  have hb : bits .or .u64 (u : Int) 1 = ((u ||| 1 : Nat) : Int) := by
    rw [show (1 : Int) = ((1 : Nat) : Int) from rfl, u64_or_nat _ _ (by omega) (by omega)]
  have HS := Lib.hid (size_eq hu)
  have hle : Lib.bitLen (u ||| 1) ≤ 70 := by
    have := HS.out
    omega
  go_enter Tryd.func32, Tryd.ntmps32
  go_wp2_with fail
  refine (Tryd.bits_Len64 _ _ (by omega) (by omega)).mono ?_
  rintro e w' ⟨rfl, rfl⟩
  rw [Int.toNat_natCast]
  generalize Lib.bitLen (u ||| 1) = b at HS hle
  clear hb
  go_wp2_with fail
  go_ret
  exact ⟨ret_int (by have := HS.out; omega), rfl⟩

set_option maxHeartbeats 400000 in
theorem varint_any (a : Option Addr) (n c : Nat) (l : List UInt8) (w : World) (hs : Sl w a n c l) (hn : n ≤ 70368744177664) (u : Nat) (hu : u ≤ 18446744073709551615) :
    Calls Tryd.prog 15 #[.slice a n c, .int .u64 u] w (Built (l ++ varint u) w) := by
  have h10 := varint_len10 hu
  have hln := Lib.hid hs.len
  go_enter Tryd.func15, Tryd.ntmps15
  go_wp2_with fail
  refine (size_any u hu _).mono ?_
  rintro e w' ⟨rfl, rfl⟩
  go_wp2_with fail
  refine (grown_any a n c l _ hs _ (by omega) (by omega)).mono ?_
  rintro e w1 ⟨a1, N1, c1, rfl, hN1, hown1, hb1⟩
  go_wp2_with fail
  refine (addVarint_any w.heap.size a1 N1 c1 l _ hown1 hN1.out u hu hb1.size (by have := hln.out; omega)).mono ?_
  rintro e w2 ⟨a2, N2, c2, rfl, hN2, hown2, hb2⟩
  go_wp2_with fail
  go_ret
  exact ⟨_, _, _, rfl, hN2, hown2, hb1.trans hb2⟩

set_option maxRecDepth 100000 in
set_option maxHeartbeats 1000000 in
theorem varintr_any (u : Nat) (hu : u ≤ 18446744073709551615) (w : World) :
    Calls Tryd.prog 16 #[.int .u64 u] w (Built (varint u) w) := by
  have h10 := varint_len10 hu
  go_enter Tryd.func16, Tryd.ntmps16
  go_wp2
  go_loopw [3, 0] (fun v i wr => ∃ (x : Nat) (pre : List UInt8) (ad : Option Addr) (N c' : Nat), i = .int .u64 x ∧ x ≤ 18446744073709551615 ∧ v = .slice ad N c' ∧ Hid (varint u = pre ++ varint x) ∧ Own wr w.heap.size (.slice ad N c') pre ∧ Below w.heap.size w wr)
    (fun _ i _ => (intOf i).toNat)
  case atStart => exact ⟨u, [], none, 0, 0, rfl, hu, rfl, by simp [Hid], Own.nil _ _, Below.refl _ _⟩
  case round =>
    obtain ⟨x, pre, ad, N, c', rfl, hx, rfl, hv, ho, hb⟩ := hrel
    have hz := hb.size
    have hpl : pre.length ≤ 9 := by
      have := congrArg List.length hv.out
      have := varint_pos x
      simp at *; omega
    by_cases h : x < 128
    · have hb1 : (x : Int) = ((UInt8.ofNat x).toNat : Int) := by rw [ofNat_toNat (by omega)]
      have HB := Lib.hid hb1; clear hb1
      go_wp2_with (at_builtin; refine wp_append_bytes rfl _ _ rfl _ pre [UInt8.ofNat x] rfl w.heap.size (ho.alloc _) (some ⟨wr.heap.size, 0, none⟩) 1 1 rfl (sl_new1 _ _ _ HB.out) (by omega) (by simp; omega) ?_; intro w2 ad2 N2 c2 hN2 hown2 hb2)
      go_ret
      have e : pre ++ [UInt8.ofNat x] = varint u := by rw [hv.out, varint_lo h]
      rw [e] at hN2 hown2
      exact ⟨_, _, _, rfl, hN2, hown2, (hb.alloc (by omega) _).trans hb2⟩
    · have HB := Lib.hid (or128r (u := x) (by omega))
      go_wp2_with (at_builtin; refine wp_append_bytes rfl _ _ rfl _ pre [UInt8.ofNat (x % 128 + 128)] rfl w.heap.size (ho.alloc _) (some ⟨wr.heap.size, 0, none⟩) 1 1 rfl (sl_new1 _ _ _ HB.out) (by omega) (by simp; omega) ?_; intro w2 ad2 N2 c2 hN2 hown2 hb2)
      go_roundw
      case rel => exact ⟨x / 128, pre ++ [UInt8.ofNat (x % 128 + 128)], _, _, _, by go_num, by omega, rfl, Lib.hid (by rw [hv.out, varint_hi h]; simp), hown2, (hb.alloc (by omega) _).trans hb2⟩
      case measure => simp [intOf]; omega
end Go.Proofs.YtclnmajjkchfmaaDoor
