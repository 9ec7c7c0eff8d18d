/-
  CONTRACTS: wire.Uvarint, parleyref1.Uvarint.
-/
import Derived.Test.YtclnmajjkchfmaaDoorK
namespace Go.Proofs.YtclnmajjkchfmaaDoor
open Go.RowKit Wr

/-- What Uvarint answers. -/
def UvPost (ea : Nat → Addr) (l : List UInt8) (w : World) (e : Ending) (w' : World) : Prop :=
  (∃ nq, w' = w.drewN nq) ∧ match uv l with
    | .ok (u, m) => e = .returned (.tuple #[.int .u64 (u : Int), .int .i64 (m : Int), .nilIface])
    | .er k => e = .returned (.tuple #[.int .u64 0, .int .i64 0, errV ea k])

set_option maxHeartbeats 1000000 in
theorem uv_any (ea : Nat → Addr) (a : Option Addr) (n c : Nat) (l : List UInt8) (w : World) (hs : Sl w a n c l) (E : Env w ea) :
    Calls Tryd.prog 17 #[.slice a n c] w (UvPost ea l w) := by
  have h1 := E.e101
  have h2 := E.e102
  have hm := hs.nine
  have hl := hs.len
  subst hl
  go_enter Tryd.func17, Tryd.ntmps17
  go_wp2
  go_loop [5, 10] (fun vx vi => ∃ k acc : Nat, vi = .int .i64 k ∧ vx = .int .u64 acc ∧ k ≤ 9 ∧ k ≤ l.length ∧ acc < 2 ^ (7 * k) ∧ uv l = uvGo k acc (l.drop k))
    (fun _ vi => l.length - (intOf vi).toNat)
  case atStart => exact ⟨0, 0, rfl, rfl, by omega, by omega, by decide, rfl⟩
  case round =>
    obtain ⟨k, acc, rfl, rfl, hk9, hkn, hacc, hdec⟩ := hrel
    by_cases hk : k < l.length
    · have hdrop : l.drop k = l[k] :: l.drop (k + 1) := List.drop_eq_getElem_cons hk
      obtain ⟨b, o, rfl⟩ := hs.some (by omega)
      have hc := hs.cell hk
      rw [hdrop] at hdec
      generalize l[k] = x at hc hdec
      have hx256 : x.toNat < 256 := x.toNat_lt
      clear hdrop
      by_cases h9 : k = 9
      · subst h9
        by_cases hx : 1 < x.toNat
        · have HD := Lib.hid (hdec.trans (uvGo_long rfl hx)); clear hdec
          go_wp2
          go_quiet (fail)
          go_wp2
          go_ret3
          exact ⟨⟨_, rfl⟩, by rw [HD.out]; rfl⟩
        · have h0 : x.toNat < 128 := by omega
          have HD := Lib.hid (hdec.trans (uvGo_last (by omega) h0)); clear hdec
          have hlo := and128_lo h0
          have HV := Lib.hid (or_shl9 hacc (show x.toNat ≤ 1 by omega))
          go_wp2
          go_ret3
          exact ⟨⟨0, rfl⟩, by rw [HD.out]; exact ret_u64 HV.out rfl⟩
      · by_cases h0 : x.toNat < 128
        · have HD := Lib.hid (hdec.trans (uvGo_last (by omega) h0)); clear hdec
          have hlo := and128_lo h0
          have HV := Lib.hid (or_shl_an (x := x) (show k < 9 by omega) hacc)
          go_wp2
          go_ret3
          refine ⟨⟨0, rfl⟩, by rw [HD.out]; exact ret_u64 (HV.out.trans (by rw [Nat.mod_eq_of_lt h0])) rfl⟩
        · have HD := Lib.hid (hdec.trans (uvGo_more (by omega) h0)); clear hdec
          have hlo := and128_hi h0
          have HV := Lib.hid (or_shl_an (x := x) (show k < 9 by omega) hacc)
          have hlt := step_lt (x := x.toNat % 128) hacc (by omega)
          go_wp2
          go_round
          case rel => exact ⟨k + 1, _, by go_num, by rw [HV.out], by omega, by omega, hlt, HD.out⟩
          case measure => simp [intOf]; omega
    · obtain rfl : k = l.length := by omega
      have HD : Hid (uv l = .er 101) := by
        refine Lib.hid ?_
        rw [hdec, List.drop_length]; rfl
      clear hdec
      go_wp2
      go_quiet (fail)
      go_wp2
      go_ret3
      exact ⟨⟨_, rfl⟩, by rw [HD.out]; rfl⟩

/-- What the document's Uvarint answers. -/
def UrPost (l : List UInt8) (w : World) (e : Ending) (w' : World) : Prop :=
  w = w' ∧ match uv l with
    | .ok (u, m) => e = .returned (.tuple #[.int .u64 (u : Int), .int .i64 (m : Int), .int .i64 0])
    | .er k => e = .returned (.tuple #[.int .u64 0, .int .i64 0, .int .i64 (k : Int)])

set_option maxRecDepth 100000 in
set_option maxHeartbeats 1000000 in
theorem ur_any (a : Option Addr) (n c : Nat) (l : List UInt8) (w : World) (hs : Sl w a n c l) :
    Calls Tryd.prog 18 #[.slice a n c] w (UrPost l w) := by
  have hm := hs.nine
  have hl := hs.len
  subst hl
  go_enter Tryd.func18, Tryd.ntmps18
  go_wp2
  go_loop [5, 6] (fun vx vi => ∃ k acc : Nat, vi = .int .i64 k ∧ vx = .int .u64 acc ∧ k ≤ 9 ∧ k ≤ l.length ∧ acc < 2 ^ (7 * k) ∧ uv l = uvGo k acc (l.drop k))
    (fun _ vi => l.length - (intOf vi).toNat)
  case atStart => exact ⟨0, 0, rfl, rfl, by omega, by omega, by decide, rfl⟩
  case round =>
    obtain ⟨k, acc, rfl, rfl, hk9, hkn, hacc, hdec⟩ := hrel
    by_cases hk : k < l.length
    · have hdrop : l.drop k = l[k] :: l.drop (k + 1) := List.drop_eq_getElem_cons hk
      obtain ⟨b, o, rfl⟩ := hs.some (by omega)
      have hc := hs.cell hk
      rw [hdrop] at hdec
      generalize l[k] = x at hc hdec
      have hx256 : x.toNat < 256 := x.toNat_lt
      clear hdrop
      by_cases h9 : k = 9
      · subst h9
        by_cases hx : 1 < x.toNat
        · have HD := Lib.hid (hdec.trans (uvGo_long rfl hx)); clear hdec
          go_wp2
          go_ret3
          exact ⟨rfl, by rw [HD.out]; rfl⟩
        · have h0 : x.toNat < 128 := by omega
          have HD := Lib.hid (hdec.trans (uvGo_last (by omega) h0)); clear hdec
          have HV := Lib.hid (or_shl9r hacc (show x.toNat ≤ 1 by omega))
          go_wp2
          go_ret3
          exact ⟨rfl, by rw [HD.out]; exact ret_u64 HV.out rfl⟩
      · have hn9 : ((k : Int) == 9) = false := by rw [beq_eq_false_iff_ne]; omega
        by_cases h0 : x.toNat < 128
        · have HD := Lib.hid (hdec.trans (uvGo_last (by omega) h0)); clear hdec
          have HV := Lib.hid (or_shl_nd (x := x) (show k < 9 by omega) hacc)
          go_wp2
          go_ret3
          refine ⟨rfl, by rw [HD.out]; exact ret_u64 (HV.out.trans (by rw [Nat.mod_eq_of_lt h0])) rfl⟩
        · have HD := Lib.hid (hdec.trans (uvGo_more (by omega) h0)); clear hdec
          have HV := Lib.hid (or_shl_nd (x := x) (show k < 9 by omega) hacc)
          have hlt := step_lt (x := x.toNat % 128) hacc (by omega)
          go_wp2
          go_round
          case rel => exact ⟨k + 1, _, by go_num, by rw [HV.out], by omega, by omega, hlt, HD.out⟩
          case measure => simp [intOf]; omega
    · obtain rfl : k = l.length := by omega
      have HD : Hid (uv l = .er 101) := by
        refine Lib.hid ?_
        rw [hdec, List.drop_length]; rfl
      clear hdec
      go_wp2
      go_ret3
      exact ⟨rfl, by rw [HD.out]; rfl⟩
end Go.Proofs.YtclnmajjkchfmaaDoor
