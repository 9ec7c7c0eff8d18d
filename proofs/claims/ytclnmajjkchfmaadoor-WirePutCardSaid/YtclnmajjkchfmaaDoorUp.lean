/-
  PAIRS: a function of package wire and the document's, seen alike.
-/
import Derived.Test.YtclnmajjkchfmaaDoorUs
import Derived.Test.YtclnmajjkchfmaaDoorF
namespace Go.Proofs.YtclnmajjkchfmaaDoor
open Go.RowKit Wr

/-- The six errors out of the thirty. -/
theorem Sent.env {w : World} {es : Nat → Addr} (S : Sent w es) : Env w (fun c => es (c - 101)) :=
  ⟨S.cell 0 _ rfl, S.cell 1 _ rfl, S.cell 2 _ rfl, S.cell 3 _ rfl, S.cell 4 _ rfl, S.cell 19 _ rfl⟩
theorem seen_code {w : World} {es : Nat → Addr} (S : Sent w es) {c : Nat} (h : 101 ≤ c) (h2 : c ≤ 130) : Seen w (errV (fun c => es (c - 101)) c) (c : Int) := by
  have := seen_err S (i := c - 101) (by omega)
  rw [show 101 + (c - 101) = c by omega] at this
  exact this

theorem tag_pair {w0 : World} {es : Nat → Addr} (S : Sent w0 es) (f k : Int) (hf : -9223372036854775808 ≤ f ∧ f ≤ 9223372036854775807) (hk : -9223372036854775808 ≤ k ∧ k ≤ 9223372036854775807) :
    ∃ (x : Int) (ev : Value) (c : Int), Seen w0 ev c ∧
      (∀ W, Below w0.heap.size w0 W → Calls Tryd.prog 23 #[.int .i64 f, .int .i64 k] W fun e w' => e = .returned (.tuple #[.int .u64 x, ev]) ∧ Below W.heap.size W w') ∧
      (∀ W, Calls Tryd.prog 24 #[.int .i64 f, .int .i64 k] W fun e w' => e = .returned (.tuple #[.int .u64 x, .int .i64 c]) ∧ W = w') := by
  by_cases h : TagOk f k
  · exact ⟨f * 8 + k, .nilIface, 0, seen_nil w0, fun W _ => (tag_ok f k h W).mono fun e w' ⟨h1, h2⟩ => ⟨h1, h2 ▸ Below.refl _ _⟩, fun W => tagr_ok f k h W⟩
  · exact ⟨0, _, 103, seen_code S (c := 103) (by omega) (by omega), fun W hW => (tag_no _ f k hf.1 hf.2 hk.1 hk.2 h W ((S.env).kept hW)).mono (by rintro e w' ⟨rfl, nq, rfl⟩; exact ⟨rfl, below_drewN _ _⟩), fun W => tagr_no f k hf.1 hf.2 hk.1 hk.2 h W⟩

theorem untag_pair {w0 : World} {es : Nat → Addr} (S : Sent w0 es) (u : Nat) (hu : u ≤ 18446744073709551615) :
    ∃ (x i : Int) (ev : Value) (c : Int), Seen w0 ev c ∧
      (∀ W, Below w0.heap.size w0 W → Calls Tryd.prog 25 #[.int .u64 (u : Int)] W fun e w' => e = .returned (.tuple #[.int .i64 x, .int .i64 i, ev]) ∧ Below W.heap.size W w') ∧
      (∀ W, Calls Tryd.prog 26 #[.int .u64 (u : Int)] W fun e w' => e = .returned (.tuple #[.int .i64 x, .int .i64 i, .int .i64 c]) ∧ W = w') := by
  rcases untag_cases u with ⟨_, h⟩ | ⟨_, h1, h2, h3⟩
  · exact ⟨0, 0, _, 103, seen_code S (c := 103) (by omega) (by omega), fun W hW => (untag_no _ u hu h W ((S.env).kept hW)).mono (by rintro e w' ⟨rfl, nq, rfl⟩; exact ⟨rfl, below_drewN _ _⟩), fun W => untagr_no u hu h W⟩
  · exact ⟨_, _, .nilIface, 0, seen_nil w0, fun W _ => (untag_ok u hu h1 h2 h3 W).mono fun e w' ⟨h1, h2⟩ => ⟨h1, h2 ▸ Below.refl _ _⟩, fun W => untagr_ok u hu h1 h2 h3 W⟩

theorem uv_pair {w0 : World} {es : Nat → Addr} (S : Sent w0 es) (l : List UInt8) :
    ∃ (x i : Int) (ev : Value) (c : Int), Seen w0 ev c ∧
      (∀ W a n d, Below w0.heap.size w0 W → Sl W a n d l → Calls Tryd.prog 17 #[.slice a n d] W fun e w' => e = .returned (.tuple #[.int .u64 x, .int .i64 i, ev]) ∧ Below W.heap.size W w') ∧
      (∀ W a n d, Sl W a n d l → Calls Tryd.prog 18 #[.slice a n d] W fun e w' => e = .returned (.tuple #[.int .u64 x, .int .i64 i, .int .i64 c]) ∧ Below W.heap.size W w') := by
  cases h : uv l with
  | er k =>
    have hk := uv_er h
    refine ⟨0, 0, _, (k : Int), seen_code S (c := k) (by omega) (by omega), fun W a n d hW hs => (uv_no _ a n d l W hs ((S.env).kept hW) k h).mono (by rintro e w' ⟨rfl, nq, rfl⟩; exact ⟨rfl, below_drewN _ _⟩), fun W a n d hs => (ur_any a n d l W hs).mono ?_⟩
    intro e w' hp
    unfold UrPost at hp
    rw [h] at hp
    exact ⟨hp.2, hp.1 ▸ Below.refl _ _⟩
  | ok p =>
    obtain ⟨u, m⟩ := p
    refine ⟨u, m, .nilIface, 0, seen_nil w0, fun W a n d hW hs => (uv_yes _ a n d l W hs ((S.env).kept hW) u m h).mono (by rintro e w' ⟨rfl, nq, rfl⟩; exact ⟨rfl, below_drewN _ _⟩), fun W a n d hs => (ur_any a n d l W hs).mono ?_⟩
    intro e w' hp
    unfold UrPost at hp
    rw [h] at hp
    exact ⟨hp.2, hp.1 ▸ Below.refl _ _⟩

theorem unfixed_pair {w0 : World} {es : Nat → Addr} (S : Sent w0 es) (l : List UInt8) (k : Int) :
    ∃ (x i : Int) (ev : Value) (c : Int), Seen w0 ev c ∧
      (∀ W a n d, Below w0.heap.size w0 W → Sl W a n d l → Calls Tryd.prog 21 #[.slice a n d, .int .i64 k] W fun e w' => e = .returned (.tuple #[.int .u64 x, .int .i64 i, ev]) ∧ Below W.heap.size W w') ∧
      (∀ W a n d, Sl W a n d l → Calls Tryd.prog 22 #[.slice a n d, .int .i64 k] W fun e w' => e = .returned (.tuple #[.int .u64 x, .int .i64 i, .int .i64 c]) ∧ Below W.heap.size W w') := by
  by_cases h : k = 4 ∨ k = 8
  · obtain ⟨q, rfl, hq⟩ : ∃ q : Nat, k = q ∧ (q = 4 ∨ q = 8) := ⟨k.toNat, by omega, by omega⟩
    by_cases hl : q ≤ l.length
    · exact ⟨_, _, .nilIface, 0, seen_nil w0,
        fun W a n d hW hs => (unfixed_ok a n d l W hs q hq (by have := hs.len; omega)).mono fun e w' ⟨h1, h2⟩ => ⟨h1, h2 ▸ Below.refl _ _⟩,
        fun W a n d hs => (unfixedr_ok a n d l W hs q hq (by have := hs.len; omega)).mono fun e w' ⟨h1, h2⟩ => ⟨h1, h2 ▸ Below.refl _ _⟩⟩
    · exact ⟨0, 0, _, 101, seen_code S (c := 101) (by omega) (by omega),
        fun W a n d hW hs => (unfixed_short _ a n d l W hs ((S.env).kept hW) q hq (by have := hs.len; omega)).mono (by rintro e w' ⟨rfl, nq, rfl⟩; exact ⟨rfl, below_drewN _ _⟩),
        fun W a n d hs => (unfixedr_short a n d l W hs q hq (by have := hs.len; omega)).mono fun e w' ⟨h1, h2⟩ => ⟨h1, h2 ▸ Below.refl _ _⟩⟩
  · have hb : (k == 4 || k == 8) = false := by
      simp
      omega
    exact ⟨0, 0, _, 120, seen_code S (c := 120) (by omega) (by omega),
      fun W a n d hW hs => (unfixed_no _ a n d W ((S.env).kept hW) k hb).mono (by rintro e w' ⟨rfl, nq, rfl⟩; exact ⟨rfl, below_drewN _ _⟩),
      fun W a n d hs => (unfixedr_no a n d W k hb).mono fun e w' ⟨h1, h2⟩ => ⟨h1, h2 ▸ Below.refl _ _⟩⟩

/-- Fixed writes, behind what stands there, what the document's Fixed writes. -/
theorem fixed_pair (u : Nat) (hu : u ≤ 18446744073709551615) (k : Int) (hk : -9223372036854775808 ≤ k ∧ k ≤ 9223372036854775807) :
    ∃ m : List UInt8, m.length ≤ 8 ∧
      (∀ W a n d l, n ≤ 70368744177664 → Sl W a n d l → Calls Tryd.prog 19 #[.slice a n d, .int .u64 (u : Int), .int .i64 k] W (Built (l ++ m) W)) ∧
      (∀ W, Calls Tryd.prog 20 #[.int .u64 (u : Int), .int .i64 k] W (Built m W)) := by
  by_cases h : k = 4 ∨ k = 8
  · obtain ⟨q, rfl, hq⟩ : ∃ q : Nat, k = q ∧ (q = 4 ∨ q = 8) := ⟨k.toNat, by omega, by omega⟩
    refine ⟨fixedB q u, by rw [fixedB_length]; omega, fun W a n d l hn hs => fixed_yes a n d l W hs hn u hu q ?_, fun W => fixedr_yes u hu q hq W⟩
    rcases hq with rfl | rfl <;> rfl
  · have hb : (k == 4 || k == 8) = false := by
      simp
      omega
    refine ⟨[], by simp, fun W a n d l hn hs => ?_, fun W => fixedr_no u hu k hk.1 hk.2 hb W⟩
    rw [List.append_nil]
    exact fixed_no a n d l W hs hn u hu k hb
end Go.Proofs.YtclnmajjkchfmaaDoor
