/-
  CONTRACTS: Put of whatever record may be written (P1.6).
-/
import Derived.Test.YtclnmajjkchfmaaDoorPb
namespace Go.Proofs.YtclnmajjkchfmaaDoor
open Go.RowKit Wr

theorem put_any (ea : Nat → Addr) (ab : Option Addr) (nb cb : Nat) (lb : List UInt8) (a : Option Addr) (n c : Nat) (l : List UInt8) (f k u : Nat) (h : PutOk f k l) (hu : u ≤ 18446744073709551615)
    (w : World) (E : Env w ea) (hs : Sl w ab nb cb lb) (hl : Sl w a n c l) (hnb : nb ≤ 35184372088832) (hn : n ≤ 35184372088832) :
    Calls Tryd.prog 41 #[.slice ab nb cb, .agg #[.int .i64 (f : Int), .int .i64 (k : Int), .int .u64 (u : Int), .slice a n c]] w (PutPost (lb ++ put f k u l) w) := by
  obtain ⟨h1, h2, h3, h4, h5⟩ := h
  have hk : k = 0 ∨ k = 1 ∨ k = 2 ∨ k = 3 ∨ k = 5 := by omega
  rcases hk with rfl | rfl | rfl | rfl | rfl
  · exact put0_any ea ab nb cb lb a n c l f u h1 h2 hu w E hs hl hnb hn
  · exact put1_any ea ab nb cb lb a n c l f u h1 h2 hu w E hs hl hnb hn
  · exact put2_any ea ab nb cb lb a n c l f u h1 h2 hu w E hs hl hnb hn
  · exact put3_any ea ab nb cb lb a n c l f u h1 h2 hu (h5 rfl) w E hs hl hnb hn
  · exact put5_any ea ab nb cb lb a n c l f u h1 h2 hu w E hs hl hnb hn
end Go.Proofs.YtclnmajjkchfmaaDoor
