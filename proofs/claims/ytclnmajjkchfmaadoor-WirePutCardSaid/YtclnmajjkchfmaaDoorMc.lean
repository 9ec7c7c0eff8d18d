/-
  PLAIN MATHEMATICS: going over records (P1.7). No program is named here.
-/
import Derived.Test.YtclnmajjkchfmaaDoorMr
namespace Go.Proofs.YtclnmajjkchfmaaDoor
namespace Wr
/-- P1.7: going over records: none, or the place of the first that has an error, and the error. -/
def chk (d : Nat) (l : List UInt8) : Nat → Nat → Option (Nat × Nat)
  | 0, _ => none
  | fuel + 1, i => if i < l.length then
      match rec d (l.drop i) with
      | .er c => some (i, c)
      | .ok (_, n) => chk d l fuel (i + n)
    else none
theorem chk_end {d : Nat} {l : List UInt8} {fuel i : Nat} (h : ¬ i < l.length) : chk d l fuel i = none := by
  cases fuel with
  | zero => rfl
  | succ k => rw [chk, if_neg h]
def check (l : List UInt8) : Option (Nat × Nat) := chk 32 l (l.length + 1) 0
end Wr
end Go.Proofs.YtclnmajjkchfmaaDoor
