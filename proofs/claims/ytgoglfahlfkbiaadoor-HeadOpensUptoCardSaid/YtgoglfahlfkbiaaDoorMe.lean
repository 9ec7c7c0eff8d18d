/-
  CONTRACTS: Open, OpenAnswer, Trailers: whether they answer an error.
-/
import Derived.Test.YtgoglfahlfkbiaaDoorMr
namespace Go.Proofs.YtgoglfahlfkbiaaDoor
open Go.RowKit Tt

def errO (ea : Addr) (b : Bool) : Value := if b then .nilIface else errV ea
theorem eq_nil (ea : Addr) (b : Bool) (w : World) : (binOp .eql 29 (errO ea b) .nilIface).run Tryd.prog w = .ok (.bool b) w := by
  cases b with
  | true => simp [errO, go_sem]
  | false => simp [errO, errV, go_sem]
theorem ne_nil (ea : Addr) (b : Bool) (w : World) : (binOp .neq 29 (errO ea b) .nilIface).run Tryd.prog w = .ok (.bool (!b)) w := by
  cases b with
  | true => simp [errO, go_sem]
  | false => simp [errO, errV, go_sem]
theorem gd_eq (ea : Addr) (b : Bool) (k : Nat) (w : World) : (eqGuard .eql 29 (.tmp k) (.const .nilIface) (errO ea b) .nilIface).run Tryd.prog w = .ok () w := by
  cases b with
  | true => simp [eqGuard, errO, go_sem]
  | false => simp [eqGuard, errO, errV, go_sem]
theorem gd_ne (ea : Addr) (b : Bool) (k : Nat) (w : World) : (eqGuard .neq 29 (.tmp k) (.const .nilIface) (errO ea b) .nilIface).run Tryd.prog w = .ok () w := by
  cases b with
  | true => simp [eqGuard, errO, go_sem]
  | false => simp [eqGuard, errO, errV, go_sem]
theorem trail_o (a : Option Addr) (n c : Nat) (L : List Hn) (w : World) (hs : Ns w a n c L) (hm : Sm L) (ea : Addr) (hE : w.cell? ⟨0, 0, none⟩ = some (errV ea)) :
    Calls Tryd.prog 15 #[.slice a n c] w fun e w' => e = .returned (errO ea (trailB L)) ∧ Below w.heap.size w w' :=
  (trail_any a n c L (errV ea) w hs hm hE).mono fun _ _ h => h
theorem open_o (a : Option Addr) (n c : Nat) (L : List Hn) (w : World) (hs : Ns w a n c L) (hm : Sm L) (hn : n ≤ 100000) (ea : Addr) (hE : w.cell? ⟨0, 0, none⟩ = some (errV ea)) :
    Calls Tryd.prog 11 #[.slice a n c] w fun e w' => (∃ x0 x1 x2 x3 a5 N5 c5, e = .returned (.tuple #[.agg #[.string x0, .string x1, .string x2, .string x3, .slice a5 N5 c5], errO ea (openR L).isSome])) ∧ Below w.heap.size w w' := by
  refine (open_any a n c L w hs hm hn ea hE).mono fun e w' h => ⟨?_, h.1⟩
  have h2 := h.2
  cases ho : openR L with
  | none =>
    rw [ho] at h2
    exact ⟨_, _, _, _, _, _, _, h2⟩
  | some x =>
    obtain ⟨q, R⟩ := x
    rw [ho] at h2
    obtain ⟨a5, N5, c5, he, _⟩ := h2
    exact ⟨_, _, _, _, _, _, _, he⟩
theorem openA_o (a : Option Addr) (n c : Nat) (L : List Hn) (w : World) (hs : Ns w a n c L) (hm : Sm L) (hn : n ≤ 100000) (ea : Addr) (hE : w.cell? ⟨0, 0, none⟩ = some (errV ea)) :
    Calls Tryd.prog 13 #[.slice a n c] w fun e w' => (∃ x0 a5 N5 c5, e = .returned (.tuple #[.agg #[.int .i64 x0, .slice a5 N5 c5], errO ea (openA L).isSome])) ∧ Below w.heap.size w w' := by
  refine (openA_any a n c L w hs hm hn ea hE).mono fun e w' h => ⟨?_, h.1⟩
  have h2 := h.2
  cases ho : openA L with
  | none =>
    rw [ho] at h2
    exact ⟨_, _, _, _, h2⟩
  | some x =>
    obtain ⟨q, R⟩ := x
    rw [ho] at h2
    obtain ⟨a5, N5, c5, he, _⟩ := h2
    exact ⟨_, _, _, _, he⟩
end Go.Proofs.YtgoglfahlfkbiaaDoor
