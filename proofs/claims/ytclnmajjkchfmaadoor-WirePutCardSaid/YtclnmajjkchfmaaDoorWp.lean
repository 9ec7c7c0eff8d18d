/-
  CONTRACTS: the document's Next, Check.
-/
import Derived.Test.YtclnmajjkchfmaaDoorWo
import Derived.Test.YtclnmajjkchfmaaDoorMc
import Derived.Test.YtclnmajjkchfmaaDoorU
namespace Go.Proofs.YtclnmajjkchfmaaDoor
open Go.RowKit Wr

set_option maxRecDepth 100000 in
set_option maxHeartbeats 1000000 in
theorem nextd_any (a : Option Addr) (n c : Nat) (l : List UInt8) (w : World) (hs : Sl w a n c l) (hn : n ≤ 140737488355328) :
    Calls Tryd.prog 34 #[.slice a n c] w (NxPost (rec 32 l) w) := by
  have hN := (nextr_all 32 0 rfl).1 (w.alloc recO) a n c l (hs.alloc _) hn
  cases hr : rec 32 l with
  | er x =>
    rw [hr] at hN
    have HN := Lib.hid hN; clear hN hr
    go_enter Tryd.func34, Tryd.ntmps34
    go_wp2_with fail
    refine HN.out.mono ?_
    rintro e w' ⟨hb1, rfl⟩
    have hz1 := hb1.size
    simp only [World.size_alloc] at hz1
    have k0 := hb1.cell (p := ⟨w.heap.size, 0, none⟩) (by simp <;> omega)
    have k1 := hb1.cell (p := ⟨w.heap.size, 1, none⟩) (by simp <;> omega)
    have k2 := hb1.cell (p := ⟨w.heap.size, 2, none⟩) (by simp <;> omega)
    have k3 := hb1.cell (p := ⟨w.heap.size, 3, none⟩) (by simp <;> omega)
    have kf := fun i => hb1.frozen (p := ⟨w.heap.size, i, none⟩) (by simp <;> omega)
    simp [go_sem] at k0 k1 k2 k3 kf
    have hlt : w.heap.size < w'.heap.size := by omega
    go_wp2_with fail
    refine bodyPost_ret (v := .tuple #[zeroRV, .int .i64 0, .int .i64 (x : Int)]) (by simp [results, Tryd.results34, go_sem, k0, k1, k2, k3, kf, hlt]) rfl ?_
    refine ⟨?_, rfl⟩
    (repeat (first | exact Below.refl _ _ | (refine Below.setCell ?_ (by first | omega | (simp; omega) | simp) _) | (refine Below.trans ?_ (hb1.mono (by simp <;> omega))) | (refine Below.alloc ?_ (by first | omega | (simp; omega) | simp) _)))
  | ok p =>
    obtain ⟨r, m⟩ := p
    rw [hr] at hN
    have HN := Lib.hid hN; clear hN hr
    go_enter Tryd.func34, Tryd.ntmps34
    go_wp2_with fail
    refine HN.out.mono ?_
    rintro e w' ⟨hb1, ax, mx, cx, rfl, hox⟩
    have hz1 := hb1.size
    simp only [World.size_alloc] at hz1 hox
    have k0 := hb1.cell (p := ⟨w.heap.size, 0, none⟩) (by simp <;> omega)
    have k1 := hb1.cell (p := ⟨w.heap.size, 1, none⟩) (by simp <;> omega)
    have k2 := hb1.cell (p := ⟨w.heap.size, 2, none⟩) (by simp <;> omega)
    have k3 := hb1.cell (p := ⟨w.heap.size, 3, none⟩) (by simp <;> omega)
    have kf := fun i => hb1.frozen (p := ⟨w.heap.size, i, none⟩) (by simp <;> omega)
    simp [go_sem] at k0 k1 k2 k3 kf
    have hlt : w.heap.size < w'.heap.size := by omega
    go_wp2_with fail
    refine bodyPost_ret (v := .tuple #[recV (r.field : Int) (r.kind : Int) (r.u : Int) ax mx cx, .int .i64 (m : Int), .int .i64 0]) (by simp [results, Tryd.results34, go_sem, k0, k1, k2, k3, kf, hlt]) rfl ?_
    refine ⟨?_, _, _, _, rfl, ?_⟩
    · (repeat (first | exact Below.refl _ _ | (refine Below.setCell ?_ (by first | omega | (simp; omega) | simp) _) | (refine Below.trans ?_ (hb1.mono (by simp <;> omega))) | (refine Below.alloc ?_ (by first | omega | (simp; omega) | simp) _)))
    · refine Own.mono (B := w.heap.size + 1) ?_ (by omega)
      exact (ownsRow_setCell_below (ownsRow_setCell_below (ownsRow_setCell_below (ownsRow_setCell_below hox (by simp <;> omega) _) (by simp <;> omega) _) (by simp <;> omega) _) (by simp <;> omega) _)

/-- A fault with a place around it. -/
def PlPost (k i : Int) (w : World) (e : Ending) (w' : World) : Prop := ∃ g, e = .returned (.agg #[.int .i64 k, .int .i64 0, .int .i64 0, .slice (some ⟨g, 0, none⟩) 1 1]) ∧ w'.cell? ⟨g, 0, none⟩ = some (.int .i64 i) ∧ w.heap.size ≤ g ∧ Below w.heap.size w w'
set_option maxRecDepth 100000 in
theorem placed_any (k : Nat) (hk : 101 ≤ k) (i : Int) (w : World) : Calls Tryd.prog 58 #[.int .i64 (k : Int), .int .i64 i] w (PlPost k i w) := by
  go_enter Tryd.func58, Tryd.ntmps58
  go_wp2
  refine bodyPost_ret (v := .agg #[.int .i64 (k : Int), .int .i64 0, .int .i64 0, .slice (some ⟨w.heap.size + 1, 0, none⟩) 1 1]) (by simp [results, Tryd.results58, go_sem]) rfl ?_
  refine ⟨_, rfl, by simp [go_sem], by omega, ?_⟩
  (repeat (first | exact Below.refl _ _ | (refine Below.setCell ?_ (by first | omega | (simp; omega) | simp) _) | (refine bdN ?_ _) | (refine Below.drew ?_) | (refine Below.alloc ?_ (by first | omega | (simp; omega) | simp) _)))
end Go.Proofs.YtclnmajjkchfmaaDoor
