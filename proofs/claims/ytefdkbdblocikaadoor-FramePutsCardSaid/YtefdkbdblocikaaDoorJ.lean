/-
  CONTRACTS: faults of HTTP/2, places, what reads payloads.
-/
import Derived.Test.YtefdkbdblocikaaDoorI
import Derived.Test.YtefdkbdblocikaaDoorA
namespace Go.Proofs.YtefdkbdblocikaaDoor
open Go.RowKit Hu

/-- A fault of HTTP/2 as an error. -/
def HErr (w : World) (B : Nat) (v : Value) (k s : Int) : Prop := ∃ g, B ≤ g ∧ v = .iface 123 (.pointer (some ⟨g, 0, none⟩)) ∧ w.cell? ⟨g, 0, none⟩ = some (.int .i64 k) ∧ w.cell? ⟨g, 1, none⟩ = some (.int .i64 s)
theorem HErr.mono {w : World} {B B' : Nat} {v : Value} {k s : Int} (h : HErr w B v k s) (hB : B' ≤ B) : HErr w B' v k s := by
  obtain ⟨g, hg, r⟩ := h
  exact ⟨g, by omega, r⟩
theorem HErr.blk {w w' : World} {B : Nat} {v : Value} {k s : Int} (h : HErr w B v k s) (hb : ∀ g, B ≤ g → g < w.heap.size → w'.heap[g]? = w.heap[g]?) : HErr w' B v k s := by
  obtain ⟨g, hg, e, h0, h1⟩ := h
  have hk := hb g hg (Hu.cell_lt h0)
  exact ⟨g, hg, e, (World.cell?_of_block (a := ⟨g, 0, none⟩) hk).trans h0, (World.cell?_of_block (a := ⟨g, 1, none⟩) hk).trans h1⟩
theorem HErr.kept {w w' : World} {B : Nat} {v : Value} {k s : Int} (h : HErr w B v k s) (hb : Below w.heap.size w w') : HErr w' B v k s := by
  obtain ⟨g, hg, e, h0, h1⟩ := h
  exact ⟨g, hg, e, (hb.cell (Hu.cell_lt h0)).trans h0, (hb.cell (Hu.cell_lt h1)).trans h1⟩
/-- Of what was there only block p may have turned. -/
structure Kb (p : Nat) (w w' : World) : Prop where
  os : w'.os = w.os
  tape : w'.tape = w.tape
  output : w'.output = w.output
  size : w.heap.size ≤ w'.heap.size
  block : ∀ k, k < w.heap.size → k ≠ p → w'.heap[k]? = w.heap[k]?
theorem Kb.refl (p : Nat) (w : World) : Kb p w w := ⟨rfl, rfl, rfl, Nat.le_refl _, fun _ _ _ => rfl⟩
theorem Kb.trans {p : Nat} {x y z : World} (h : Kb p x y) (k : Kb p y z) : Kb p x z :=
  ⟨k.os.trans h.os, k.tape.trans h.tape, k.output.trans h.output, Nat.le_trans h.size k.size, fun i hi hp => (k.block i (Nat.lt_of_lt_of_le hi h.size) hp).trans (h.block i hi hp)⟩
theorem Kb.of_below {p : Nat} {w w' : World} (h : Below w.heap.size w w') : Kb p w w' := ⟨h.os, h.tape, h.output, h.size, fun k hk _ => h.block k hk⟩
theorem Kb.set {p : Nat} (w : World) (i : Nat) (v : Value) : Kb p w (w.setCell ⟨p, i, none⟩ v) := ⟨rfl, rfl, rfl, by simp [World.setCell], fun k _ hk => Below.heap_setCell _ _ _ _ hk⟩
theorem Kb.drew {p : Nat} {w w' : World} (h : Kb p w w') : Kb p w w'.drew := ⟨h.os, h.tape, h.output, h.size, h.block⟩
theorem Kb.drewN {p : Nat} {w w' : World} (h : Kb p w w') (q : Nat) : Kb p w (w'.drewN q) := ⟨h.os, h.tape, h.output, h.size, h.block⟩
theorem Kb.below {p B : Nat} {w w' : World} (h : Kb p w w') (hp : B ≤ p) (hB : B ≤ w.heap.size) : Below B w w' := ⟨h.os, h.tape, h.output, h.size, fun k hk => h.block k (by omega) (by omega)⟩
theorem sl_kb {w w' : World} {p : Nat} {a : Option Addr} {n c : Nat} {l : List UInt8} (h : Sl w a n c l) (hk : Kb p w w') (hne : ∀ q, a = some q → 0 < n → q.block ≠ p) : Sl w' a n c l :=
  ⟨h.len, h.le, h.max, h.nil, fun i hi => by
    obtain ⟨b, o, e, hc⟩ := h.row i hi
    have := hne _ e (by have := h.len; omega)
    exact ⟨b, o, e, (World.cell?_of_block (a := ⟨b, o + i, none⟩) (hk.block b (Hu.cell_lt hc) this)).trans hc⟩⟩
/-- What a reading of a payload answers: what the frame says, or a fault. -/
inductive Rd where
  | ok (P : IV → World → Prop)
  | er (k s : Int)
def ReadPost (p : Nat) (R : Rd) (w : World) (e : Ending) (w' : World) : Prop := Kb p w w' ∧ match R with
  | .ok P => ∃ I, e = .returned .nilIface ∧ Ib w' p I ∧ P I w'
  | .er k s => ∃ v, e = .returned v ∧ HErr w' w.heap.size v k s

theorem h2_any (k s : Int) (w : World) : Calls Tryd.prog 59 #[.int .i64 k, .int .i64 s] w fun e w' => (∃ v, e = .returned v ∧ HErr w' w.heap.size v k s) ∧ Below w.heap.size w w' := by
  go_enter Tryd.func59, Tryd.ntmps59
  go_wp2
  go_ret
  exact ⟨⟨_, rfl, w.heap.size, Nat.le_refl _, rfl, by simp, by simp⟩, (Below.refl _ w).alloc (Nat.le_refl _) _⟩
/-- Which streams a frame may have. -/
def allowsM (wh st : Int) : Bool := (wh == 0) || ((wh == 1) == (st != 0))
theorem allows_any (wh st : Int) (hw : wh = 0 ∨ wh = 1 ∨ wh = 2) (w : World) : Calls Tryd.prog 58 #[.int .i64 wh, .int .i64 st] w fun e w' => e = .returned (.bool (allowsM wh st)) ∧ w = w' := by
  by_cases hst : st = 0
  · subst hst
    rcases hw with rfl | rfl | rfl
    all_goals go_enter Tryd.func58, Tryd.ntmps58
    all_goals go_wp2
    all_goals go_ret
    all_goals exact ⟨by simp [allowsM], rfl⟩
  · have hst' : (st != 0) = true := by simpa using hst
    rcases hw with rfl | rfl | rfl
    all_goals go_enter Tryd.func58, Tryd.ntmps58
    all_goals go_wp2
    all_goals go_ret
    all_goals exact ⟨by simp [allowsM, hst'], rfl⟩
set_option maxRecDepth 100000 in
theorem readData_any (p : Nat) (I : IV) (a : Option Addr) (n c : Nat) (w : World) (h : Ib w p I) : Calls Tryd.prog 79 #[.pointer (some ⟨p, 0, none⟩), .slice a n c] w (ReadPost p (.ok fun J _ => J = { I with dv := .slice a n c }) w) := by
  have c17 := h.c 17 _ rfl
  have z := h.z 17
  have HI := Lib.hid h
  clear h
  go_enter Tryd.func79, Tryd.ntmps79
  go_wp2
  go_ret
  exact ⟨Kb.set _ _ _, _, rfl, HI.out.set 17 (.slice a n c) _ (by decide) rfl, rfl⟩
set_option maxRecDepth 100000 in
set_option maxHeartbeats 2000000 in
theorem readWindow_any (p : Nat) (I : IV) (a : Option Addr) (n c : Nat) (l : List UInt8) (w : World) (h : Ib w p I) (hs : Sl w a n c l) :
    Calls Tryd.prog 94 #[.pointer (some ⟨p, 0, none⟩), .slice a n c] w (ReadPost p (if n ≠ 4 then .er 6 0 else if numB l % 2147483648 = 0 then .er 1 I.st else .ok fun J _ => J = { I with ic := (numB l % 2147483648 : Nat) }) w) := by
  have hn9 := hs.nine
  by_cases hn : n = 4
  · subst hn
    have c2 := h.c 2 _ rfl
    have c14 := h.c 14 _ rfl
    have z := h.z 14
    have HI := Lib.hid h
    have hst := stream_any a 4 c l w hs (by omega)
    rw [if_neg (by simp)]
    generalize numB l % 2147483648 = q at hst ⊢
    have HST := Lib.hid hst
    clear h hst hs
    by_cases hq : q = 0
    · subst hq
      rw [if_pos rfl]
      have c14' := cell_setS w p 14 (.int .i64 0) _ c14
      have c2' := (cell_setN w p 14 2 (.int .i64 0) (by omega)).trans c2
      go_enter Tryd.func94, Tryd.ntmps94
      go_wp2_with fail
      refine HST.out.mono ?_
      rintro e w' ⟨rfl, rfl⟩
      go_wp2_with fail
      refine (h2_any _ _ _).mono ?_
      rintro e w2 ⟨⟨v, rfl, hv⟩, hb2⟩
      go_wp2_with fail
      go_ret
      exact ⟨(Kb.set _ _ _).trans (Kb.of_below hb2), _, rfl, hv.mono (by simp [World.setCell])⟩
    · rw [if_neg hq]
      have hq' : ((q : Int) == 0) = false := by rw [beq_eq_false_iff_ne]; omega
      have c14' := cell_setS w p 14 (.int .i64 (q : Int)) _ c14
      go_enter Tryd.func94, Tryd.ntmps94
      go_wp2_with fail
      refine HST.out.mono ?_
      rintro e w' ⟨rfl, rfl⟩
      go_wp2_with fail
      go_ret
      exact ⟨Kb.set _ _ _, _, rfl, HI.out.set 14 _ _ (by decide) rfl, rfl⟩
  · rw [if_pos hn]
    have hn' : ((n : Int) == 4) = false := by rw [beq_eq_false_iff_ne]; omega
    clear hs h
    go_enter Tryd.func94, Tryd.ntmps94
    go_wp2_with fail
    refine (h2_any _ _ _).mono ?_
    rintro e w2 ⟨⟨v, rfl, hv⟩, hb2⟩
    go_wp2_with fail
    go_ret
    exact ⟨Kb.of_below hb2, _, rfl, hv⟩
end Go.Proofs.YtefdkbdblocikaaDoor
