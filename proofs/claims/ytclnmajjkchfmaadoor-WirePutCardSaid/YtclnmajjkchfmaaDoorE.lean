/-
  THE MAP OF READERS: what newReaders lays, and what is found in it.
-/
import Derived.Test.YtclnmajjkchfmaaDoorD
import Derived.Maps.OwnOps
namespace Go.Proofs.YtclnmajjkchfmaaDoor
open Go.RowKit Wr

/-- A function in the map reads as itself. -/
def fnR (v : Value) : Option (DataW Value × List MemPlace) := some (.held v, [])
abbrev fv0 : Value := .func (.func 65) #[] #[]
abbrev fv1 (b : Nat) : Value := .func (.func 77) #[] #[.pointer (some ⟨b, 0, none⟩)]
abbrev fv2 : Value := .func (.func 67) #[] #[]
abbrev fv3 (mb : Nat) : Value := .func (.func 69) #[.map (some mb)] #[]
abbrev fv4 : Value := .func (.func 68) #[] #[]
def tab (mb b8 b4 : Nat) : DataW Value :=
  ((((((DataW.map []).put (.int .i64 0) (.held fv0)).put (.int .i64 1) (.held (fv1 b8))).put (.int .i64 2) (.held fv2)).put (.int .i64 4) (.held fv4)).put (.int .i64 5) (.held (fv1 b4))).put (.int .i64 3) (.held (fv3 mb))

structure Readers (w : World) (mb b8 b4 : Nat) : Prop where
  map : w.ownsMap Tryd.prog 3 fnR mb 6 (tab mb b8 b4)
  c8 : w.cell? ⟨b8, 0, none⟩ = some (.int .i64 8)
  c4 : w.cell? ⟨b4, 0, none⟩ = some (.int .i64 4)
theorem Readers.kept {w w' : World} {mb b8 b4 : Nat} (h : Readers w mb b8 b4) (hb : Below w.heap.size w w') : Readers w' mb b8 b4 :=
  ⟨h.map.kept (row := none) ⟨hb.os, hb.tape, hb.output, hb.size, fun k hk _ => hb.block k hk⟩ (by simp),
   (hb.cell (p := ⟨b8, 0, none⟩) (cell_lt h.c8)).trans h.c8, (hb.cell (p := ⟨b4, 0, none⟩) (cell_lt h.c4)).trans h.c4⟩
theorem Readers.drewN {w : World} {mb b8 b4 : Nat} (h : Readers w mb b8 b4) (q : Nat) : Readers (w.drewN q) mb b8 b4 := h.kept (below_drewN w q)
theorem Readers.alloc {w : World} {mb b8 b4 : Nat} (h : Readers w mb b8 b4) (o : Obj) : Readers (w.alloc o) mb b8 b4 := h.kept ((Below.refl _ _).alloc (Nat.le_refl _) o)

theorem zeroFn (w : World) : (zeroValue 101).run Tryd.prog w = .ok .nilFunc w := by kernel_rfl
theorem Readers.look {w : World} {mb b8 b4 : Nat} (h : Readers w mb b8 b4) (k : Int) (v : Value) (hk : (Lit.int .i64 k).wf = true)
    (ht : (tab mb b8 b4).atKey (.int .i64 k) (.held .nilFunc) = .held v) :
    (Instr.lookup 84 (.map (some mb)) (.int .i64 k) false).run Tryd.prog w = .ok v w := by
  obtain ⟨v', ps, hrun, hv⟩ := h.map.lookup (Maps.int_keyed Tryd.underlying3) Tryd.underlying84 (zeroFn w) (zd := .held .nilFunc) (zp := []) rfl
    (Maps.keyOf_int_mk Tryd.underlying3 hk)
  rw [ht] at hv
  simp only [fnR, Option.some.injEq, Prod.mk.injEq, DataW.held.injEq] at hv
  rw [hrun, hv.1]
theorem Readers.look0 {w : World} {mb b8 b4 : Nat} (h : Readers w mb b8 b4) : (Instr.lookup 84 (.map (some mb)) (.int .i64 0) false).run Tryd.prog w = .ok fv0 w := h.look 0 _ (by decide) rfl
theorem Readers.look1 {w : World} {mb b8 b4 : Nat} (h : Readers w mb b8 b4) : (Instr.lookup 84 (.map (some mb)) (.int .i64 1) false).run Tryd.prog w = .ok (fv1 b8) w := h.look 1 _ (by decide) rfl
theorem Readers.look2 {w : World} {mb b8 b4 : Nat} (h : Readers w mb b8 b4) : (Instr.lookup 84 (.map (some mb)) (.int .i64 2) false).run Tryd.prog w = .ok fv2 w := h.look 2 _ (by decide) rfl
theorem Readers.look3 {w : World} {mb b8 b4 : Nat} (h : Readers w mb b8 b4) : (Instr.lookup 84 (.map (some mb)) (.int .i64 3) false).run Tryd.prog w = .ok (fv3 mb) w := h.look 3 _ (by decide) rfl
theorem Readers.look4 {w : World} {mb b8 b4 : Nat} (h : Readers w mb b8 b4) : (Instr.lookup 84 (.map (some mb)) (.int .i64 4) false).run Tryd.prog w = .ok fv4 w := h.look 4 _ (by decide) rfl
theorem Readers.look5 {w : World} {mb b8 b4 : Nat} (h : Readers w mb b8 b4) : (Instr.lookup 84 (.map (some mb)) (.int .i64 5) false).run Tryd.prog w = .ok (fv1 b4) w := h.look 5 _ (by decide) rfl

/-- A store into the map. -/
theorem wp_insert {w : World} {ops : Array Oper} {rest : List Oper} {o : Oper} {a : Act} {Q : Exit → Act → World → Prop}
    (hg : o.guard = none) (m x v : Operand) (hop : o.op = Op.insert 84 m x v ∨ o.op = Op.mapUpdate 84 m x v) (b n : Nat) (D : DataW Value)
    (hm : a.eval m = .map (some b)) (hown : w.ownsMap Tryd.prog 3 fnR b n D) (hn : n < 7) (k : Int) (val : Value) (hx : a.eval x = .int .i64 k) (hv : a.eval v = val) (hk : (Lit.int .i64 k).wf = true)
    (hK : ∀ w', w'.ownsMap Tryd.prog 3 fnR b (n + 1) (D.put (.int .i64 k) (.held val)) → w.grownBy w' (some b) → wpList Tryd.prog ops Q rest (a.put o.dst undef) w') :
    wpList Tryd.prog ops Q (o :: rest) a w := by
  refine wpList_plain hg fun K' hK' => ?_
  obtain ⟨w', hrun, r1, r2⟩ := hown.update (Maps.int_keyed Tryd.underlying3) Tryd.underlying84 (by unfold maxLen; omega) (val := val) (Maps.keyOf_int_mk Tryd.underlying3 hk) (d := .held val) (ps := []) rfl
  unfold Oper.wp
  rcases hop with hop | hop
  · simp [execOp, hop, hm, hx, hv, hrun, Result.andThen]
    exact hK' _ _ (hK w' r1 r2)
  · simp [execOp, hop, hm, hx, hv, hrun, Result.andThen]
    exact hK' _ _ (hK w' r1 r2)

theorem fixedBody_any (k : Int) (w : World) : Calls Tryd.prog 66 #[.int .i64 k] w fun e w' => e = .returned (fv1 w.heap.size) ∧ w.alloc (.cells #[.int .i64 k] 3) = w' := by
  go_enter Tryd.func66, Tryd.ntmps66
  go_wp2
  go_ret
  exact ⟨rfl, rfl⟩

def NewReaders (w : World) (e : Ending) (w' : World) : Prop := ∃ mb b8 b4, e = .returned (.map (some mb)) ∧ Readers w' mb b8 b4 ∧ Below w.heap.size w w'

set_option maxRecDepth 100000 in
set_option maxHeartbeats 1000000 in
theorem newReaders_any (w : World) : Calls Tryd.prog 50 #[] w (NewReaders w) := by
  have hmm := @run_makeMap Tryd.prog
  have h0 := World.ownsMap_made w Tryd.prog 3 fnR
  go_enter Tryd.func50, Tryd.ntmps50
  go_wp2_with (refine wp_insert rfl _ _ _ (Or.inl rfl) _ _ _ rfl h0 (by decide) 0 fv0 rfl rfl (by decide) ?_; intro w1 h1 g1)
  refine (fixedBody_any _ _).mono ?_
  rintro e w' ⟨rfl, rfl⟩
  have h1' := h1.alloc (.cells #[.int .i64 8] 3)
  go_wp2_with (first | (refine wp_insert rfl _ _ _ (Or.inl rfl) _ _ _ rfl h1' (by decide) 1 (fv1 w1.heap.size) rfl rfl (by decide) ?_; intro w2 h2 g2) | (refine wp_insert rfl _ _ _ (Or.inl rfl) _ _ _ rfl h2 (by decide) 2 fv2 rfl rfl (by decide) ?_; intro w3 h3 g3) | (refine wp_insert rfl _ _ _ (Or.inl rfl) _ _ _ rfl h3 (by decide) 4 fv4 rfl rfl (by decide) ?_; intro w4 h4 g4))
  refine (fixedBody_any _ _).mono ?_
  rintro e w' ⟨rfl, rfl⟩
  have h4' := h4.alloc (.cells #[.int .i64 4] 3)
  go_wp2_with (first | (refine wp_insert rfl _ _ _ (Or.inl rfl) _ _ _ rfl h4' (by decide) 5 (fv1 w4.heap.size) rfl rfl (by decide) ?_; intro w5 h5 g5) | (refine wp_insert rfl _ _ _ (Or.inr rfl) _ _ _ rfl h5 (by decide) 3 (fv3 w.heap.size) rfl rfl (by decide) ?_; intro w6 h6 g6))
  have s1 := g1.size
  have s2 := g2.size
  have s3 := g3.size
  have s4 := g4.size
  have s5 := g5.size
  simp only [World.size_alloc] at s1 s2 s3 s4 s5
  go_ret
  have c8 : (w1.alloc (.cells #[.int .i64 8] 3)).cell? ⟨w1.heap.size, 0, none⟩ = some (.int .i64 8) := by simp
  have c4 : (w4.alloc (.cells #[.int .i64 4] 3)).cell? ⟨w4.heap.size, 0, none⟩ = some (.int .i64 4) := by simp
  have n8 : some w1.heap.size ≠ some w.heap.size := by intro e; have := Option.some.inj e; omega
  have n4 : some w4.heap.size ≠ some w.heap.size := by intro e; have := Option.some.inj e; omega
  have k8 := g4.cell (g3.cell (g2.cell c8 n8) n8) n8
  have k8' := g6.cell (g5.cell (a := ⟨w1.heap.size, 0, none⟩) (v := .int .i64 8) (by rw [World.cell?_alloc_lt _ _ _ (cell_lt k8)]; exact k8) n8) n8
  have k4 := g6.cell (g5.cell c4 n4) n4
  have b0 : Below w.heap.size w (w.alloc (.map #[] 0)) := (Below.refl _ _).alloc (Nat.le_refl _) _
  have b1 := b0.grown g1 (by simp) (fun k hk => by cases hk; exact Nat.le_refl _)
  have b2 := (b1.alloc (by omega) (.cells #[.int .i64 8] 3)).grown g2 (by simp; omega) (fun k hk => by cases hk; exact Nat.le_refl _)
  have b3 := b2.grown g3 (by omega) (fun k hk => by cases hk; exact Nat.le_refl _)
  have b4 := b3.grown g4 (by omega) (fun k hk => by cases hk; exact Nat.le_refl _)
  have b5 := (b4.alloc (by omega) (.cells #[.int .i64 4] 3)).grown g5 (by simp; omega) (fun k hk => by cases hk; exact Nat.le_refl _)
  have b6 := b5.grown g6 (by omega) (fun k hk => by cases hk; exact Nat.le_refl _)
  exact ⟨_, w1.heap.size, w4.heap.size, rfl, ⟨h6, k8', k4⟩, b6⟩
end Go.Proofs.YtclnmajjkchfmaaDoor
