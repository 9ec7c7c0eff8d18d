/-
  THE MAP OF LAYOUTS: what layouts lays, and what is found in it.
-/
import Derived.Test.YtefdkbdblocikaaDoorA
import Derived.Maps.OwnOps
import Derived.Maps.Views
namespace Go.Proofs.YtefdkbdblocikaaDoor
open Go.RowKit Hu

/-- A layout in the map reads as itself. -/
def fnR (v : Value) : Option (DataW Value × List MemPlace) := some (.held v, [])
abbrev fnV (f : Nat) : Value := .func (.func f) #[] #[]
/-- A flag: its bit, the function that tells where it is told, that field. -/
structure Flg where
  bit : Nat
  fn : Nat
  off : Nat
def flEnd : Flg := ⟨1, 74, 3⟩
def flAck : Flg := ⟨1, 75, 5⟩
def flHeads : Flg := ⟨4, 76, 4⟩
def flPad : Flg := ⟨8, 77, 6⟩
def flPrio : Flg := ⟨32, 78, 7⟩
abbrev flV (s n : Nat) : Value := .slice (some ⟨s, 0, none⟩) n n
abbrev layV (wh : Int) (fl : Value) (rd wr : Nat) : Value := .agg #[.int .i64 wh, fl, fnV rd, fnV wr]
def tab (s0 s1 s4 s5 s6 s9 : Nat) : DataW Value :=
  ((((((((((DataW.map []).put (.int .i64 0) (.held (layV 1 (flV s0 2) 79 80))).put (.int .i64 1) (.held (layV 1 (flV s1 4) 81 82))).put (.int .i64 2) (.held (layV 1 (.slice none 0 0) 83 84))).put (.int .i64 3) (.held (layV 1 (.slice none 0 0) 85 86))).put (.int .i64 4) (.held (layV 2 (flV s4 1) 87 88))).put (.int .i64 5) (.held (layV 1 (flV s5 2) 89 90))).put (.int .i64 6) (.held (layV 2 (flV s6 1) 91 80))).put (.int .i64 7) (.held (layV 2 (.slice none 0 0) 92 93))).put (.int .i64 8) (.held (layV 0 (.slice none 0 0) 94 95))).put (.int .i64 9) (.held (layV 1 (flV s9 1) 79 80))
/-- A slice of flags. -/
structure Fls (w : World) (s : Value) (F : List Flg) : Prop where
  form : ∃ a, s = .slice a F.length F.length ∧ ∀ i (h : i < F.length), ∃ b, a = some ⟨b, 0, none⟩ ∧ w.cell? ⟨b, i * 2, none⟩ = some (.int .i64 ((F[i]).bit : Int)) ∧ w.cell? ⟨b, i * 2 + 1, none⟩ = some (fnV (F[i]).fn)
theorem Fls.kept {w w' : World} {s : Value} {F : List Flg} (h : Fls w s F) (hb : Below w.heap.size w w') : Fls w' s F := by
  obtain ⟨a, e, hr⟩ := h.form
  refine ⟨a, e, fun i hi => ?_⟩
  obtain ⟨b, e, h0, h1⟩ := hr i hi
  exact ⟨b, e, (hb.cell (p := ⟨b, i * 2, none⟩) (Hu.cell_lt h0)).trans h0, (hb.cell (p := ⟨b, i * 2 + 1, none⟩) (Hu.cell_lt h1)).trans h1⟩
theorem fls_nil (w : World) : Fls w (.slice none 0 0) [] := ⟨none, rfl, fun i hi => by simp at hi⟩
theorem fls_of {w : World} {s : Nat} {F : List Flg} {cs : Array Value} {t : TypeId} (hb : w.heap[s]? = some (.cells cs t (0, 0))) (hc : ∀ i (h : i < F.length), cs[i * 2]? = some (.int .i64 ((F[i]).bit : Int)) ∧ cs[i * 2 + 1]? = some (fnV (F[i]).fn)) : Fls w (flV s F.length) F :=
  ⟨_, rfl, fun i hi => ⟨s, rfl, by simp [World.cell?, hb, hc i hi], by simp [World.cell?, hb, hc i hi]⟩⟩
structure Lays (w : World) (mb s0 s1 s4 s5 s6 s9 : Nat) : Prop where
  map : w.ownsMap Tryd.prog 3 fnR mb 10 (tab s0 s1 s4 s5 s6 s9)
  l0 : Fls w (flV s0 2) [flEnd, flPad]
  l1 : Fls w (flV s1 4) [flEnd, flHeads, flPad, flPrio]
  l4 : Fls w (flV s4 1) [flAck]
  l5 : Fls w (flV s5 2) [flHeads, flPad]
  l6 : Fls w (flV s6 1) [flAck]
  l9 : Fls w (flV s9 1) [flHeads]
theorem Lays.kept {w w' : World} {mb s0 s1 s4 s5 s6 s9 : Nat} (h : Lays w mb s0 s1 s4 s5 s6 s9) (hb : Below w.heap.size w w') : Lays w' mb s0 s1 s4 s5 s6 s9 :=
  ⟨h.map.kept (row := none) ⟨hb.os, hb.tape, hb.output, hb.size, fun k hk _ => hb.block k hk⟩ (by simp), h.l0.kept hb, h.l1.kept hb, h.l4.kept hb, h.l5.kept hb, h.l6.kept hb, h.l9.kept hb⟩

theorem zeroLay (w : World) : (zeroValue 97).run Tryd.prog w = .ok (.agg #[.int .i64 0, .slice none 0 0, .nilFunc, .nilFunc]) w := by kernel_rfl
/-- What is found. -/
theorem look_yes {w : World} {mb n : Nat} {D : DataW Value} (h : w.ownsMap Tryd.prog 3 fnR mb n D) (k : Int) (v : Value) (hk : (Lit.int .i64 k).wf = true) (ht : ∀ zd, D.atKey (.int .i64 k) zd = .held v) :
    (Instr.lookup 99 (.map (some mb)) (.int .i64 k) true).run Tryd.prog w = .ok (.tuple #[v, .bool true]) w := by
  obtain ⟨es, clock, hb, F, _, rfl⟩ := h
  rcases Maps.fit_look true (Maps.int_keyed Tryd.underlying3) Tryd.underlying99 (zeroLay w) hb F (Maps.keyOf_int_mk Tryd.underlying3 hk) with ⟨_, _, hat⟩ | ⟨e0, y, _, _, hrun, hRv, hat, _⟩
  · have := (hat .nil).symm.trans (ht .nil)
    cases this
  · have h1 := (hat .nil).symm.trans (ht .nil)
    simp only [fnR, Option.some.injEq] at hRv
    subst hRv
    simp only [DataW.held.injEq] at h1
    rw [hrun, h1]
    rfl
theorem look_no {w : World} {mb n : Nat} {D : DataW Value} (h : w.ownsMap Tryd.prog 3 fnR mb n D) (k : Int) (hk : (Lit.int .i64 k).wf = true) (ht : ∀ zd, D.atKey (.int .i64 k) zd = zd) :
    (Instr.lookup 99 (.map (some mb)) (.int .i64 k) true).run Tryd.prog w = .ok (.tuple #[.agg #[.int .i64 0, .slice none 0 0, .nilFunc, .nilFunc], .bool false]) w := by
  obtain ⟨es, clock, hb, F, _, rfl⟩ := h
  rcases Maps.fit_look true (Maps.int_keyed Tryd.underlying3) Tryd.underlying99 (zeroLay w) hb F (Maps.keyOf_int_mk Tryd.underlying3 hk) with ⟨hrun, _, hat⟩ | ⟨e0, y, _, _, hrun, hRv, hat, _⟩
  · rw [hrun]
    rfl
  · have h1 := (hat .nil).symm.trans (ht .nil)
    have h2 := (hat (.held .nilFunc)).symm.trans (ht (.held .nilFunc))
    rw [h1] at h2
    cases h2
/-- A store into the map. -/
theorem wp_insert {w : World} {ops : Array Oper} {rest : List Oper} {o : Oper} {a : Act} {Q : Exit → Act → World → Prop}
    (hg : o.guard = none) (m x v : Operand) (hop : o.op = Op.insert 99 m x v) (b n : Nat) (D : DataW Value)
    (hm : a.eval m = .map (some b)) (hown : w.ownsMap Tryd.prog 3 fnR b n D) (hn : n < 20) (k : Int) (val : Value) (hx : a.eval x = .int .i64 k) (hv : a.eval v = val) (hk : (Lit.int .i64 k).wf = true)
    (hK : ∀ w', w'.ownsMap Tryd.prog 3 fnR b (n + 1) (D.put (.int .i64 k) (.held val)) → w.grownBy w' (some b) → wpList Tryd.prog ops Q rest (a.put o.dst undef) w') :
    wpList Tryd.prog ops Q (o :: rest) a w := by
  refine wpList_plain hg fun K' hK' => ?_
  obtain ⟨w', hrun, r1, r2⟩ := hown.update (Maps.int_keyed Tryd.underlying3) Tryd.underlying99 (by unfold maxLen; omega) (val := val) (Maps.keyOf_int_mk Tryd.underlying3 hk) (d := .held val) (ps := []) rfl
  unfold Oper.wp
  simp [execOp, hop, hm, hx, hv, hrun, Result.andThen]
  exact hK' _ _ (hK w' r1 r2)
end Go.Proofs.YtefdkbdblocikaaDoor
