/-
  THE MAP OF LAYOUTS: what is found of each type; the flags' functions.
-/
import Derived.Test.YtefdkbdblocikaaDoorLa
namespace Go.Proofs.YtefdkbdblocikaaDoor
open Go.RowKit Hu

structure LayM where
  wh : Int
  F : List Flg
  rd : Nat
  wr : Nat
/-- The layout of a type. -/
def layM (ty : Int) : LayM :=
  if ty = 0 then ⟨1, [flEnd, flPad], 79, 80⟩ else if ty = 1 then ⟨1, [flEnd, flHeads, flPad, flPrio], 81, 82⟩
  else if ty = 2 then ⟨1, [], 83, 84⟩ else if ty = 3 then ⟨1, [], 85, 86⟩ else if ty = 4 then ⟨2, [flAck], 87, 88⟩
  else if ty = 5 then ⟨1, [flHeads, flPad], 89, 90⟩ else if ty = 6 then ⟨2, [flAck], 91, 80⟩ else if ty = 7 then ⟨2, [], 92, 93⟩
  else if ty = 8 then ⟨0, [], 94, 95⟩ else if ty = 9 then ⟨1, [flHeads], 79, 80⟩ else ⟨0, [], 79, 80⟩
def Known (ty : Int) : Prop := 0 ≤ ty ∧ ty ≤ 9
instance (ty : Int) : Decidable (Known ty) := by unfold Known; infer_instance
theorem tab0 (s0 s1 s4 s5 s6 s9 : Nat) (zd : DataW Value) : (tab s0 s1 s4 s5 s6 s9).atKey (.int .i64 0) zd = .held (layV 1 (flV s0 2) 79 80) := by kernel_rfl
theorem tab1 (s0 s1 s4 s5 s6 s9 : Nat) (zd : DataW Value) : (tab s0 s1 s4 s5 s6 s9).atKey (.int .i64 1) zd = .held (layV 1 (flV s1 4) 81 82) := by kernel_rfl
theorem tab2 (s0 s1 s4 s5 s6 s9 : Nat) (zd : DataW Value) : (tab s0 s1 s4 s5 s6 s9).atKey (.int .i64 2) zd = .held (layV 1 (.slice none 0 0) 83 84) := by kernel_rfl
theorem tab3 (s0 s1 s4 s5 s6 s9 : Nat) (zd : DataW Value) : (tab s0 s1 s4 s5 s6 s9).atKey (.int .i64 3) zd = .held (layV 1 (.slice none 0 0) 85 86) := by kernel_rfl
theorem tab4 (s0 s1 s4 s5 s6 s9 : Nat) (zd : DataW Value) : (tab s0 s1 s4 s5 s6 s9).atKey (.int .i64 4) zd = .held (layV 2 (flV s4 1) 87 88) := by kernel_rfl
theorem tab5 (s0 s1 s4 s5 s6 s9 : Nat) (zd : DataW Value) : (tab s0 s1 s4 s5 s6 s9).atKey (.int .i64 5) zd = .held (layV 1 (flV s5 2) 89 90) := by kernel_rfl
theorem tab6 (s0 s1 s4 s5 s6 s9 : Nat) (zd : DataW Value) : (tab s0 s1 s4 s5 s6 s9).atKey (.int .i64 6) zd = .held (layV 2 (flV s6 1) 91 80) := by kernel_rfl
theorem tab7 (s0 s1 s4 s5 s6 s9 : Nat) (zd : DataW Value) : (tab s0 s1 s4 s5 s6 s9).atKey (.int .i64 7) zd = .held (layV 2 (.slice none 0 0) 92 93) := by kernel_rfl
theorem tab8 (s0 s1 s4 s5 s6 s9 : Nat) (zd : DataW Value) : (tab s0 s1 s4 s5 s6 s9).atKey (.int .i64 8) zd = .held (layV 0 (.slice none 0 0) 94 95) := by kernel_rfl
theorem tab9 (s0 s1 s4 s5 s6 s9 : Nat) (zd : DataW Value) : (tab s0 s1 s4 s5 s6 s9).atKey (.int .i64 9) zd = .held (layV 1 (flV s9 1) 79 80) := by kernel_rfl
/-- The slice of a type's flags. -/
def layS (s0 s1 s4 s5 s6 s9 : Nat) (ty : Int) : Value := if ty = 0 then flV s0 2 else if ty = 1 then flV s1 4 else if ty = 4 then flV s4 1 else if ty = 5 then flV s5 2 else if ty = 6 then flV s6 1 else if ty = 9 then flV s9 1 else .slice none 0 0
theorem lays_yes {w : World} {mb s0 s1 s4 s5 s6 s9 : Nat} (h : Lays w mb s0 s1 s4 s5 s6 s9) (ty : Int) (hk : Known ty) :
    (Instr.lookup 99 (.map (some mb)) (.int .i64 ty) true).run Tryd.prog w = .ok (.tuple #[layV (layM ty).wh (layS s0 s1 s4 s5 s6 s9 ty) (layM ty).rd (layM ty).wr, .bool true]) w := by
  have hc : ty = 0 ∨ ty = 1 ∨ ty = 2 ∨ ty = 3 ∨ ty = 4 ∨ ty = 5 ∨ ty = 6 ∨ ty = 7 ∨ ty = 8 ∨ ty = 9 := by unfold Known at hk; omega
  rcases hc with rfl | rfl | rfl | rfl | rfl | rfl | rfl | rfl | rfl | rfl
  · exact look_yes h.map 0 (layV 1 (flV s0 2) 79 80) (by decide) (tab0 _ _ _ _ _ _)
  · exact look_yes h.map 1 (layV 1 (flV s1 4) 81 82) (by decide) (tab1 _ _ _ _ _ _)
  · exact look_yes h.map 2 (layV 1 (.slice none 0 0) 83 84) (by decide) (tab2 _ _ _ _ _ _)
  · exact look_yes h.map 3 (layV 1 (.slice none 0 0) 85 86) (by decide) (tab3 _ _ _ _ _ _)
  · exact look_yes h.map 4 (layV 2 (flV s4 1) 87 88) (by decide) (tab4 _ _ _ _ _ _)
  · exact look_yes h.map 5 (layV 1 (flV s5 2) 89 90) (by decide) (tab5 _ _ _ _ _ _)
  · exact look_yes h.map 6 (layV 2 (flV s6 1) 91 80) (by decide) (tab6 _ _ _ _ _ _)
  · exact look_yes h.map 7 (layV 2 (.slice none 0 0) 92 93) (by decide) (tab7 _ _ _ _ _ _)
  · exact look_yes h.map 8 (layV 0 (.slice none 0 0) 94 95) (by decide) (tab8 _ _ _ _ _ _)
  · exact look_yes h.map 9 (layV 1 (flV s9 1) 79 80) (by decide) (tab9 _ _ _ _ _ _)
theorem layS_at {s0 s1 s4 s5 s6 s9 B : Nat} (h : B ≤ s0 ∧ B ≤ s1 ∧ B ≤ s4 ∧ B ≤ s5 ∧ B ≤ s6 ∧ B ≤ s9) {ty : Int} {a : Option Addr} {n c : Nat} (hs : layS s0 s1 s4 s5 s6 s9 ty = .slice a n c) : ∀ q, a = some q → B ≤ q.block := by
  intro q hq
  subst hq
  unfold layS at hs
  repeat' (split at hs)
  all_goals (first | (injection hs with h1; injection h1 with h1; subst h1; simp only; omega) | (cases hs))
theorem Fls.setCell {w : World} {a : Option Addr} {n c : Nat} {F : List Flg} (h : Fls w (.slice a n c) F) {b : Nat} (hb : ∀ q, a = some q → q.block ≠ b) (i : Nat) (v : Value) : Fls (w.setCell ⟨b, i, none⟩ v) (.slice a n c) F := by
  obtain ⟨a', e, hr⟩ := h.form
  cases e
  refine ⟨_, rfl, fun j hj => ?_⟩
  obtain ⟨g, e, h0, h1⟩ := hr j hj
  have hk := Below.heap_setCell w ⟨b, i, none⟩ v g (hb _ e)
  exact ⟨g, e, (World.cell?_of_block (a := ⟨g, j * 2, none⟩) hk).trans h0, (World.cell?_of_block (a := ⟨g, j * 2 + 1, none⟩) hk).trans h1⟩
theorem lays_fls {w : World} {mb s0 s1 s4 s5 s6 s9 : Nat} (h : Lays w mb s0 s1 s4 s5 s6 s9) (ty : Int) (hk : Known ty) : Fls w (layS s0 s1 s4 s5 s6 s9 ty) (layM ty).F := by
  have hc : ty = 0 ∨ ty = 1 ∨ ty = 2 ∨ ty = 3 ∨ ty = 4 ∨ ty = 5 ∨ ty = 6 ∨ ty = 7 ∨ ty = 8 ∨ ty = 9 := by unfold Known at hk; omega
  rcases hc with rfl | rfl | rfl | rfl | rfl | rfl | rfl | rfl | rfl | rfl
  · exact h.l0
  · exact h.l1
  · exact fls_nil _
  · exact fls_nil _
  · exact h.l4
  · exact h.l5
  · exact h.l6
  · exact fls_nil _
  · exact fls_nil _
  · exact h.l9
theorem lays_no {w : World} {mb s0 s1 s4 s5 s6 s9 : Nat} (h : Lays w mb s0 s1 s4 s5 s6 s9) (ty : Int) (hk : ¬ Known ty) (hwf : (Lit.int .i64 ty).wf = true) :
    (Instr.lookup 99 (.map (some mb)) (.int .i64 ty) true).run Tryd.prog w = .ok (.tuple #[.agg #[.int .i64 0, .slice none 0 0, .nilFunc, .nilFunc], .bool false]) w := by
  refine look_no h.map ty hwf fun zd => ?_
  have n : ∀ i : Int, 0 ≤ i → i ≤ 9 → (Lit.int .i64 ty) ≠ .int .i64 i := fun i h0 h1 e => by
    injection e with _ e
    exact hk ⟨by omega, by omega⟩
  unfold tab
  rw [Maps.atKey_put_other (n 9 (by omega) (by omega)), Maps.atKey_put_other (n 8 (by omega) (by omega)), Maps.atKey_put_other (n 7 (by omega) (by omega)), Maps.atKey_put_other (n 6 (by omega) (by omega)), Maps.atKey_put_other (n 5 (by omega) (by omega)),
    Maps.atKey_put_other (n 4 (by omega) (by omega)), Maps.atKey_put_other (n 3 (by omega) (by omega)), Maps.atKey_put_other (n 2 (by omega) (by omega)), Maps.atKey_put_other (n 1 (by omega) (by omega)), Maps.atKey_put_other (n 0 (by omega) (by omega))]
  rfl
set_option maxRecDepth 100000 in
theorem other_any (w : World) : Calls Tryd.prog 57 #[] w fun e w' => e = .returned (layV 0 (.slice none 0 0) 79 80) ∧ Below w.heap.size w w' := by
  go_enter Tryd.func57, Tryd.ntmps57
  go_wp2
  refine bodyPost_ret (v := layV 0 (.slice none 0 0) 79 80) (by simp [results, Tryd.results57, go_sem]) rfl ?_
  exact ⟨rfl, by repeat (first | (with_reducible exact Below.refl _ _) | (with_reducible refine Below.drew ?_) | (with_reducible refine Below.setCell ?_ (by dsimp only; omega) _) | (with_reducible refine Below.alloc ?_ (by first | omega | (simp; omega)) _))⟩
/-- Where a flag is told. -/
def FlagFn (f : Flg) : Prop := (∀ args W, (callFunc f.fn args).run Tryd.prog W = .ok (.enter f.fn args) W) ∧ ∀ b W, Calls Tryd.prog f.fn #[.pointer (some ⟨b, 0, none⟩)] W fun e w' => e = .returned (.pointer (some ⟨b, f.off, none⟩)) ∧ W = w'
theorem flag_end : FlagFn flEnd := by
  refine ⟨fun args W => by kernel_rfl, fun b W => ?_⟩
  go_enter Tryd.func74, Tryd.ntmps74
  go_wp2
  go_ret
  exact ⟨rfl, rfl⟩
theorem flag_ack : FlagFn flAck := by
  refine ⟨fun args W => by kernel_rfl, fun b W => ?_⟩
  go_enter Tryd.func75, Tryd.ntmps75
  go_wp2
  go_ret
  exact ⟨rfl, rfl⟩
theorem flag_heads : FlagFn flHeads := by
  refine ⟨fun args W => by kernel_rfl, fun b W => ?_⟩
  go_enter Tryd.func76, Tryd.ntmps76
  go_wp2
  go_ret
  exact ⟨rfl, rfl⟩
theorem flag_pad : FlagFn flPad := by
  refine ⟨fun args W => by kernel_rfl, fun b W => ?_⟩
  go_enter Tryd.func77, Tryd.ntmps77
  go_wp2
  go_ret
  exact ⟨rfl, rfl⟩
theorem flag_prio : FlagFn flPrio := by
  refine ⟨fun args W => by kernel_rfl, fun b W => ?_⟩
  go_enter Tryd.func78, Tryd.ntmps78
  go_wp2
  go_ret
  exact ⟨rfl, rfl⟩
theorem flag_any (ty : Int) : ∀ f ∈ (layM ty).F, FlagFn f ∧ f.off < 18 ∧ 3 ≤ f.off ∧ f.off ≤ 7 := by
  have h1 := flag_end
  have h2 := flag_ack
  have h3 := flag_heads
  have h4 := flag_pad
  have h5 := flag_prio
  intro f hf
  have key : f = flEnd ∨ f = flAck ∨ f = flHeads ∨ f = flPad ∨ f = flPrio := by
    unfold layM at hf
    repeat' (split at hf)
    all_goals (try dsimp only at hf)
    all_goals (try simp only [List.mem_cons, List.not_mem_nil, or_false] at hf)
    all_goals (first | (rcases hf with rfl | rfl | rfl | rfl <;> simp; done) | (rcases hf with rfl | rfl <;> simp; done) | (subst hf; simp; done) | exact hf.elim)
  rcases key with rfl | rfl | rfl | rfl | rfl
  · exact ⟨h1, by decide⟩
  · exact ⟨h2, by decide⟩
  · exact ⟨h3, by decide⟩
  · exact ⟨h4, by decide⟩
  · exact ⟨h5, by decide⟩
end Go.Proofs.YtefdkbdblocikaaDoor
