/-
  CONTRACTS: SameBytes; a scope with two labels; Decode.
-/
import Derived.Test.YtlkieeindnpidaaDoorHuQ
import Derived.Test.YtlkieeindnpidaaDoorHuMf
import Derived.WalkMore
import Derived.Scope
namespace Go.Proofs.YtlkieeindnpidaaDoor.Hu
open Go.RowKit Hf

theorem strOf_map (l : List UInt8) : strOfNums (l.map fun x => (x.toNat : Int)) = ⟨l.toArray⟩ := by
  unfold strOfNums
  rw [List.map_map, show ((fun n : Int => UInt8.ofNat n.toNat) ∘ fun x : UInt8 => (x.toNat : Int)) = id by funext x; simp]
  rw [List.map_id]
/-- 'string(b)'. -/
theorem Sl.conv {w : World} {a : Option Addr} {n c : Nat} {l : List UInt8} (h : Sl w a n c l) :
    (convert 22 9 (.slice a n c)).run Tryd.prog w = .ok (.string ⟨l.toArray⟩) w := by
  have hl := h.len
  subst hl
  by_cases hp : l = []
  · subst hp
    cases a with
    | none =>
      have h0 := run_convert_bytes_nil (P := Tryd.prog) w _ _ Tryd.underlying22 Tryd.underlying5 0 c _ Tryd.underlying9
      exact h0
    | some p =>
      have hr := run_loadCells_list (P := Tryd.prog) w p ([] : List Value) (fun j v hj => by cases j <;> cases hj)
      have h1 := run_bytesToString (P := Tryd.prog) w p 0 c ([] : List Int) hr
      have h2 := run_convert_bytes_string (P := Tryd.prog) w 22 9 _ (Option.some p) 0 c Tryd.underlying22 Tryd.underlying5 Tryd.underlying9
      exact h2.trans h1
  · obtain ⟨b, o, rfl⟩ := h.some (by cases l with | nil => exact absurd rfl hp | cons x m => simp)
    have := run_convert_bytes_arg (P := Tryd.prog) w _ _ Tryd.underlying22 Tryd.underlying5 b o l.length c (l.map fun x => (x.toNat : Int)) (by simp) (fun i hi => by
      rw [h.cell hi, List.getD, List.getElem?_map, List.getElem?_eq_getElem hi]; rfl) _ Tryd.underlying9
    rw [this, strOf_map]
theorem same_any (a : Option Addr) (n c : Nat) (l : List UInt8) (a' : Option Addr) (n' c' : Nat) (l' : List UInt8) (w : World) (hs : Sl w a n c l) (hs' : Sl w a' n' c' l') :
    Calls Tryd.prog 12 #[.slice a n c, .slice a' n' c'] w fun e w' => e = .returned (.bool (l == l')) ∧ w = w' := by
  have h1 := hs.conv
  have h2 := hs'.conv
  go_enter Tryd.func12, Tryd.ntmps12
  go_wp2
  go_ret
  exact ⟨rfl, rfl⟩

/-- As Q; by a goto to one of two labels: what holds at its jumps; by any other goto: no way out. -/
def two (l0 l1 : Nat) (J0 J1 : Act → World → Prop) (Q : Exit → Act → World → Prop) : Exit → Act → World → Prop
  | .goto l, a, w => (l = l0 ∧ J0 a w) ∨ (l = l1 ∧ J1 a w)
  | e, a, w => Q e a w
/-- The run jumps to two labels of a scope: what holds at the jumps to each, and a measure that every pass lowers. -/
theorem scope_two {P : Program} {a : Act} {w : World} {Q : Exit → Act → World → Prop} {c r0 r1 : Code} (l0 l1 : Nat) (J0 J1 : Act → World → Prop) (m : Act → World → Nat)
    (h0 : findLabel c l0 = some r0) (h1 : findLabel c l1 = some r1) (first : c.wp P (two l0 l1 J0 J1 Q) a w)
    (pass0 : ∀ a w, J0 a w → r0.wp P (two l0 l1 (fun a' w' => J0 a' w' ∧ m a' w' < m a w) (fun a' w' => J1 a' w' ∧ m a' w' < m a w) Q) a w)
    (pass1 : ∀ a w, J1 a w → r1.wp P (two l0 l1 (fun a' w' => J0 a' w' ∧ m a' w' < m a w) (fun a' w' => J1 a' w' ∧ m a' w' < m a w) Q) a w) : (Code.scope c).wp P Q a w := by
  intro b k cs
  have g0 : gotoIn l0 (.inScope c :: k) = some (.code r0 :: .inScope c :: k) := by simp [gotoIn, h0]
  have g1 : gotoIn l1 (.inScope c :: k) = some (.code r1 :: .inScope c :: k) := by simp [gotoIn, h1]
  have onward : ∀ (n : Nat) (r : Code) (a : Act) (w : World), r.wp P (two l0 l1 (fun a' w' => J0 a' w' ∧ m a' w' < n) (fun a' w' => J1 a' w' ∧ m a' w' < n) Q) a w →
      ∃ e a' w', Q e a' w' ∧ Arrives P (lone (b.at a (.code r :: .inScope c :: k)) cs w) b k cs e a' w' := by
    intro n
    induction n using Nat.strongRecOn with
    | _ n ih =>
      intro r a w hr
      obtain ⟨e, a2, w2, hq, hgo⟩ := hr b (.inScope c :: k) cs
      cases e with
      | goto l =>
        rcases hq with ⟨rfl, hJ, hlt⟩ | ⟨rfl, hJ, hlt⟩
        · obtain ⟨e3, a3, w3, hq3, hgo3⟩ := ih _ hlt r0 a2 w2 (pass0 a2 w2 hJ)
          exact ⟨e3, a3, w3, hq3, .of_steps (hgo _ g0) hgo3⟩
        · obtain ⟨e3, a3, w3, hq3, hgo3⟩ := ih _ hlt r1 a2 w2 (pass1 a2 w2 hJ)
          exact ⟨e3, a3, w3, hq3, .of_steps (hgo _ g1) hgo3⟩
      | normal => exact ⟨.normal, a2, w2, hq, Steps.trans hgo (.one step_inScope)⟩
      | exit id => exact ⟨.exit id, a2, w2, hq, fun k' hk => hgo k' (by simp [exitTo, hk])⟩
      | ret => exact ⟨_, a2, w2, hq, hgo⟩
      | panic ch => exact ⟨_, a2, w2, hq, hgo⟩
      | outgrown => exact ⟨_, a2, w2, hq, hgo⟩
  obtain ⟨e, a2, w2, hq, hgo⟩ := first b (.inScope c :: k) cs
  cases e with
  | goto l =>
    rcases hq with ⟨rfl, hJ⟩ | ⟨rfl, hJ⟩
    · obtain ⟨e3, a3, w3, hq3, hgo3⟩ := onward _ r0 a2 w2 (pass0 a2 w2 hJ)
      exact ⟨e3, a3, w3, hq3, .of_steps (.head step_scope (hgo _ g0)) hgo3⟩
    · obtain ⟨e3, a3, w3, hq3, hgo3⟩ := onward _ r1 a2 w2 (pass1 a2 w2 hJ)
      exact ⟨e3, a3, w3, hq3, .of_steps (.head step_scope (hgo _ g1)) hgo3⟩
  | normal => exact ⟨.normal, a2, w2, hq, .head step_scope (Steps.trans hgo (.one step_inScope))⟩
  | exit id => exact ⟨.exit id, a2, w2, hq, fun k' hk => .head step_scope (hgo k' (by simp [exitTo, hk]))⟩
  | ret => exact ⟨_, a2, w2, hq, .of_steps (.one step_scope) hgo⟩
  | panic ch => exact ⟨_, a2, w2, hq, .of_steps (.one step_scope) hgo⟩
  | outgrown => exact ⟨_, a2, w2, hq, .of_steps (.one step_scope) hgo⟩
end Go.Proofs.YtlkieeindnpidaaDoor.Hu
