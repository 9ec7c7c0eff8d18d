/-
  CONTRACTS: bytes.Clone.
-/
import Derived.Test.YtefdkbdblocikaaDoorK
namespace Go.Proofs.YtefdkbdblocikaaDoor
open Go.RowKit Hu

theorem sl_nil0 (w : World) : Sl w none 0 0 [] := ⟨rfl, Nat.le_refl _, by unfold maxLen; omega, fun _ => rfl, fun i hi => by simp at hi⟩
theorem own_made (w : World) (ty : TypeId) (h : ty = 5) : Hu.Own (w.alloc (.cells #[] ty)) w.heap.size (.slice (some ⟨w.heap.size, 0, none⟩) 0 0) [] := by
  subst h
  exact World.ownsRow_made w #[] 0 (Nat.le_refl _) (Nat.zero_le _) rfl
set_option maxRecDepth 100000 in
set_option maxHeartbeats 400000 in
theorem clone_any (a : Option Addr) (n c : Nat) (l : List UInt8) (w : World) (hs : Sl w a n c l) (hk : n ≤ 140737488355328) :
    Calls Tryd.prog 37 #[.slice a n c] w (OwnOut w.heap.size l w) := by
  have hl := hs.len
  subst hl
  have q22 : ∀ (w : World) (a : Option Addr) (n c n' c' : Nat), (binOp .eql 22 (.slice a n c) (.slice none n' c')).run Tryd.prog w = .ok (.bool a.isNone) w := fun w a n c n' c' => Lib.run_eql_slice_nil w _ _ a n c n' c' Tryd.underlying22
  cases a with
  | none =>
    obtain rfl := hs.nil rfl
    have hl0 : l = [] := List.length_eq_zero_iff.1 (by have := hs.le; omega)
    subst hl0
    go_enter Tryd.func37, Tryd.ntmps37
    go_wp2
    go_ret
    exact ⟨_, _, _, rfl, Lib.hid rfl, Hu.Own.nil _ _, Below.refl _ _⟩
  | some p =>
    have hs1 := hs.alloc (.cells #[] 5)
    have ho := own_made w _ rfl
    have hb0 : Below w.heap.size w (w.alloc (.cells #[] 5)) := (Below.refl _ w).alloc (Nat.le_refl _) _
    have HS := Lib.hid hs1
    have HO := Lib.hid ho
    have HB := Lib.hid hb0
    clear hs hs1 ho hb0
    go_enter Tryd.func37, Tryd.ntmps37
    go_wp2_with (at_builtin; refine wp_append_bytes rfl _ _ rfl _ [] l rfl w.heap.size HO.out (some p) l.length c rfl HS.out (by simp; omega) (by simp) ?_; intro w2 ad2 N2 c2 hN2 hown2 hb2)
    go_ret
    exact ⟨_, _, _, rfl, hN2, hown2, HB.out.trans hb2⟩
end Go.Proofs.YtefdkbdblocikaaDoor
