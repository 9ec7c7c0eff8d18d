/-
  THE KIT of chapter 5's walks: SameBytes, Bytes; rows of bytes of the call's own that are written; faults of HTTP/2 seen as plain data.
-/
import Derived.Test.YtefdkbdblocikaaDoorHuK
import Derived.Test.YtefdkbdblocikaaDoorHuU
import Derived.WalkMore
namespace Go.Proofs.YtefdkbdblocikaaDoor
open Go.RowKit Hu

theorem strOf_map (l : List UInt8) : strOfNums (l.map fun x => (x.toNat : Int)) = ⟨l.toArray⟩ := by
  unfold strOfNums
  rw [List.map_map, show ((fun n : Int => UInt8.ofNat n.toNat) ∘ fun x : UInt8 => (x.toNat : Int)) = id by funext x; simp]
  rw [List.map_id]
/-- 'string(b)'. -/
theorem sl_conv {w : World} {a : Option Addr} {n c : Nat} {l : List UInt8} (h : Sl w a n c l) :
    (convert 22 9 (.slice a n c)).run Tryd.prog w = .ok (.string ⟨l.toArray⟩) w := by
  have hl := h.len
  subst hl
  by_cases hp : l = []
  · subst hp
    cases a with
    | none =>
      have h0 := run_convert_bytes_nil (P := Tryd.prog) w _ _ Tryd.underlying22 Tryd.underlying5 0 c _ Tryd.underlying9
      exact h0
    | some p =>
      have hr := run_loadCells_list (P := Tryd.prog) w p ([] : List Value) (fun j v hj => by cases j <;> cases hj)
      have h1 := run_bytesToString (P := Tryd.prog) w p 0 c ([] : List Int) hr
      have h2 := run_convert_bytes_string (P := Tryd.prog) w 22 9 _ (Option.some p) 0 c Tryd.underlying22 Tryd.underlying5 Tryd.underlying9
      exact h2.trans h1
  · obtain ⟨b, o, rfl⟩ := h.some (by cases l with | nil => exact absurd rfl hp | cons x m => simp)
    have := run_convert_bytes_arg (P := Tryd.prog) w _ _ Tryd.underlying22 Tryd.underlying5 b o l.length c (l.map fun x => (x.toNat : Int)) (by simp) (fun i hi => by
      rw [h.cell hi, List.getD, List.getElem?_map, List.getElem?_eq_getElem hi]; rfl) _ Tryd.underlying9
    rw [this, strOf_map]
theorem same_any (a : Option Addr) (n c : Nat) (l : List UInt8) (a' : Option Addr) (n' c' : Nat) (l' : List UInt8) (w : World) (hs : Sl w a n c l) (hs' : Sl w a' n' c' l') :
    Calls Tryd.prog 14 #[.slice a n c, .slice a' n' c'] w fun e w' => e = .returned (.bool (l == l')) ∧ w = w' := by
  have h1 := (sl_conv hs)
  have h2 := (sl_conv hs')
  go_enter Tryd.func14, Tryd.ntmps14
  go_wp2
  go_ret
  exact ⟨rfl, rfl⟩


/-- A call's own row of bytes, as it answers it. -/
def OwnOut (B : Nat) (l : List UInt8) (w : World) (e : Ending) (w' : World) : Prop := ∃ a N c, e = .returned (.slice a N c) ∧ Hid (N = l.length) ∧ Hu.Own w' B (.slice a N c) l ∧ Below B w w'
theorem sl_own {w : World} {B : Nat} {a : Option Addr} {N c : Nat} {l : List UInt8} (h : Hu.Own w B (.slice a N c) l) : Sl w a N c l := by
  obtain ⟨a', c', he, hs⟩ := h.sl
  cases he
  exact hs
theorem ofNat_toNat {n : Nat} (h : n < 256) : (UInt8.ofNat n).toNat = n := by simp; omega
/-- Where a row of the call's own lies. -/
theorem own_at {w : World} {B : Nat} {a : Option Addr} {N c : Nat} {l : List UInt8} (h : Hu.Own w B (.slice a N c) l) : ∀ p, a = some p → B ≤ p.block ∧ p.block < w.heap.size := fun p hp => World.ownsRow.lt h p.block (by rw [hp]; rfl)
set_option maxRecDepth 100000 in
set_option maxHeartbeats 400000 in
theorem bytes_any (a : Option Addr) (n c : Nat) (l : List UInt8) (w : World) (hs : Sl w a n c l) (hk : n ≤ 140737488355328) :
    Calls Tryd.prog 15 #[.slice a n c] w (OwnOut w.heap.size l w) := by
  have hl := hs.len
  subst hl
  go_enter Tryd.func15, Tryd.ntmps15
  go_wp2_with (first | (at_make; refine wp_make_bytes rfl _ _ rfl _ rfl rfl (by omega) (by omega) w.heap.size (Nat.le_refl _) ?_; intro w1 ad1 hown1 hb1; have hs1 := hs.kept hb1; have hz1 := hb1.size) | (at_builtin; refine wp_append_bytes rfl _ _ rfl _ [] l rfl w.heap.size hown1 a l.length c rfl hs1 (by simp; omega) hz1 ?_; intro w2 ad2 N2 c2 hN2 hown2 hb2))
  go_ret
  exact ⟨_, _, _, rfl, hN2, hown2, hb1.trans hb2⟩

/-- A store into a row of the call's own. -/
theorem ownsRow_set {w : World} {B : Nat} {e : TypeId} {size : Nat} {g n m cap : Nat} {xs : List Value} (h : w.ownsRow B e size (.slice (some ⟨g, 0, none⟩) n cap) m xs) (j : Nat) (u : Value) :
    (w.setCell ⟨g, j, none⟩ u).ownsRow B e size (.slice (some ⟨g, 0, none⟩) n cap) m (xs.set j u) := by
  obtain ⟨h1, h2⟩ := h
  refine ⟨by rw [List.length_set]; exact h1, ?_⟩
  rcases h2 with ⟨h2, _⟩ | ⟨g', cap', cur, hv, hg, hh, hn, hm, hs, ht⟩
  · cases h2
  · cases hv
    refine Or.inr ⟨g, cap, cur.setIfInBounds j u, rfl, hg, ?_, hn, hm, by simpa using hs, ?_⟩
    · show (w.heap.modify g _)[g]? = _
      rw [Array.getElem?_modify, if_pos rfl, hh]
      rfl
    · rw [Array.toList_setIfInBounds, List.take_set, ht]
/-- Where a row of bytes of the call's own lies; its cells may be written. -/
theorem own_spot {w : World} {B : Nat} {a : Option Addr} {N c : Nat} {l : List UInt8} (h : Hu.Own w B (.slice a N c) l) (h0 : 0 < l.length) : ∃ g, a = some ⟨g, 0, none⟩ ∧ B ≤ g ∧ g < w.heap.size ∧ (∀ i, w.frozen? ⟨g, i, none⟩ = false) ∧
    ∀ i (h : i < l.length), w.cell? ⟨g, i, none⟩ = some (.int .u8 ((l[i]).toNat : Int)) := by
  have hsl := sl_own h
  obtain ⟨h1, h2⟩ := h
  rcases h2 with ⟨_, h2⟩ | ⟨g, cap, cur, hv, hg, hh, hnn, hm, hs, ht⟩
  · omega
  · cases hv
    refine ⟨g, rfl, hg, (Array.getElem?_eq_some_iff.1 hh).1, fun i => by simp [World.frozen?, hh], fun i hi => ?_⟩
    obtain ⟨b, o, e, r⟩ := hsl.row i hi
    cases e
    simpa using r
theorem own_set {w : World} {B g N c : Nat} {l : List UInt8} (h : Hu.Own w B (.slice (some ⟨g, 0, none⟩) N c) l) (i : Nat) (x : UInt8) : Hu.Own (w.setCell ⟨g, i, none⟩ (.int .u8 (x.toNat : Int))) B (.slice (some ⟨g, 0, none⟩) N c) (l.set i x) := by
  unfold Hu.Own
  rw [List.length_set, show cellsOf (l.set i x) = (cellsOf l).set i (.int .u8 (x.toNat : Int)) by simp [cellsOf, List.map_set]]
  exact ownsRow_set h _ _
theorem own_blk {w w' : World} {B : Nat} {v : Value} {l : List UInt8} (h : Hu.Own w B v l) (hb : ∀ g, v.ownBlock = some g → w'.heap[g]? = w.heap[g]?) : Hu.Own w' B v l := by
  obtain ⟨h1, h2⟩ := h
  refine ⟨h1, ?_⟩
  rcases h2 with h2 | ⟨g, cap, cur, hv, hg, hh, q⟩
  · exact Or.inl h2
  · refine Or.inr ⟨g, cap, cur, hv, hg, ?_, q⟩
    rw [hb g (by rw [hv]; rfl)]
    exact hh
end Go.Proofs.YtefdkbdblocikaaDoor
