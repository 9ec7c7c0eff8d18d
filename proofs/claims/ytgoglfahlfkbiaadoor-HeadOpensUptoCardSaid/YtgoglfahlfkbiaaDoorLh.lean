/-
  CONTRACT: parleyref.Headers; a header is written into a row of the call's own.
-/
import Derived.Test.YtgoglfahlfkbiaaDoorMe
import Derived.Test.YtgoglfahlfkbiaaDoorZl
namespace Go.Proofs.YtgoglfahlfkbiaaDoor
open Go.RowKit Tt

def HeRel (n : Nat) (l : List Hn) (w : World) (s3 s4 : Value) (wr : World) : Prop := ∃ (k N c : Nat) (ad : Option Addr), s4 = .int .i64 (k : Int) ∧ s3 = .slice ad N c ∧ Hid (N = (l.take k).length) ∧ k ≤ n ∧ NOwn wr w.heap.size (.slice ad N c) (l.take k) ∧ Below w.heap.size w wr
set_option maxRecDepth 100000 in
set_option maxHeartbeats 4000000 in
theorem headers_any (a : Option Addr) (n c : Nat) (l : List Hn) (w : World) (hs : Ns w a n c l) (hn : n ≤ 1000) : Calls Tryd.prog 10 #[.slice a n c] w fun e w' => ∃ (ad : Option Addr) (c' : Nat), e = .returned (.slice ad n c') ∧ NOwn w' w.heap.size (.slice ad n c') l ∧ Below w.heap.size w w' := by
  have HS := Lib.hid hs
  have HL := Lib.hid hs.len
  clear hs
  go_enter Tryd.func10, Tryd.ntmps10
  go_wp2_with (at_make; refine wp_make_n rfl _ _ rfl (n : Int) rfl rfl (by omega) (by omega) w.heap.size (Nat.le_refl _) ?_; intro w1 ad1 hown1 hb1)
  go_loopw [3, 4] (fun s3 s4 wr => HeRel n l w s3 s4 wr) (fun _ s4 _ => n - (intOf s4).toNat)
  case atStart => exact ⟨0, 0, _, _, rfl, rfl, Lib.hid (by simp), by omega, by simpa using hown1, hb1⟩
  case round =>
    obtain ⟨k, N, cc, ad, rfl, rfl, hN, hk, hown, hbw⟩ := hrel
    clear hown1 hb1
    by_cases hlt : k < n
    · obtain ⟨b, o, rfl, e0, e1, e2⟩ := (HS.out.kept hbw).row k (by rw [HL.out]; exact hlt)
      have HT : Hid (l.take (k + 1) = l.take k ++ [l[k]'(by rw [HL.out]; exact hlt)]) := Lib.hid (by rw [List.take_add_one, List.getElem?_eq_getElem (by rw [HL.out]; exact hlt)]; rfl)
      generalize l[k]'(by rw [HL.out]; exact hlt) = g at e0 e1 e2 HT
      have hka : (0 : Int) ≤ (k : Int) := by omega
      have hkb : (k : Int) < (n : Int) := by omega
      have hw := hbw.size
      have hl : (l.take k).length ≤ k := by simp; omega
      go_wp2_with (at_builtin; (refine wp_append_n rfl _ _ rfl _ (l.take k) [g] rfl w.heap.size (hown.alloc _) (some ⟨wr.heap.size, 0, none⟩) 1 1 rfl (ns_new1 _ _) (by omega) (by simp; omega) ?_); intro w3 a3 N3 c3 hN3 hown3 hb3)
      refine ⟨⟨k + 1, N3, c3, a3, by go_num, rfl, ?_, by omega, ?_, ?_⟩, by simp [intOf]; omega⟩
      · rw [HT.out]; exact hN3
      · rw [HT.out]; exact hown3
      · exact (hbw.alloc hw _).trans hb3
    · obtain rfl : k = n := by omega
      have HT : l.take k = l := List.take_of_length_le (by rw [HL.out]; exact Nat.le_refl _)
      rw [HT] at hN hown
      have e : N = k := by rw [hN, HL.out]
      subst e
      go_wp2
      go_ret
      exact ⟨_, _, rfl, hown, hbw⟩

/-- A store into a row of the call's own. -/
theorem ownsRow_set {w : World} {B : Nat} {e : TypeId} {size : Nat} {g n m cap : Nat} {xs : List Value} (h : w.ownsRow B e size (.slice (some ⟨g, 0, none⟩) n cap) m xs) (j : Nat) (u : Value) :
    (w.setCell ⟨g, j, none⟩ u).ownsRow B e size (.slice (some ⟨g, 0, none⟩) n cap) m (xs.set j u) := by
  obtain ⟨h1, h2⟩ := h
  refine ⟨by rw [List.length_set]; exact h1, ?_⟩
  rcases h2 with ⟨h2, _⟩ | ⟨g', cap', cur, hv, hg, hh, hn, hm, hs, ht⟩
  · cases h2
  · cases hv
    refine Or.inr ⟨g, cap, cur.setIfInBounds j u, rfl, hg, ?_, hn, hm, by simpa using hs, ?_⟩
    · show (w.heap.modify g _)[g]? = _
      rw [Array.getElem?_modify, if_pos rfl, hh]
      rfl
    · rw [Array.toList_setIfInBounds, List.take_set, ht]
/-- Where a row of headers of the call's own lies; its cells may be written. -/
theorem NOwn.spot {w : World} {B : Nat} {a : Option Addr} {N c : Nat} {l : List Hn} (h : NOwn w B (.slice a N c) l) (h0 : 0 < l.length) : ∃ g, a = some ⟨g, 0, none⟩ ∧ B ≤ g ∧ g < w.heap.size ∧ N = l.length ∧ (∀ i, w.frozen? ⟨g, i, none⟩ = false) ∧
    ∀ i (h : i < l.length), w.cell? ⟨g, i * 3, none⟩ = some (.string (l[i]).1.1) ∧ w.cell? ⟨g, i * 3 + 1, none⟩ = some (.string (l[i]).1.2) ∧ w.cell? ⟨g, i * 3 + 2, none⟩ = some (.bool (l[i]).2) := by
  have hns := h.ns
  obtain ⟨a1, c1, e1, hn⟩ := hns
  cases e1
  obtain ⟨h1, h2⟩ := h
  rcases h2 with ⟨_, h2⟩ | ⟨g, cap, cur, hv, hg, hh, hnn, hm, hs, ht⟩
  · omega
  · cases hv
    refine ⟨g, rfl, hg, (Array.getElem?_eq_some_iff.1 hh).1, rfl, fun i => by simp [World.frozen?, hh], fun i hi => ?_⟩
    obtain ⟨b, o, e, r0, r1, r2⟩ := hn.row i hi
    cases e
    simp only [Nat.zero_add] at r0 r1 r2
    exact ⟨r0, r1, r2⟩
theorem ncells_setH : ∀ (l : List Hn) (i : Nat) (h : Hn), i < l.length → ncells (l.set i h) = (((ncells l).set (i * 3) (.string h.1.1)).set (i * 3 + 1) (.string h.1.2)).set (i * 3 + 2) (.bool h.2)
  | [], i, h, hi => by simp at hi
  | x :: l, 0, h, _ => rfl
  | x :: l, i + 1, h, hi => by
    have := ncells_setH l i h (by simpa using hi)
    rw [show (i + 1) * 3 = i * 3 + 3 by omega, show i * 3 + 3 + 1 = i * 3 + 1 + 3 by omega, show i * 3 + 3 + 2 = i * 3 + 2 + 3 by omega]
    simp [ncells, this]
theorem NOwn.setH {w : World} {B g n c : Nat} {l : List Hn} (h : NOwn w B (.slice (some ⟨g, 0, none⟩) n c) l) {i : Nat} (hi : i < l.length) (x : Hn) :
    NOwn (((w.setCell ⟨g, i * 3, none⟩ (.string x.1.1)).setCell ⟨g, i * 3 + 1, none⟩ (.string x.1.2)).setCell ⟨g, i * 3 + 2, none⟩ (.bool x.2)) B (.slice (some ⟨g, 0, none⟩) n c) (l.set i x) := by
  unfold NOwn
  rw [List.length_set, ncells_setH l i x hi]
  exact ownsRow_set (ownsRow_set (ownsRow_set h _ _) _ _) _ _
end Go.Proofs.YtgoglfahlfkbiaaDoor
