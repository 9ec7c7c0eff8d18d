/-
  A REQUEST'S KEEPERS keep its headers with a colon; slices.Clone.
-/
import Derived.Test.YtgoglfahlfkbiaaDoorO
namespace Go.Proofs.YtgoglfahlfkbiaaDoor
open Go.RowKit Tt

theorem ns_own0 (w : World) (ty : TypeId) (h : ty = 54) : NOwn (w.alloc (.cells #[] ty)) w.heap.size (.slice (some ⟨w.heap.size, 0, none⟩) 0 0) [] := by
  subst h
  exact World.ownsRow_made w #[] 0 (Nat.le_refl _) (Nat.zero_le _) rfl
/-- A list of the call's own. -/
def NOut (B : Nat) (L : List Hn) (w : World) (e : Ending) (w' : World) : Prop := ∃ a N c, e = .returned (.slice a N c) ∧ Hid (N = L.length) ∧ NOwn w' B (.slice a N c) L ∧ Below B w w'
set_option maxRecDepth 100000 in
set_option maxHeartbeats 400000 in
theorem cloneN_any (a : Option Addr) (n c : Nat) (L : List Hn) (w : World) (hs : Ns w a n c L) (hk : n ≤ 100000) : Calls Tryd.prog 35 #[.slice a n c] w (NOut w.heap.size L w) := by
  have hl := hs.len
  subst hl
  have q22 : ∀ (w : World) (a : Option Addr) (n c n' c' : Nat), (binOp .eql 22 (.slice a n c) (.slice none n' c')).run Tryd.prog w = .ok (.bool a.isNone) w := fun w a n c n' c' => Lib.run_eql_slice_nil w _ _ a n c n' c' Tryd.underlying22
  cases a with
  | none =>
    obtain rfl := hs.nil rfl
    have hl0 : L = [] := List.length_eq_zero_iff.1 (by have := hs.le; omega)
    subst hl0
    go_enter Tryd.func35, Tryd.ntmps35
    go_wp2
    go_ret
    exact ⟨_, _, _, rfl, Lib.hid rfl, NOwn.nil _ _, Below.refl _ _⟩
  | some p =>
    have hb0 : Below w.heap.size w (w.alloc (.cells #[] 54)) := (Below.refl _ w).alloc (Nat.le_refl _) _
    have HS := Lib.hid (hs.kept hb0)
    have HO := Lib.hid (ns_own0 w _ rfl)
    have HB := Lib.hid hb0
    clear hs hb0
    go_enter Tryd.func35, Tryd.ntmps35
    go_wp2_with (at_builtin; refine wp_append_n rfl _ _ rfl _ [] L rfl w.heap.size HO.out (some p) L.length c rfl HS.out (by simp; omega) (by simp) ?_; intro w2 ad2 N2 c2 hN2 hown2 hb2)
    go_ret
    exact ⟨_, _, _, rfl, hN2, hown2, HB.out.trans hb2⟩

/-- Keys that were taken out. -/
def dels (D : DataW Value) (l : List ByteArray) : DataW Value := l.foldl (fun D x => D.del (.string x.data.toList)) D
theorem dels_snoc (D : DataW Value) (l : List ByteArray) (x : ByteArray) : dels D (l ++ [x]) = (dels D l).del (.string x.data.toList) := by simp [dels]
theorem dels_has (y : List UInt8) : ∀ (l : List ByteArray) (D : DataW Value), Maps.has (dels D l) (.string y) = (Maps.has D (.string y) && !(l.any fun x => decide (x.data.toList = y)))
  | [], D => by simp [dels]
  | x :: l, D => by
    have ih := dels_has y l (D.del (.string x.data.toList))
    show Maps.has (dels (D.del (.string x.data.toList)) l) (.string y) = _
    rw [ih]
    by_cases h : x.data.toList = y
    · subst h
      rw [Maps.has_del_same]
      simp
    · rw [Maps.has_del_other (lit_ne (Ne.symm h))]
      simp [h]
theorem dels_at (y : List UInt8) (z : DataW Value) : ∀ (l : List ByteArray) (D : DataW Value), Maps.has (dels D l) (.string y) = true → (dels D l).atKey (.string y) z = D.atKey (.string y) z
  | [], D, _ => rfl
  | x :: l, D, h => by
    have hh : Maps.has (dels (D.del (.string x.data.toList)) l) (.string y) = true := h
    have ih := dels_at y z l (D.del (.string x.data.toList)) hh
    show (dels (D.del (.string x.data.toList)) l).atKey (.string y) z = _
    rw [ih]
    by_cases h : x.data.toList = y
    · subst h
      rw [dels_has, Maps.has_del_same] at hh
      cases hh
    · exact Maps.atKey_del_other (lit_ne (Ne.symm h)) z
/-- Whether a value of a header with a colon may be. -/
def okR (x v : ByteArray) : Bool := if x.data.toList = mL ∨ x.data.toList = sL then fullB v else if x.data.toList = pL then pathB v else true
def updR (S : RQ) (x v : ByteArray) : RQ := if x.data.toList = mL then { S with m := v } else if x.data.toList = sL then { S with s := v } else if x.data.toList = aL then { S with a := v } else if x.data.toList = pL then { S with p := v } else S
abbrev SR := RQ × List ByteArray
def stR (S : SR) (x v : ByteArray) : SR := (updR S.1 x v, S.2 ++ [x])
/-- The boxes of a request's keepers. -/
def BoxR (r bx q1 q2 : Nat) (S : SR) (w : World) : Prop := QB w r S.1 ∧ w.cell? ⟨bx, 0, none⟩ = some (.pointer (some ⟨r, 0, none⟩)) ∧ w.cell? ⟨q1, 0, none⟩ = some (.pointer (some ⟨r, 0, none⟩)) ∧ w.cell? ⟨q2, 0, none⟩ = some (.pointer (some ⟨r, 1, none⟩))
theorem req_keeps {w : World} {p r mb bx q1 q2 : Nat} {D : DataW Value} (h : ReqMap w p r mb bx q1 q2 D) (hr : p ≤ r) (hbx : p ≤ bx) (h1 : p ≤ q1) (h2 : p ≤ q2) (nb : bx ≠ r) (n1 : q1 ≠ r) (n2 : q2 ≠ r) :
    Keeps (fun S : SR => dels D S.2) (fun _ x v => okR x v) stR (BoxR r bx q1 q2) p mb r := by
  have nm : ∀ {g i : Nat} {v : Value}, w.cell? ⟨g, i, none⟩ = some v → g ≠ mb := fun hc e => by
    subst e
    rw [map_none h.map] at hc
    cases hc
  have m0 := nm h.rq.c0
  have mbx := nm h.cb
  have m1 := nm h.c1
  have m2 := nm h.c2
  refine ⟨h.pm, hr, Ne.symm m0, fun S W W' hb hk => ?_, fun S x hk => ?_, fun S x v hk => dels_snoc D S.2 x⟩
  · obtain ⟨hq, hb0, hb1, hb2⟩ := hb
    have kr := hk r hr (cell_lt hq.c0) m0
    have kb := hk bx hbx (cell_lt hb0) mbx
    have k1 := hk q1 h1 (cell_lt hb1) m1
    have k2 := hk q2 h2 (cell_lt hb2) m2
    exact ⟨hq.blk kr, (World.cell?_of_block (a := ⟨bx, 0, none⟩) kb).trans hb0, (World.cell?_of_block (a := ⟨q1, 0, none⟩) k1).trans hb1, (World.cell?_of_block (a := ⟨q2, 0, none⟩) k2).trans hb2⟩
  · have hat := fun z => dels_at x.data.toList z S.2 D hk
    have hD : Maps.has D (.string x.data.toList) = true := by
      unfold kn at hk
      rw [dels_has] at hk
      exact (Bool.and_eq_true _ _ ▸ hk).1
    rw [h.laid.has] at hD
    simp only [Bool.true_and, Bool.or_eq_true, decide_eq_true_eq] at hD
    have other : ∀ {W : World} {i : Nat} {v : Value} {g : Nat} {u : Value}, g ≠ r → W.cell? ⟨g, 0, none⟩ = some u → (W.setCell ⟨r, i, none⟩ v).cell? ⟨g, 0, none⟩ = some u := fun hg hc =>
      (World.cell?_of_block (Below.heap_setCell _ _ _ _ hg)).trans hc
    rcases hD with ((hx | hx) | hx) | hx
    · refine ⟨_, q1, fun z => by rw [hat z, hx]; exact h.laid.m rfl z, fun args W => by kernel_rfl, fun v W hb hv => ?_⟩
      obtain ⟨hq, hb0, hb1, hb2⟩ := hb
      refine (keep_filled v q1 r 0 _ W hb1 hq.c0 (hq.z 0)).mono ?_
      rintro e W' ⟨rfl, rfl⟩
      refine ⟨by unfold okR; rw [if_pos (Or.inl hx)], kp_set _ _ _ _, ?_, other nb hb0, other n1 hb1, other n2 hb2⟩
      show QB _ r (updR S.1 x v)
      unfold updR
      rw [if_pos hx]
      exact hq.set0 v
    · have ne1 : x.data.toList ≠ mL := by rw [hx]; decide
      refine ⟨_, q2, fun z => by rw [hat z, hx]; exact h.laid.s rfl z, fun args W => by kernel_rfl, fun v W hb hv => ?_⟩
      obtain ⟨hq, hb0, hb1, hb2⟩ := hb
      refine (keep_filled v q2 r 1 _ W hb2 hq.c1 (hq.z 1)).mono ?_
      rintro e W' ⟨rfl, rfl⟩
      refine ⟨by unfold okR; rw [if_pos (Or.inr hx)], kp_set _ _ _ _, ?_, other nb hb0, other n1 hb1, other n2 hb2⟩
      show QB _ r (updR S.1 x v)
      unfold updR
      rw [if_neg ne1, if_pos hx]
      exact hq.set1 v
    · have ne1 : x.data.toList ≠ mL := by rw [hx]; decide
      have ne2 : x.data.toList ≠ sL := by rw [hx]; decide
      have ne3 : x.data.toList ≠ pL := by rw [hx]; decide
      refine ⟨_, bx, fun z => by rw [hat z, hx]; exact h.laid.a rfl z, fun args W => by kernel_rfl, fun v W hb hv => ?_⟩
      obtain ⟨hq, hb0, hb1, hb2⟩ := hb
      refine (keep_auth v bx r _ W hb0 hq.c2 (hq.z 2)).mono ?_
      rintro e W' ⟨rfl, rfl⟩
      refine ⟨by unfold okR; rw [if_neg (by rintro (h | h); exact ne1 h; exact ne2 h), if_neg ne3], kp_set _ _ _ _, ?_, other nb hb0, other n1 hb1, other n2 hb2⟩
      show QB _ r (updR S.1 x v)
      unfold updR
      rw [if_neg ne1, if_neg ne2, if_pos hx]
      exact hq.set2 v
    · have ne1 : x.data.toList ≠ mL := by rw [hx]; decide
      have ne2 : x.data.toList ≠ sL := by rw [hx]; decide
      have ne3 : x.data.toList ≠ aL := by rw [hx]; decide
      refine ⟨_, bx, fun z => by rw [hat z, hx]; exact h.laid.p rfl z, fun args W => by kernel_rfl, fun v W hb hv => ?_⟩
      obtain ⟨hq, hb0, hb1, hb2⟩ := hb
      refine (keep_path v bx r _ W hb0 hq.c3 (hq.z 3)).mono ?_
      rintro e W' ⟨rfl, rfl⟩
      refine ⟨by unfold okR; rw [if_neg (by rintro (h | h); exact ne1 h; exact ne2 h), if_pos hx], kp_set _ _ _ _, ?_, other nb hb0, other n1 hb1, other n2 hb2⟩
      show QB _ r (updR S.1 x v)
      unfold updR
      rw [if_neg ne1, if_neg ne2, if_neg ne3, if_pos hx]
      exact hq.set3 v
end Go.Proofs.YtgoglfahlfkbiaaDoor
