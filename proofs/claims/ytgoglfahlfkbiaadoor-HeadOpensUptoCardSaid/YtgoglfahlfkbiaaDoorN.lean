/-
  THE MAP OF A REQUEST'S KEEPERS: what holds as it is made, whatever the order.
-/
import Derived.Test.YtgoglfahlfkbiaaDoorM
namespace Go.Proofs.YtgoglfahlfkbiaaDoor
open Go.RowKit Tt

def on (ls : Array Bool) (k : Nat) : Bool := ls.getD k false
theorem on_set {ls : Array Bool} {i : Nat} (hi : i < ls.size) (k : Nat) : on (ls.setIfInBounds i true) k = (decide (i = k) || on ls k) := by
  unfold on
  by_cases h : i = k
  · subst h
    simp [hi]
  · simp [h, Array.getElem?_setIfInBounds_ne h]
theorem off_of {ls : Array Bool} {i : Nat} (h : ls.getD i true = false) : on ls i = false ∧ i < ls.size := by
  unfold on
  by_cases hi : i < ls.size
  · simp [hi] at h ⊢
    exact h
  · simp [hi] at h
def mL : List UInt8 := [58, 109, 101, 116, 104, 111, 100]
def sL : List UInt8 := [58, 115, 99, 104, 101, 109, 101]
def aL : List UInt8 := [58, 97, 117, 116, 104, 111, 114, 105, 116, 121]
def pL : List UInt8 := [58, 112, 97, 116, 104]
/-- The slot of an operation. -/
def slotOf (i : Nat) : Nat := if i = 0 then 3 else if i = 1 then 4 else if i = 2 then 5 else if i = 3 then 6 else if i = 4 then 7 else if i = 6 then 8 else if i = 7 then 9 else if i = 8 then 10 else if i = 9 then 11 else if i = 11 then 12 else if i = 13 then 13 else if i = 15 then 14 else 2
def valOf (bx r mb q1 q2 i : Nat) : Value :=
  if i = 0 then .map (some mb) else if i = 1 then .pointer (some ⟨r, 0, none⟩) else if i = 2 then .pointer (some ⟨r, 0, none⟩) else if i = 3 then .pointer (some ⟨r, 0, none⟩) else if i = 4 then fnC 69 q1
  else if i = 6 then .pointer (some ⟨r, 0, none⟩) else if i = 7 then .pointer (some ⟨r, 0, none⟩) else if i = 8 then .pointer (some ⟨r, 1, none⟩) else if i = 9 then fnC 69 q2
  else if i = 11 then fnC 51 bx else if i = 13 then fnC 52 bx else .map (some mb)
def valued : List Nat := [0, 1, 2, 3, 4, 6, 7, 8, 9, 11, 13, 15, 16]
theorem slot_inj : ∀ i ∈ valued, ∀ k ∈ valued, slotOf i = slotOf k → i = k := by decide
theorem slot_lt : ∀ i ∈ valued, slotOf i < 15 := by decide
theorem slot_one : ∀ i ∈ valued, slotOf i ≠ 1 := by decide
/-- What a map holds of the four keepers, by what has been laid. -/
structure Laid (bx q1 q2 : Nat) (f5 f10 f12 f14 : Bool) (D : DataW Value) : Prop where
  has : ∀ l : List UInt8, Maps.has D (.string l) = ((f5 && decide (l = mL)) || (f10 && decide (l = sL)) || (f12 && decide (l = aL)) || (f14 && decide (l = pL)))
  m : f5 = true → ∀ z, D.atKey (.string mL) z = .held (fnC 69 q1)
  s : f10 = true → ∀ z, D.atKey (.string sL) z = .held (fnC 69 q2)
  a : f12 = true → ∀ z, D.atKey (.string aL) z = .held (fnC 51 bx)
  p : f14 = true → ∀ z, D.atKey (.string pL) z = .held (fnC 52 bx)
structure RI (w0 : World) (p bx r : Nat) (ls : Array Bool) (mb q1 q2 n : Nat) (D : DataW Value) (a : Act) (w : World) : Prop where
  sz : ls.size = 17
  dv : a.defers = []
  ts : a.tmps.size = 15
  s1 : a.tmps.getD 1 undef = .pointer (some ⟨bx, 0, none⟩)
  v : ∀ i ∈ valued, on ls i = true → a.tmps.getD (slotOf i) undef = valOf bx r mb q1 q2 i
  dp : ∀ k, (k = 5 ∨ k = 10 ∨ k = 12 ∨ k = 14 ∨ k = 15 ∨ k = 16) → on ls k = true → on ls 0 = true
  d5 : on ls 5 = true → on ls 4 = true
  d10 : on ls 10 = true → on ls 9 = true
  bl : Below p w0 w
  bc : w.cell? ⟨bx, 0, none⟩ = some (.pointer (some ⟨r, 0, none⟩))
  rc : ∃ S, QB w r S ∧ S.m = ⟨#[]⟩ ∧ S.s = ⟨#[]⟩ ∧ S.a = ⟨#[]⟩ ∧ S.p = ⟨#[]⟩
  mp : on ls 0 = true → w.ownsMap Tryd.prog 9 fnR mb n D ∧ p ≤ mb ∧ Laid bx q1 q2 (on ls 5) (on ls 10) (on ls 12) (on ls 14) D
  c1 : on ls 4 = true → p ≤ q1 ∧ w.cell? ⟨q1, 0, none⟩ = some (.pointer (some ⟨r, 0, none⟩))
  c2 : on ls 9 = true → p ≤ q2 ∧ w.cell? ⟨q2, 0, none⟩ = some (.pointer (some ⟨r, 1, none⟩))
  nb : n ≤ (on ls 5).toNat + (on ls 10).toNat + (on ls 12).toNat + (on ls 14).toNat
theorem getD_put {a : Act} {d k : Nat} {v : Value} (hd : d < a.tmps.size) : (a.put (some d) v).tmps.getD k undef = if d = k then v else a.tmps.getD k undef := by
  simp only [Act.put]
  by_cases h : d = k
  · subst h
    simp [hd]
  · simp [h, Array.getElem?_setIfInBounds_ne h]
theorem qs_valued : ∀ i ∈ [1, 2, 3, 6, 7, 8, 11, 13, 15, 16], i ∈ valued := by decide
theorem qs_lt : ∀ i ∈ [1, 2, 3, 6, 7, 8, 11, 13, 15, 16], i < 17 := by decide
/-- An operation that leaves the world. -/
theorem RI.quiet {w0 : World} {p bx r : Nat} {ls : Array Bool} {mb q1 q2 n : Nat} {D : DataW Value} {a : Act} {w : World} (h : RI w0 p bx r ls mb q1 q2 n D a w) (i : Nat) (hi : i ∈ [1, 2, 3, 6, 7, 8, 11, 13, 15, 16]) (hd : i = 15 ∨ i = 16 → on ls 0 = true) :
    RI w0 p bx r (ls.setIfInBounds i true) mb q1 q2 n D (a.put (some (slotOf i)) (valOf bx r mb q1 q2 i)) w := by
  have hiv : i ∈ valued := qs_valued i hi
  have hi17 : i < ls.size := by rw [h.sz]; exact qs_lt i hi
  have hs : slotOf i < a.tmps.size := by rw [h.ts]; exact slot_lt i hiv
  have e : ∀ k, i ≠ k → on (ls.setIfInBounds i true) k = on ls k := fun k hk => by rw [on_set hi17, decide_eq_false hk, Bool.false_or]
  have n0 : i ≠ 0 := by rintro rfl; revert hi; decide
  have n4 : i ≠ 4 := by rintro rfl; revert hi; decide
  have n5 : i ≠ 5 := by rintro rfl; revert hi; decide
  have n9 : i ≠ 9 := by rintro rfl; revert hi; decide
  have n10 : i ≠ 10 := by rintro rfl; revert hi; decide
  have n12 : i ≠ 12 := by rintro rfl; revert hi; decide
  have n14 : i ≠ 14 := by rintro rfl; revert hi; decide
  refine ⟨by simpa using h.sz, h.dv, by simpa [Act.put] using h.ts, ?_, fun k hk hon => ?_, fun k hk hon => ?_, ?_, ?_, h.bl, h.bc, h.rc, ?_, ?_, ?_, ?_⟩
  · rw [getD_put hs, if_neg (slot_one i hiv)]
    exact h.s1
  · rw [getD_put hs]
    by_cases hik : i = k
    · subst hik
      rw [if_pos rfl]
    · rw [if_neg fun e2 => hik (slot_inj i hiv k hk e2)]
      rw [e k hik] at hon
      exact h.v k hk hon
  · rw [e 0 n0]
    by_cases hik : i = k
    · subst hik
      exact hd (by omega)
    · rw [e k hik] at hon
      exact h.dp k hk hon
  · rw [e 5 n5, e 4 n4]
    exact h.d5
  · rw [e 10 n10, e 9 n9]
    exact h.d10
  · rw [e 0 n0, e 5 n5, e 10 n10, e 12 n12, e 14 n14]
    exact h.mp
  · rw [e 4 n4]
    exact h.c1
  · rw [e 9 n9]
    exact h.c2
  · rw [e 5 n5, e 10 n10, e 12 n12, e 14 n14]
    exact h.nb
/-- The map is made. -/
theorem RI.made {w0 : World} {p bx r : Nat} {ls : Array Bool} {mb q1 q2 n : Nat} {D : DataW Value} {a : Act} {w : World} (h : RI w0 p bx r ls mb q1 q2 n D a w) (h0 : on ls 0 = false) (hp : p ≤ w.heap.size) :
    RI w0 p bx r (ls.setIfInBounds 0 true) w.heap.size q1 q2 0 (.map []) (a.put (some 3) (.map (some w.heap.size))) (w.alloc (.map #[] 0)) := by
  have hi17 : 0 < ls.size := by rw [h.sz]; omega
  have hs : 3 < a.tmps.size := by rw [h.ts]; omega
  have e : ∀ k, 0 ≠ k → on (ls.setIfInBounds 0 true) k = on ls k := fun k hk => by rw [on_set hi17, decide_eq_false hk, Bool.false_or]
  have e0 : on (ls.setIfInBounds 0 true) 0 = true := by rw [on_set hi17]; simp
  have off : ∀ k, (k = 5 ∨ k = 10 ∨ k = 12 ∨ k = 14 ∨ k = 15 ∨ k = 16) → on ls k = false := fun k hk => by
    rw [Bool.eq_false_iff]
    intro hon
    have := h.dp k hk hon
    rw [h0] at this
    cases this
  have o5 := off 5 (by omega)
  have o10 := off 10 (by omega)
  have o12 := off 12 (by omega)
  have o14 := off 14 (by omega)
  have hb : Below w.heap.size w (w.alloc (.map #[] 0)) := (Below.refl _ w).alloc (Nat.le_refl _) _
  obtain ⟨S, hq, hS⟩ := h.rc
  refine ⟨by simpa using h.sz, h.dv, by simpa [Act.put] using h.ts, ?_, fun k hk hon => ?_, fun k hk hon => e0, ?_, ?_, h.bl.alloc hp _, (hb.cell (cell_lt h.bc)).trans h.bc, ⟨S, hq.blk (hb.block r (cell_lt hq.c0)), hS⟩, fun _ => ⟨World.ownsMap_made w _ _ _, hp, ?_⟩, ?_, ?_, Nat.zero_le _⟩
  · rw [getD_put hs, if_neg (by omega)]
    exact h.s1
  · rw [getD_put hs]
    by_cases hik : 0 = k
    · subst hik
      rw [show slotOf 0 = 3 from rfl, if_pos rfl]
      rfl
    · rw [if_neg fun e2 => hik (slot_inj 0 (by decide) k hk (by rw [← e2]; rfl))]
      rw [e k hik] at hon
      rw [h.v k hk hon]
      have n15 : k ≠ 15 := by
        rintro rfl
        rw [off 15 (by omega)] at hon
        cases hon
      have n16 : k ≠ 16 := by
        rintro rfl
        rw [off 16 (by omega)] at hon
        cases hon
      simp only [valued, List.mem_cons, List.not_mem_nil, or_false] at hk
      rcases hk with rfl | rfl | rfl | rfl | rfl | rfl | rfl | rfl | rfl | rfl | rfl | rfl | rfl
      all_goals first | rfl | exact absurd rfl hik | exact absurd rfl n15 | exact absurd rfl n16
  · rw [e 5 (by omega), o5]
    exact fun h => by cases h
  · rw [e 10 (by omega), o10]
    exact fun h => by cases h
  · rw [e 5 (by omega), e 10 (by omega), e 12 (by omega), e 14 (by omega), o5, o10, o12, o14]
    exact ⟨fun l => rfl, (fun h => by cases h), (fun h => by cases h), (fun h => by cases h), (fun h => by cases h)⟩
  · rw [e 4 (by omega)]
    exact fun h4 => ⟨(h.c1 h4).1, (hb.cell (cell_lt (h.c1 h4).2)).trans (h.c1 h4).2⟩
  · rw [e 9 (by omega)]
    exact fun h9 => ⟨(h.c2 h9).1, (hb.cell (cell_lt (h.c2 h9).2)).trans (h.c2 h9).2⟩
/-- The first keeper is made. -/
theorem RI.call1 {w0 : World} {p bx r : Nat} {ls : Array Bool} {mb q1 q2 n : Nat} {D : DataW Value} {a : Act} {w : World} (h : RI w0 p bx r ls mb q1 q2 n D a w) (h0 : on ls 4 = false) (hp : p ≤ w.heap.size) :
    RI w0 p bx r (ls.setIfInBounds 4 true) mb w.heap.size q2 n D (a.put (some 7) (fnC 69 w.heap.size)) (w.alloc (.cells #[.pointer (some ⟨r, 0, none⟩)] 93)) := by
  have hi17 : 4 < ls.size := by rw [h.sz]; omega
  have hs : 7 < a.tmps.size := by rw [h.ts]; omega
  have e : ∀ k, 4 ≠ k → on (ls.setIfInBounds 4 true) k = on ls k := fun k hk => by rw [on_set hi17, decide_eq_false hk, Bool.false_or]
  have e0 : on (ls.setIfInBounds 4 true) 4 = true := by rw [on_set hi17]; simp
  have od : on ls 5 = false := by
    rw [Bool.eq_false_iff]
    intro hon
    have := h.d5 hon
    rw [h0] at this
    cases this
  have hb : Below w.heap.size w (w.alloc (.cells #[.pointer (some ⟨r, 0, none⟩)] 93)) := (Below.refl _ w).alloc (Nat.le_refl _) _
  obtain ⟨S, hq, hS⟩ := h.rc
  refine ⟨by simpa using h.sz, h.dv, by simpa [Act.put] using h.ts, ?_, fun k hk hon => ?_, fun k hk hon => ?_, ?_, ?_, h.bl.alloc hp _, (hb.cell (cell_lt h.bc)).trans h.bc, ⟨S, hq.blk (hb.block r (cell_lt hq.c0)), hS⟩, ?_, ?_, ?_, ?_⟩
  · rw [getD_put hs, if_neg (by omega)]
    exact h.s1
  · rw [getD_put hs]
    by_cases hik : 4 = k
    · subst hik
      rw [show slotOf 4 = 7 from rfl, if_pos rfl]
      rfl
    · rw [if_neg fun e2 => hik (slot_inj 4 (by decide) k hk (by rw [← e2]; rfl))]
      rw [e k hik] at hon
      rw [h.v k hk hon]
      simp only [valued, List.mem_cons, List.not_mem_nil, or_false] at hk
      rcases hk with rfl | rfl | rfl | rfl | rfl | rfl | rfl | rfl | rfl | rfl | rfl | rfl | rfl
      all_goals first | rfl | exact absurd rfl hik
  · rw [e 0 (by omega)]
    rw [e k (by omega)] at hon
    exact h.dp k hk hon
  · rw [e 5 (by omega)]
    intro h5
    by_cases h4 : 4 = 4
    · first | exact e0 | exact absurd h4 (by decide)
    · first | (rw [e 4 (by omega)]; exact h.d5 h5) | exact absurd rfl h4
  · rw [e 10 (by omega)]
    intro h10
    by_cases h9 : 4 = 9
    · first | exact e0 | exact absurd h9 (by decide)
    · first | (rw [e 9 (by omega)]; exact h.d10 h10) | exact absurd rfl h9
  · rw [e 0 (by omega), e 5 (by omega), e 10 (by omega), e 12 (by omega), e 14 (by omega)]
    intro hon
    obtain ⟨h1, h2, h3⟩ := h.mp hon
    rw [od] at h3 ⊢
    exact ⟨h1.alloc _, h2, h3.has, (fun h => by cases h), h3.s, h3.a, h3.p⟩
  · exact fun _ => ⟨hp, by simp⟩
  · rw [e 9 (by omega)]
    exact fun h9 => ⟨(h.c2 h9).1, (hb.cell (cell_lt (h.c2 h9).2)).trans (h.c2 h9).2⟩
  · rw [e 5 (by omega), e 10 (by omega), e 12 (by omega), e 14 (by omega)]
    exact h.nb
/-- The second keeper is made. -/
theorem RI.call2 {w0 : World} {p bx r : Nat} {ls : Array Bool} {mb q1 q2 n : Nat} {D : DataW Value} {a : Act} {w : World} (h : RI w0 p bx r ls mb q1 q2 n D a w) (h0 : on ls 9 = false) (hp : p ≤ w.heap.size) :
    RI w0 p bx r (ls.setIfInBounds 9 true) mb q1 w.heap.size n D (a.put (some 11) (fnC 69 w.heap.size)) (w.alloc (.cells #[.pointer (some ⟨r, 1, none⟩)] 93)) := by
  have hi17 : 9 < ls.size := by rw [h.sz]; omega
  have hs : 11 < a.tmps.size := by rw [h.ts]; omega
  have e : ∀ k, 9 ≠ k → on (ls.setIfInBounds 9 true) k = on ls k := fun k hk => by rw [on_set hi17, decide_eq_false hk, Bool.false_or]
  have e0 : on (ls.setIfInBounds 9 true) 9 = true := by rw [on_set hi17]; simp
  have od : on ls 10 = false := by
    rw [Bool.eq_false_iff]
    intro hon
    have := h.d10 hon
    rw [h0] at this
    cases this
  have hb : Below w.heap.size w (w.alloc (.cells #[.pointer (some ⟨r, 1, none⟩)] 93)) := (Below.refl _ w).alloc (Nat.le_refl _) _
  obtain ⟨S, hq, hS⟩ := h.rc
  refine ⟨by simpa using h.sz, h.dv, by simpa [Act.put] using h.ts, ?_, fun k hk hon => ?_, fun k hk hon => ?_, ?_, ?_, h.bl.alloc hp _, (hb.cell (cell_lt h.bc)).trans h.bc, ⟨S, hq.blk (hb.block r (cell_lt hq.c0)), hS⟩, ?_, ?_, ?_, ?_⟩
  · rw [getD_put hs, if_neg (by omega)]
    exact h.s1
  · rw [getD_put hs]
    by_cases hik : 9 = k
    · subst hik
      rw [show slotOf 9 = 11 from rfl, if_pos rfl]
      rfl
    · rw [if_neg fun e2 => hik (slot_inj 9 (by decide) k hk (by rw [← e2]; rfl))]
      rw [e k hik] at hon
      rw [h.v k hk hon]
      simp only [valued, List.mem_cons, List.not_mem_nil, or_false] at hk
      rcases hk with rfl | rfl | rfl | rfl | rfl | rfl | rfl | rfl | rfl | rfl | rfl | rfl | rfl
      all_goals first | rfl | exact absurd rfl hik
  · rw [e 0 (by omega)]
    rw [e k (by omega)] at hon
    exact h.dp k hk hon
  · rw [e 5 (by omega)]
    intro h5
    by_cases h4 : 9 = 4
    · first | exact e0 | exact absurd h4 (by decide)
    · first | (rw [e 4 (by omega)]; exact h.d5 h5) | exact absurd rfl h4
  · rw [e 10 (by omega)]
    intro h10
    by_cases h9 : 9 = 9
    · first | exact e0 | exact absurd h9 (by decide)
    · first | (rw [e 9 (by omega)]; exact h.d10 h10) | exact absurd rfl h9
  · rw [e 0 (by omega), e 5 (by omega), e 10 (by omega), e 12 (by omega), e 14 (by omega)]
    intro hon
    obtain ⟨h1, h2, h3⟩ := h.mp hon
    rw [od] at h3 ⊢
    exact ⟨h1.alloc _, h2, h3.has, h3.m, (fun h => by cases h), h3.a, h3.p⟩
  · rw [e 4 (by omega)]
    exact fun h4 => ⟨(h.c1 h4).1, (hb.cell (cell_lt (h.c1 h4).2)).trans (h.c1 h4).2⟩
  · exact fun _ => ⟨hp, by simp⟩
  · rw [e 5 (by omega), e 10 (by omega), e 12 (by omega), e 14 (by omega)]
    exact h.nb
theorem map_none {w : World} {b n : Nat} {D : DataW Value} (h : w.ownsMap Tryd.prog 9 fnR b n D) (i : Nat) : w.cell? ⟨b, i, none⟩ = none := by
  obtain ⟨es, c, hb, _⟩ := h
  simp [World.cell?, hb]
theorem cell_grown {w w' : World} {b n : Nat} {D : DataW Value} (h : w.ownsMap Tryd.prog 9 fnR b n D) (hg : w.grownBy w' (some b)) {g i : Nat} {v : Value} (hc : w.cell? ⟨g, i, none⟩ = some v) : w'.heap[g]? = w.heap[g]? := by
  refine hg.block g (cell_lt hc) fun e => ?_
  have e : g = b := Option.some.inj e
  subst e
  rw [map_none h] at hc
  cases hc
theorem lit_ne {l m : List UInt8} (h : l ≠ m) : (Lit.string l) ≠ .string m := fun e => h (by injection e)
theorem Laid.ins5 {bx q1 q2 : Nat} {f10 f12 f14 : Bool} {D : DataW Value} (h : Laid bx q1 q2 false f10 f12 f14 D) (hD : Maps.IsMap D) : Laid bx q1 q2 true f10 f12 f14 (D.put (.string mL) (.held (fnC 69 q1))) := by
  have hk : WideAt.IsKeyLit (Lit.string mL) := by first | trivial | exact rfl | decide
  refine ⟨fun l => ?_, (fun _ z => Maps.atKey_put_same hD (hk) _ z), (fun hh z => (Maps.atKey_put_other (lit_ne (by decide)) _ z).trans (h.s hh z)), (fun hh z => (Maps.atKey_put_other (lit_ne (by decide)) _ z).trans (h.a hh z)), (fun hh z => (Maps.atKey_put_other (lit_ne (by decide)) _ z).trans (h.p hh z))⟩
  by_cases hl : l = mL
  · subst hl
    rw [Maps.has_put_same hD hk]
    simp
  · rw [Maps.has_put_other (lit_ne hl), h.has l]
    simp [hl]
theorem Laid.ins10 {bx q1 q2 : Nat} {f5 f12 f14 : Bool} {D : DataW Value} (h : Laid bx q1 q2 f5 false f12 f14 D) (hD : Maps.IsMap D) : Laid bx q1 q2 f5 true f12 f14 (D.put (.string sL) (.held (fnC 69 q2))) := by
  have hk : WideAt.IsKeyLit (Lit.string sL) := by first | trivial | exact rfl | decide
  refine ⟨fun l => ?_, (fun hh z => (Maps.atKey_put_other (lit_ne (by decide)) _ z).trans (h.m hh z)), (fun _ z => Maps.atKey_put_same hD (hk) _ z), (fun hh z => (Maps.atKey_put_other (lit_ne (by decide)) _ z).trans (h.a hh z)), (fun hh z => (Maps.atKey_put_other (lit_ne (by decide)) _ z).trans (h.p hh z))⟩
  by_cases hl : l = sL
  · subst hl
    rw [Maps.has_put_same hD hk]
    simp
  · rw [Maps.has_put_other (lit_ne hl), h.has l]
    simp [hl]
theorem Laid.ins12 {bx q1 q2 : Nat} {f5 f10 f14 : Bool} {D : DataW Value} (h : Laid bx q1 q2 f5 f10 false f14 D) (hD : Maps.IsMap D) : Laid bx q1 q2 f5 f10 true f14 (D.put (.string aL) (.held (fnC 51 bx))) := by
  have hk : WideAt.IsKeyLit (Lit.string aL) := by first | trivial | exact rfl | decide
  refine ⟨fun l => ?_, (fun hh z => (Maps.atKey_put_other (lit_ne (by decide)) _ z).trans (h.m hh z)), (fun hh z => (Maps.atKey_put_other (lit_ne (by decide)) _ z).trans (h.s hh z)), (fun _ z => Maps.atKey_put_same hD (hk) _ z), (fun hh z => (Maps.atKey_put_other (lit_ne (by decide)) _ z).trans (h.p hh z))⟩
  by_cases hl : l = aL
  · subst hl
    rw [Maps.has_put_same hD hk]
    simp
  · rw [Maps.has_put_other (lit_ne hl), h.has l]
    simp [hl]
theorem Laid.ins14 {bx q1 q2 : Nat} {f5 f10 f12 : Bool} {D : DataW Value} (h : Laid bx q1 q2 f5 f10 f12 false D) (hD : Maps.IsMap D) : Laid bx q1 q2 f5 f10 f12 true (D.put (.string pL) (.held (fnC 52 bx))) := by
  have hk : WideAt.IsKeyLit (Lit.string pL) := by first | trivial | exact rfl | decide
  refine ⟨fun l => ?_, (fun hh z => (Maps.atKey_put_other (lit_ne (by decide)) _ z).trans (h.m hh z)), (fun hh z => (Maps.atKey_put_other (lit_ne (by decide)) _ z).trans (h.s hh z)), (fun hh z => (Maps.atKey_put_other (lit_ne (by decide)) _ z).trans (h.a hh z)), (fun _ z => Maps.atKey_put_same hD (hk) _ z)⟩
  by_cases hl : l = pL
  · subst hl
    rw [Maps.has_put_same hD hk]
    simp
  · rw [Maps.has_put_other (lit_ne hl), h.has l]
    simp [hl]
theorem RI.ins5 {w0 : World} {p bx r : Nat} {ls : Array Bool} {mb q1 q2 n : Nat} {D : DataW Value} {a : Act} {w w' : World} (h : RI w0 p bx r ls mb q1 q2 n D a w) (h0 : on ls 5 = false) (hM : on ls 0 = true) (hD : on ls 4 = true) (hp : p ≤ w.heap.size)
    (hm : w'.ownsMap Tryd.prog 9 fnR mb (n + 1) (D.put (.string mL) (.held (fnC 69 q1)))) (hg : w.grownBy w' (some mb)) : RI w0 p bx r (ls.setIfInBounds 5 true) mb q1 q2 (n + 1) (D.put (.string mL) (.held (fnC 69 q1))) a w' := by
  have hi17 : 5 < ls.size := by rw [h.sz]; omega
  have e : ∀ k, 5 ≠ k → on (ls.setIfInBounds 5 true) k = on ls k := fun k hk => by rw [on_set hi17, decide_eq_false hk, Bool.false_or]
  have e0 : on (ls.setIfInBounds 5 true) 5 = true := by rw [on_set hi17]; simp
  obtain ⟨h1, h2, h3⟩ := h.mp hM
  obtain ⟨S, hq, hS⟩ := h.rc
  refine ⟨by simpa using h.sz, h.dv, h.ts, h.s1, fun k hk hon => ?_, fun k hk hon => ?_, ?_, ?_, h.bl.grown hg hp (fun k e => by have : mb = k := Option.some.inj e; omega), ?_, ⟨S, hq.blk (cell_grown h1 hg hq.c0), hS⟩, fun _ => ⟨hm, h2, ?_⟩, ?_, ?_, ?_⟩
  · rw [e k (by rintro rfl; revert hk; decide)] at hon
    exact h.v k hk hon
  · rw [e 0 (by omega)]
    exact hM
  · rw [e 4 (by omega)]
    exact fun _ => hD
  · rw [e 10 (by omega), e 9 (by omega)]
    exact h.d10
  · exact (World.cell?_of_block (a := ⟨bx, 0, none⟩) (cell_grown h1 hg h.bc)).trans h.bc
  · rw [h0] at h3
    rw [e0, e 10 (by omega), e 12 (by omega), e 14 (by omega)]
    exact h3.ins5 h1.isMap
  · rw [e 4 (by omega)]
    exact fun h4 => ⟨(h.c1 h4).1, (World.cell?_of_block (a := ⟨q1, 0, none⟩) (cell_grown h1 hg (h.c1 h4).2)).trans (h.c1 h4).2⟩
  · rw [e 9 (by omega)]
    exact fun h9 => ⟨(h.c2 h9).1, (World.cell?_of_block (a := ⟨q2, 0, none⟩) (cell_grown h1 hg (h.c2 h9).2)).trans (h.c2 h9).2⟩
  · have hn := h.nb
    rw [h0] at hn
    rw [e0, e 10 (by omega), e 12 (by omega), e 14 (by omega)]
    simp only [Bool.toNat_true, Bool.toNat_false] at hn ⊢
    omega
theorem RI.ins10 {w0 : World} {p bx r : Nat} {ls : Array Bool} {mb q1 q2 n : Nat} {D : DataW Value} {a : Act} {w w' : World} (h : RI w0 p bx r ls mb q1 q2 n D a w) (h0 : on ls 10 = false) (hM : on ls 0 = true) (hD : on ls 9 = true) (hp : p ≤ w.heap.size)
    (hm : w'.ownsMap Tryd.prog 9 fnR mb (n + 1) (D.put (.string sL) (.held (fnC 69 q2)))) (hg : w.grownBy w' (some mb)) : RI w0 p bx r (ls.setIfInBounds 10 true) mb q1 q2 (n + 1) (D.put (.string sL) (.held (fnC 69 q2))) a w' := by
  have hi17 : 10 < ls.size := by rw [h.sz]; omega
  have e : ∀ k, 10 ≠ k → on (ls.setIfInBounds 10 true) k = on ls k := fun k hk => by rw [on_set hi17, decide_eq_false hk, Bool.false_or]
  have e0 : on (ls.setIfInBounds 10 true) 10 = true := by rw [on_set hi17]; simp
  obtain ⟨h1, h2, h3⟩ := h.mp hM
  obtain ⟨S, hq, hS⟩ := h.rc
  refine ⟨by simpa using h.sz, h.dv, h.ts, h.s1, fun k hk hon => ?_, fun k hk hon => ?_, ?_, ?_, h.bl.grown hg hp (fun k e => by have : mb = k := Option.some.inj e; omega), ?_, ⟨S, hq.blk (cell_grown h1 hg hq.c0), hS⟩, fun _ => ⟨hm, h2, ?_⟩, ?_, ?_, ?_⟩
  · rw [e k (by rintro rfl; revert hk; decide)] at hon
    exact h.v k hk hon
  · rw [e 0 (by omega)]
    exact hM
  · rw [e 5 (by omega), e 4 (by omega)]
    exact h.d5
  · rw [e 9 (by omega)]
    exact fun _ => hD
  · exact (World.cell?_of_block (a := ⟨bx, 0, none⟩) (cell_grown h1 hg h.bc)).trans h.bc
  · rw [h0] at h3
    rw [e 5 (by omega), e0, e 12 (by omega), e 14 (by omega)]
    exact h3.ins10 h1.isMap
  · rw [e 4 (by omega)]
    exact fun h4 => ⟨(h.c1 h4).1, (World.cell?_of_block (a := ⟨q1, 0, none⟩) (cell_grown h1 hg (h.c1 h4).2)).trans (h.c1 h4).2⟩
  · rw [e 9 (by omega)]
    exact fun h9 => ⟨(h.c2 h9).1, (World.cell?_of_block (a := ⟨q2, 0, none⟩) (cell_grown h1 hg (h.c2 h9).2)).trans (h.c2 h9).2⟩
  · have hn := h.nb
    rw [h0] at hn
    rw [e 5 (by omega), e0, e 12 (by omega), e 14 (by omega)]
    simp only [Bool.toNat_true, Bool.toNat_false] at hn ⊢
    omega
theorem RI.ins12 {w0 : World} {p bx r : Nat} {ls : Array Bool} {mb q1 q2 n : Nat} {D : DataW Value} {a : Act} {w w' : World} (h : RI w0 p bx r ls mb q1 q2 n D a w) (h0 : on ls 12 = false) (hM : on ls 0 = true) (hp : p ≤ w.heap.size)
    (hm : w'.ownsMap Tryd.prog 9 fnR mb (n + 1) (D.put (.string aL) (.held (fnC 51 bx)))) (hg : w.grownBy w' (some mb)) : RI w0 p bx r (ls.setIfInBounds 12 true) mb q1 q2 (n + 1) (D.put (.string aL) (.held (fnC 51 bx))) a w' := by
  have hi17 : 12 < ls.size := by rw [h.sz]; omega
  have e : ∀ k, 12 ≠ k → on (ls.setIfInBounds 12 true) k = on ls k := fun k hk => by rw [on_set hi17, decide_eq_false hk, Bool.false_or]
  have e0 : on (ls.setIfInBounds 12 true) 12 = true := by rw [on_set hi17]; simp
  obtain ⟨h1, h2, h3⟩ := h.mp hM
  obtain ⟨S, hq, hS⟩ := h.rc
  refine ⟨by simpa using h.sz, h.dv, h.ts, h.s1, fun k hk hon => ?_, fun k hk hon => ?_, ?_, ?_, h.bl.grown hg hp (fun k e => by have : mb = k := Option.some.inj e; omega), ?_, ⟨S, hq.blk (cell_grown h1 hg hq.c0), hS⟩, fun _ => ⟨hm, h2, ?_⟩, ?_, ?_, ?_⟩
  · rw [e k (by rintro rfl; revert hk; decide)] at hon
    exact h.v k hk hon
  · rw [e 0 (by omega)]
    exact hM
  · rw [e 5 (by omega), e 4 (by omega)]
    exact h.d5
  · rw [e 10 (by omega), e 9 (by omega)]
    exact h.d10
  · exact (World.cell?_of_block (a := ⟨bx, 0, none⟩) (cell_grown h1 hg h.bc)).trans h.bc
  · rw [h0] at h3
    rw [e 5 (by omega), e 10 (by omega), e0, e 14 (by omega)]
    exact h3.ins12 h1.isMap
  · rw [e 4 (by omega)]
    exact fun h4 => ⟨(h.c1 h4).1, (World.cell?_of_block (a := ⟨q1, 0, none⟩) (cell_grown h1 hg (h.c1 h4).2)).trans (h.c1 h4).2⟩
  · rw [e 9 (by omega)]
    exact fun h9 => ⟨(h.c2 h9).1, (World.cell?_of_block (a := ⟨q2, 0, none⟩) (cell_grown h1 hg (h.c2 h9).2)).trans (h.c2 h9).2⟩
  · have hn := h.nb
    rw [h0] at hn
    rw [e 5 (by omega), e 10 (by omega), e0, e 14 (by omega)]
    simp only [Bool.toNat_true, Bool.toNat_false] at hn ⊢
    omega
theorem RI.ins14 {w0 : World} {p bx r : Nat} {ls : Array Bool} {mb q1 q2 n : Nat} {D : DataW Value} {a : Act} {w w' : World} (h : RI w0 p bx r ls mb q1 q2 n D a w) (h0 : on ls 14 = false) (hM : on ls 0 = true) (hp : p ≤ w.heap.size)
    (hm : w'.ownsMap Tryd.prog 9 fnR mb (n + 1) (D.put (.string pL) (.held (fnC 52 bx)))) (hg : w.grownBy w' (some mb)) : RI w0 p bx r (ls.setIfInBounds 14 true) mb q1 q2 (n + 1) (D.put (.string pL) (.held (fnC 52 bx))) a w' := by
  have hi17 : 14 < ls.size := by rw [h.sz]; omega
  have e : ∀ k, 14 ≠ k → on (ls.setIfInBounds 14 true) k = on ls k := fun k hk => by rw [on_set hi17, decide_eq_false hk, Bool.false_or]
  have e0 : on (ls.setIfInBounds 14 true) 14 = true := by rw [on_set hi17]; simp
  obtain ⟨h1, h2, h3⟩ := h.mp hM
  obtain ⟨S, hq, hS⟩ := h.rc
  refine ⟨by simpa using h.sz, h.dv, h.ts, h.s1, fun k hk hon => ?_, fun k hk hon => ?_, ?_, ?_, h.bl.grown hg hp (fun k e => by have : mb = k := Option.some.inj e; omega), ?_, ⟨S, hq.blk (cell_grown h1 hg hq.c0), hS⟩, fun _ => ⟨hm, h2, ?_⟩, ?_, ?_, ?_⟩
  · rw [e k (by rintro rfl; revert hk; decide)] at hon
    exact h.v k hk hon
  · rw [e 0 (by omega)]
    exact hM
  · rw [e 5 (by omega), e 4 (by omega)]
    exact h.d5
  · rw [e 10 (by omega), e 9 (by omega)]
    exact h.d10
  · exact (World.cell?_of_block (a := ⟨bx, 0, none⟩) (cell_grown h1 hg h.bc)).trans h.bc
  · rw [h0] at h3
    rw [e 5 (by omega), e 10 (by omega), e 12 (by omega), e0]
    exact h3.ins14 h1.isMap
  · rw [e 4 (by omega)]
    exact fun h4 => ⟨(h.c1 h4).1, (World.cell?_of_block (a := ⟨q1, 0, none⟩) (cell_grown h1 hg (h.c1 h4).2)).trans (h.c1 h4).2⟩
  · rw [e 9 (by omega)]
    exact fun h9 => ⟨(h.c2 h9).1, (World.cell?_of_block (a := ⟨q2, 0, none⟩) (cell_grown h1 hg (h.c2 h9).2)).trans (h.c2 h9).2⟩
  · have hn := h.nb
    rw [h0] at hn
    rw [e 5 (by omega), e 10 (by omega), e 12 (by omega), e0]
    simp only [Bool.toNat_true, Bool.toNat_false] at hn ⊢
    omega
end Go.Proofs.YtgoglfahlfkbiaaDoor
