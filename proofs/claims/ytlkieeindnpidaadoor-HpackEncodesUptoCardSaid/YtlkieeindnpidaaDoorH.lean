/-
  KIT: lists of headers with their Never (chapter 3's XI, one field more): in slices ('Ns'), and those of the call's own ('NOwn').
-/
import Derived.Test.YtlkieeindnpidaaDoorK
import Derived.Laws.AppendOwnNone
import Derived.Laws.EntriesVeiled
import Derived.Maps.AppendAt
import Derived.Deep.RegionLaw
import Derived.Deep.AppendLies
namespace Go.Proofs.YtlkieeindnpidaaDoor
open Go.RowKit Tt

/-- A header, and whether it is Never. -/
abbrev Hn := Hd × Bool
def ncells : List Hn → List Value
  | [] => []
  | h :: l => .string h.1.1 :: .string h.1.2 :: .bool h.2 :: ncells l
theorem ncells_len : ∀ l : List Hn, (ncells l).length = l.length * 3
  | [] => rfl
  | h :: l => by simp [ncells, ncells_len l]; omega
theorem ncells_app : ∀ l m : List Hn, ncells (l ++ m) = ncells l ++ ncells m
  | [], m => rfl
  | h :: l, m => by simp [ncells, ncells_app l m]
theorem ncells_one : ∀ l : List Hn, ∀ u ∈ ncells l, u.oneCell' = true
  | [], u, h => by cases h
  | h :: l, u, hu => by
    simp only [ncells, List.mem_cons] at hu
    rcases hu with rfl | rfl | rfl | hu
    · rfl
    · rfl
    · rfl
    · exact ncells_one l u hu
theorem ncells_get : ∀ (l : List Hn) (i : Nat) (h : i < l.length), (ncells l)[i * 3]? = some (.string (l[i]).1.1) ∧ (ncells l)[i * 3 + 1]? = some (.string (l[i]).1.2) ∧ (ncells l)[i * 3 + 2]? = some (.bool (l[i]).2)
  | [], i, h => by simp at h
  | x :: l, 0, _ => ⟨rfl, rfl, rfl⟩
  | x :: l, i + 1, h => by
    have := ncells_get l i (by simpa using h)
    rw [show (i + 1) * 3 = i * 3 + 3 by omega]
    simpa [ncells] using this
theorem ncells_inv {l : List Hn} {j : Nat} {u : Value} (h : (ncells l)[j]? = some u) : j / 3 < l.length := by
  have := (List.getElem?_eq_some_iff.1 h).1
  rw [ncells_len] at this
  omega

/-- A slice (at a, of n headers, of capacity c) reads as the headers l. -/
structure Ns (w : World) (a : Option Addr) (n c : Nat) (l : List Hn) : Prop where
  len : l.length = n
  le : n ≤ c
  max : c ≤ maxLen
  nil : a = none → c = 0
  row : ∀ i (h : i < l.length), ∃ b o, a = some ⟨b, o, none⟩ ∧ w.cell? ⟨b, o + i * 3, none⟩ = some (.string (l[i]).1.1) ∧ w.cell? ⟨b, o + i * 3 + 1, none⟩ = some (.string (l[i]).1.2) ∧ w.cell? ⟨b, o + i * 3 + 2, none⟩ = some (.bool (l[i]).2)
theorem Ns.kept {w w' : World} {a : Option Addr} {n c : Nat} {l : List Hn} (h : Ns w a n c l) (hb : Below w.heap.size w w') : Ns w' a n c l :=
  ⟨h.len, h.le, h.max, h.nil, fun i hi => by
    obtain ⟨b, o, e, h0, h1, h2⟩ := h.row i hi
    exact ⟨b, o, e, (hb.cell (p := ⟨b, o + i * 3, none⟩) (cell_lt h0)).trans h0, (hb.cell (p := ⟨b, o + i * 3 + 1, none⟩) (cell_lt h1)).trans h1, (hb.cell (p := ⟨b, o + i * 3 + 2, none⟩) (cell_lt h2)).trans h2⟩⟩

/-- A row of headers of the call's own, from block B on. -/
def NOwn (w : World) (B : Nat) (v : Value) (l : List Hn) : Prop := w.ownsRow B 77 3 v l.length (ncells l)
theorem NOwn.ns {w : World} {B : Nat} {v : Value} {l : List Hn} (h : NOwn w B v l) : ∃ a c, v = .slice a l.length c ∧ Ns w a l.length c l := by
  obtain ⟨h1, h2⟩ := h
  rcases h2 with ⟨rfl, h0⟩ | ⟨g, cap, cur, rfl, hg, hh, hn, hm, hs, ht⟩
  · have : l = [] := List.length_eq_zero_iff.1 h0
    subst this
    exact ⟨none, 0, rfl, rfl, Nat.le_refl _, by unfold maxLen; omega, fun _ => rfl, fun i hi => by simp at hi⟩
  · refine ⟨_, _, rfl, rfl, hn, hm, (fun h => by cases h), fun i hi => ⟨g, 0, rfl, ?_⟩⟩
    have e : ∀ j, j < l.length * 3 → (ncells l)[j]? = cur[j]? := by
      intro j hj
      rw [← ht, List.getElem?_take_of_lt hj]
      simp
    obtain ⟨g0, g1, g2⟩ := ncells_get l i hi
    rw [e _ (by omega)] at g0 g1 g2
    refine ⟨?_, ?_, ?_⟩ <;> simp [World.cell?, hh, *]
theorem NOwn.kept {w w' : World} {B : Nat} {v : Value} {l : List Hn} (h : NOwn w B v l) (hb : Below w.heap.size w w') : NOwn w' B v l := by
  refine World.ownsRow.kept (row := none) h ⟨hb.os, hb.tape, hb.output, hb.size, fun k hk _ => hb.block k hk⟩ ?_
  cases hv : v.ownBlock with
  | none => exact Or.inl rfl
  | some k => exact Or.inr (by simp)
/-- What writes at a block alone which the row does not lie in keeps it. -/
theorem NOwn.kp {w w' : World} {A B : Nat} {v : Value} {l : List Hn} (h : NOwn w B v l) (hk : Kp A w w') (hA : A < B) : NOwn w' B v l := by
  obtain ⟨h1, h2⟩ := h
  refine ⟨h1, ?_⟩
  rcases h2 with h2 | ⟨g, cap, cur, hv, hg, hh, r⟩
  · exact Or.inl h2
  · refine Or.inr ⟨g, cap, cur, hv, hg, ?_, r⟩
    have hl : g < w.heap.size := by
      rcases Nat.lt_or_ge g w.heap.size with h' | h'
      · exact h'
      · rw [Array.getElem?_eq_none h'] at hh; cases hh
    rw [hk.block g hl (by omega)]
    exact hh
theorem NOwn.mono {w : World} {B B' : Nat} {v : Value} {l : List Hn} (h : NOwn w B v l) (hB : B' ≤ B) : NOwn w B' v l := by
  obtain ⟨h1, h2⟩ := h
  refine ⟨h1, ?_⟩
  rcases h2 with h2 | ⟨g, cap, cur, hv, hg, r⟩
  · exact Or.inl h2
  · exact Or.inr ⟨g, cap, cur, hv, by omega, r⟩
theorem NOwn.nil (w : World) (B : Nat) : NOwn w B (.slice none 0 0) [] := World.ownsRow_nil _ _ _ _
theorem NOwn.below {w w' : World} {B : Nat} {v : Value} {l : List Hn} (h : NOwn w B v l) (hg : w.grownBy w' v.ownBlock) (hB : B ≤ w.heap.size) : Below B w w' :=
  (Below.refl B w).grown hg hB (fun k hk => (World.ownsRow.lt h k hk).1)
theorem NOwn.alloc {w : World} {B : Nat} {v : Value} {l : List Hn} (h : NOwn w B v l) (o : Obj) : NOwn (w.alloc o) B v l := World.ownsRow.alloc h o

theorem infoN : (Tryd.prog.info? 77).map (fun i => (i.zero, i.size, i.bytes)) = some (some (.agg #[.string ⟨#[]⟩, .string ⟨#[]⟩, .bool false]), 3, 40) := by kernel_rfl

/-- 'make([]api.Header, 0, n)'. -/
theorem wp_make_n {w : World} {ops : Array Oper} {rest : List Oper} {o : Oper} {a : Act} {Q : Exit → Act → World → Prop}
    (hg : o.guard = none) (l c : Operand) (hop : o.op = Op.makeSlice 50 l c) (C : Int) (hl : a.eval l = .int .i64 0) (hc : a.eval c = .int .i64 C)
    (h0 : 0 ≤ C) (hn : C ≤ 1000000) (B : Nat) (hB : B ≤ w.heap.size)
    (hK : ∀ w' ad, NOwn w' B (.slice ad 0 C.toNat) [] → Below w.heap.size w w' → wpList Tryd.prog ops Q rest (a.put o.dst (.slice ad 0 C.toNat)) w') :
    wpList Tryd.prog ops Q (o :: rest) a w := by
  obtain ⟨i0, hi, hz0, hz1, hz2⟩ := info_parts infoN
  refine wpList_make_own w hg l c _ hop B _ i0 (.agg #[.string ⟨#[]⟩, .string ⟨#[]⟩, .bool false]) 3 Tryd.underlying50 hi hz0 hz1 .i64 .i64 C C.toNat hl hc (by omega) (by rw [hz2]; omega) (by unfold maxLen; omega) hB ?_
  intro w' h1 h2
  exact hK w' _ h1 ((Below.refl _ w).grown h2 (Nat.le_refl _) (fun k hk => by cases hk))

/-- 'append(s, x...)', s of the call's own, x whatever slice of headers. -/
theorem wp_append_n {w : World} {ops : Array Oper} {rest : List Oper} {o : Oper} {a : Act} {Q : Exit → Act → World → Prop}
    (hgd : o.guard = none) (s x : Operand) (ho : o.op = .call { callee := .builtin .append, args := #[s, x], argTypes := #[50, 50] })
    (v : Value) (l m : List Hn) (hs : a.eval s = v) (B : Nat) (hown : NOwn w B v l) (ad : Option Addr) (n c : Nat) (hx : a.eval x = .slice ad n c) (hsl : Ns w ad n c m)
    (hbytes : l.length + n ≤ 1000000) (hbase : B ≤ w.heap.size)
    (hK : ∀ w' ad' N' c', Hid (N' = (l ++ m).length) → NOwn w' B (.slice ad' N' c') (l ++ m) → Below B w w' → wpList Tryd.prog ops Q rest (a.put o.dst (.slice ad' N' c')) w') :
    wpList Tryd.prog ops Q (o :: rest) a w := by
  obtain ⟨i0, hi, hz0, hz1, hz2⟩ := info_parts infoN
  have hlen := hsl.len
  cases ad with
  | none =>
    obtain rfl := hsl.nil rfl
    have hn : n = 0 := by have := hsl.le; omega
    subst hn
    obtain rfl : m = [] := List.length_eq_zero_iff.1 hlen
    obtain ⟨ad', c', rfl, _⟩ := hown.ns
    refine wpList_append_own_none hgd s x _ ho B _ i0 3 Tryd.underlying50 hi _ l.length _ hs hown hx ?_
    have h := hK w ad' l.length c' (by simp [Hid]) (by simpa using hown) (Below.refl _ _)
    exact h
  | some p =>
    refine wpList_append_own w hgd s x _ ho B _ i0 (.agg #[.string ⟨#[]⟩, .string ⟨#[]⟩, .bool false]) 3 40 Tryd.underlying50 hi hz0 hz1 hz2 rfl (by decide) v l.length (ncells l) hs hown p n c (ncells m) hx
      (by rw [ncells_len]; omega) ?_ (ncells_one m) (by unfold maxLen; omega) (by omega) hbase ?_
    · intro j u hj
      have hj3 := ncells_inv hj
      obtain ⟨b, o', e, h0, h1, h2⟩ := hsl.row (j / 3) hj3
      obtain ⟨g0, g1, g2⟩ := ncells_get m (j / 3) hj3
      cases e
      rw [Addr.add_lit]
      rcases (by omega : j = j / 3 * 3 ∨ j = j / 3 * 3 + 1 ∨ j = j / 3 * 3 + 2) with e | e | e
      · rw [e] at hj
        rw [g0] at hj
        obtain rfl := Option.some.inj hj
        rw [show o' + j = o' + j / 3 * 3 by omega]; exact h0
      · rw [e] at hj
        rw [g1] at hj
        obtain rfl := Option.some.inj hj
        rw [show o' + j = o' + j / 3 * 3 + 1 by omega]; exact h1
      · rw [e] at hj
        rw [g2] at hj
        obtain rfl := Option.some.inj hj
        rw [show o' + j = o' + j / 3 * 3 + 2 by omega]; exact h2
    · intro v' w' h1 h2 _
      have h1' : NOwn w' B v' (l ++ m) := by
        unfold NOwn
        rw [List.length_append, ncells_app, hlen]; exact h1
      obtain ⟨ad', c', rfl, _⟩ := h1'.ns
      exact hK w' ad' _ c' rfl h1' (hown.below h2 hbase)

/-- The cells that are appended. -/
theorem ns_news {w : World} {p : Addr} {n c : Nat} {m : List Hn} (hsl : Ns w (some p) n c m) : ∀ j u, (ncells m)[j]? = some u → w.cell? (p.add j) = some u := by
  intro j u hj
  have hj3 := ncells_inv hj
  obtain ⟨b, o', e, h0, h1, h2⟩ := hsl.row (j / 3) hj3
  obtain ⟨g0, g1, g2⟩ := ncells_get m (j / 3) hj3
  cases e
  rw [Addr.add_lit]
  rcases (by omega : j = j / 3 * 3 ∨ j = j / 3 * 3 + 1 ∨ j = j / 3 * 3 + 2) with e | e | e
  · rw [e] at hj
    rw [g0] at hj
    obtain rfl := Option.some.inj hj
    rw [show o' + j = o' + j / 3 * 3 by omega]; exact h0
  · rw [e] at hj
    rw [g1] at hj
    obtain rfl := Option.some.inj hj
    rw [show o' + j = o' + j / 3 * 3 + 1 by omega]; exact h1
  · rw [e] at hj
    rw [g2] at hj
    obtain rfl := Option.some.inj hj
    rw [show o' + j = o' + j / 3 * 3 + 2 by omega]; exact h2
/-- 'append' as a step of a region that draws. -/
theorem step_append_n {w : World} {ops : Array Oper} {o : Oper} {a : Act} {K : Act → World → Prop} {Q : Exit → Act → World → Prop} {E : Prop}
    (hgd : o.guard = none) (s x : Operand) (ho : o.op = .call { callee := .builtin .append, args := #[s, x], argTypes := #[50, 50] })
    (v : Value) (l m : List Hn) (hs : a.eval s = v) (B : Nat) (hown : NOwn w B v l) (ad : Option Addr) (n c : Nat) (hx : a.eval x = .slice ad n c) (hsl : Ns w ad n c m)
    (hbytes : l.length + n ≤ 1000000) (hbase : B ≤ w.heap.size)
    (hK : ∀ w' ad' N' c', Hid (N' = (l ++ m).length) → NOwn w' B (.slice ad' N' c') (l ++ m) → Below B w w' → (∀ x, x < w.heap.size → v.ownBlock ≠ some x → w'.heap[x]? = w.heap[x]? ∧ (Value.slice ad' N' c').ownBlock ≠ some x) → K (a.put o.dst (.slice ad' N' c')) w') :
    if Region.wanted o (yielded ops a.tmps) = true then Oper.wp Tryd.prog o a w K Q else E := by
  have hw : Region.wanted o (yielded ops a.tmps) = true := by simp [Region.wanted, hgd]
  rw [if_pos hw]
  obtain ⟨i0, hi, hz0, hz1, hz2⟩ := info_parts infoN
  have hlen := hsl.len
  cases ad with
  | none =>
    obtain rfl := hsl.nil rfl
    have hn : n = 0 := by have := hsl.le; omega
    subst hn
    obtain rfl : m = [] := List.length_eq_zero_iff.1 hlen
    obtain ⟨ad', c', rfl, _⟩ := hown.ns
    have hrun := run_append_owned_none (P := Tryd.prog) (w := w) B 50 o.type _ i0 3 Tryd.underlying50 hi _ l.length _ hown
    unfold Oper.wp
    simp [execOp, ho, resolve, invoke, builtin, hs, hx, hrun, Result.andThen]
    exact hK w ad' l.length c' (by simp [Hid]) (by simpa using hown) (Below.refl _ _) (fun x _ hv => ⟨rfl, hv⟩)
  | some p =>
    obtain ⟨v', w', hr, h2, h3, _, h5⟩ := run_append_own_at (P := Tryd.prog) w B 50 o.type _ i0 (.agg #[.string ⟨#[]⟩, .string ⟨#[]⟩, .bool false]) 3 40 Tryd.underlying50 hi hz0 hz1 hz2 rfl (by decide) v l.length (ncells l) hown p n c (ncells m)
      (by rw [ncells_len]; omega) (ns_news hsl) (ncells_one m) (by unfold maxLen; omega) (by omega) hbase
    have h1' : NOwn w' B v' (l ++ m) := by
      unfold NOwn
      rw [List.length_append, ncells_app, hlen]; exact h2
    obtain ⟨ad', c', rfl, _⟩ := h1'.ns
    unfold Oper.wp
    simp [execOp, ho, resolve, invoke, builtin, hs, hx, hr, Result.andThen]
    have hfin := hK w' ad' (l ++ m).length c' (Lib.hid rfl) h1' (hown.below h3 hbase) (fun y hy hv => ⟨h3.block y hy (Ne.symm hv), by
      rcases h5 with e | e
      · rw [e]; exact hv
      · rw [e]; intro h; cases h; omega⟩)
    rw [List.length_append] at hfin
    exact hfin

/-- A new block of one header. -/
theorem ns_new1 (w : World) (h : Hn) : Ns (w.alloc (.cells #[.string h.1.1, .string h.1.2, .bool h.2] 77)) (some ⟨w.heap.size, 0, none⟩) 1 1 [h] := by
  refine ⟨rfl, Nat.le_refl _, by unfold maxLen; omega, (fun h => by cases h), fun i hi => ⟨_, _, rfl, ?_⟩⟩
  obtain rfl : i = 0 := by simpa using hi
  simp
end Go.Proofs.YtlkieeindnpidaaDoor
