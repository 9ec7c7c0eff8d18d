/-
  KIT: lists of texts in slices; All.
-/
import Derived.Test.YtgoglfahlfkbiaaDoorT
import Derived.Laws.AppendOwnNone
import Derived.Laws.EntriesVeiled
namespace Go.Proofs.YtgoglfahlfkbiaaDoor
open Go.RowKit Tt

/-- The texts of a list as cells. -/
def tcells (l : List ByteArray) : List Value := l.map Value.string
theorem tcells_length (l : List ByteArray) : (tcells l).length = l.length := by simp [tcells]
theorem tcells_append (l m : List ByteArray) : tcells (l ++ m) = tcells l ++ tcells m := by simp [tcells]
theorem tcells_get {l : List ByteArray} {j : Nat} (h : j < l.length) : (tcells l)[j]? = some (.string l[j]) := by simp [tcells, h]
theorem tcells_one (l : List ByteArray) : ∀ u ∈ tcells l, u.oneCell' = true := by
  intro u hu
  obtain ⟨_, _, rfl⟩ := List.mem_map.1 hu
  rfl
/-- A slice (at a, of n texts, of capacity c) reads as the texts l. -/
structure Ts (w : World) (a : Option Addr) (n c : Nat) (l : List ByteArray) : Prop where
  len : l.length = n
  le : n ≤ c
  max : c ≤ maxLen
  nil : a = none → c = 0
  row : ∀ i (h : i < l.length), ∃ b o, a = some ⟨b, o, none⟩ ∧ w.cell? ⟨b, o + i, none⟩ = some (.string l[i])
theorem Ts.kept {w w' : World} {a : Option Addr} {n c : Nat} {l : List ByteArray} (h : Ts w a n c l) (hb : Below w.heap.size w w') : Ts w' a n c l :=
  ⟨h.len, h.le, h.max, h.nil, fun i hi => by
    obtain ⟨b, o, e, hc⟩ := h.row i hi
    exact ⟨b, o, e, (hb.cell (p := ⟨b, o + i, none⟩) (cell_lt hc)).trans hc⟩⟩
/-- A row of texts of the call's own, from block B on. -/
def TOwn (w : World) (B : Nat) (v : Value) (l : List ByteArray) : Prop := w.ownsRow B 9 1 v l.length (tcells l)
theorem TOwn.ts {w : World} {B : Nat} {v : Value} {l : List ByteArray} (h : TOwn w B v l) : ∃ a c, v = .slice a l.length c ∧ Ts w a l.length c l := by
  obtain ⟨h1, h2⟩ := h
  rcases h2 with ⟨rfl, h0⟩ | ⟨g, cap, cur, rfl, hg, hh, hn, hm, hs, ht⟩
  · have : l = [] := List.length_eq_zero_iff.1 h0
    subst this
    exact ⟨none, 0, rfl, rfl, Nat.le_refl _, by unfold maxLen; omega, fun _ => rfl, fun i hi => by simp at hi⟩
  · refine ⟨_, _, rfl, rfl, hn, hm, (fun h => by cases h), fun i hi => ⟨g, 0, rfl, ?_⟩⟩
    have e : (tcells l)[i]? = cur[i]? := by
      rw [← ht, List.getElem?_take_of_lt (by simpa using hi)]
      simp
    rw [tcells_get hi] at e
    simp [World.cell?, hh, ← e]
theorem TOwn.own {w : World} {B : Nat} {a : Option Addr} {N c : Nat} {l : List ByteArray} (h : TOwn w B (.slice a N c) l) : Ts w a N c l := by
  obtain ⟨a', c', he, hs⟩ := h.ts
  cases he
  exact hs
theorem TOwn.kept {w w' : World} {B : Nat} {v : Value} {l : List ByteArray} (h : TOwn w B v l) (hb : Below w.heap.size w w') : TOwn w' B v l := by
  refine World.ownsRow.kept (row := none) h ⟨hb.os, hb.tape, hb.output, hb.size, fun k hk _ => hb.block k hk⟩ ?_
  cases hv : v.ownBlock with
  | none => exact Or.inl rfl
  | some k => exact Or.inr (by simp)
theorem TOwn.nil (w : World) (B : Nat) : TOwn w B (.slice none 0 0) [] := World.ownsRow_nil _ _ _ _
theorem TOwn.below {w w' : World} {B : Nat} {v : Value} {l : List ByteArray} (h : TOwn w B v l) (hg : w.grownBy w' v.ownBlock) (hB : B ≤ w.heap.size) : Below B w w' :=
  (Below.refl B w).grown hg hB (fun k hk => (World.ownsRow.lt h k hk).1)
theorem infoS : (Tryd.prog.info? 9).map (fun i => (i.zero, i.size, i.bytes)) = some (some (.string ⟨#[]⟩), 1, 16) := by kernel_rfl
/-- 'append(s, x...)', s of the call's own, x whatever slice. -/
theorem wp_append_t {w : World} {ops : Array Oper} {rest : List Oper} {o : Oper} {a : Act} {Q : Exit → Act → World → Prop}
    (hgd : o.guard = none) (s x : Operand) (ho : o.op = .call { callee := .builtin .append, args := #[s, x], argTypes := #[50, 50] })
    (v : Value) (l m : List ByteArray) (hs : a.eval s = v) (B : Nat) (hown : TOwn w B v l) (ad : Option Addr) (n c : Nat) (hx : a.eval x = .slice ad n c) (hsl : Ts w ad n c m)
    (hbytes : l.length + n ≤ 1000000) (hbase : B ≤ w.heap.size)
    (hK : ∀ w' ad' N' c', Hid (N' = (l ++ m).length) → TOwn w' B (.slice ad' N' c') (l ++ m) → Below B w w' → wpList Tryd.prog ops Q rest (a.put o.dst (.slice ad' N' c')) w') :
    wpList Tryd.prog ops Q (o :: rest) a w := by
  obtain ⟨i0, hi, hz0, hz1, hz2⟩ := info_parts infoS
  have hlen := hsl.len
  cases ad with
  | none =>
    obtain rfl := hsl.nil rfl
    have hn : n = 0 := by have := hsl.le; omega
    subst hn
    obtain rfl : m = [] := List.length_eq_zero_iff.1 hlen
    obtain ⟨ad', c', rfl, _⟩ := hown.ts
    refine wpList_append_own_none hgd s x _ ho B _ i0 1 Tryd.underlying50 hi _ l.length _ hs hown hx ?_
    have h := hK w ad' l.length c' (by simp [Hid]) (by simpa using hown) (Below.refl _ _)
    exact h
  | some p =>
    refine wpList_append_own w hgd s x _ ho B _ i0 (.string ⟨#[]⟩) 1 16 Tryd.underlying50 hi hz0 hz1 hz2 rfl (by decide) v l.length (tcells l) hs hown p n c (tcells m) hx
      (by rw [tcells_length]; omega) ?_ (tcells_one m) (by unfold maxLen; omega) (by omega) hbase ?_
    · intro j u hj
      have hjl : j < m.length := by
        have := (List.getElem?_eq_some_iff.1 hj).1
        simpa [tcells] using this
      obtain ⟨b, o', e, hc⟩ := hsl.row j hjl
      cases e
      rw [Addr.add_lit, hc]
      rw [tcells_get hjl] at hj
      exact hj
    · intro v' w' h1 h2 _
      have h1' : TOwn w' B v' (l ++ m) := by
        unfold TOwn
        rw [List.length_append, tcells_append, hlen]; exact h1
      obtain ⟨ad', c', rfl, _⟩ := h1'.ts
      exact hK w' ad' _ c' rfl h1' (hown.below h2 hbase)

/-- The values of a name. -/
def allM (L : List Hn) (x : ByteArray) : List ByteArray := (L.filter fun h => decide (h.1.1 = x)).map fun h => h.1.2
end Go.Proofs.YtgoglfahlfkbiaaDoor
