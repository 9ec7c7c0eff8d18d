/-
  THE KIT OF OUR WALKS: slices of bytes, whoever's memory they lie in ('Sl'), rows of bytes of the call's own ('Own'), 
-/
import Derived.Test.YtgoglfahlfkbiaaDoorRows
import Derived.Test.YtgoglfahlfkbiaaDoorHuM
import Derived.WalkKit
import Derived.ProofKit
import Derived.WalkLawsBesides
import Derived.WalkSpells
import Derived.Outline
import Derived.LoopTactic
import Derived.Deep.QuietTactic
import Derived.BigQuiet
import Derived.IntWalk
import Derived.Lib.Hide
import Derived.Laws.AppendOwnNone
import Derived.Laws.EntriesVeiled
import Derived.Deep.RegionLaw
import Derived.Deep.AppendLies
namespace Go.Proofs.YtgoglfahlfkbiaaDoor.Hu
open Go.RowKit

/-- The bytes of a list as cells. -/
def cellsOf (l : List UInt8) : List Value := l.map fun x => .int .u8 (x.toNat : Int)
theorem cellsOf_length (l : List UInt8) : (cellsOf l).length = l.length := by simp [cellsOf]
theorem cellsOf_append (l m : List UInt8) : cellsOf (l ++ m) = cellsOf l ++ cellsOf m := by simp [cellsOf]
theorem cellsOf_get {l : List UInt8} {j : Nat} (h : j < l.length) : (cellsOf l)[j]? = some (.int .u8 ((l[j]).toNat : Int)) := by simp [cellsOf, h]
theorem cellsOf_one (l : List UInt8) : ∀ u ∈ cellsOf l, u.oneCell' = true := by
  intro u hu
  obtain ⟨_, _, rfl⟩ := List.mem_map.1 hu
  rfl

/-- A slice (at a, of n bytes, of capacity c) reads as the bytes l. -/
structure Sl (w : World) (a : Option Addr) (n c : Nat) (l : List UInt8) : Prop where
  len : l.length = n
  le : n ≤ c
  max : c ≤ maxLen
  nil : a = none → c = 0
  row : ∀ i (h : i < l.length), ∃ b o, a = some ⟨b, o, none⟩ ∧ w.cell? ⟨b, o + i, none⟩ = some (.int .u8 ((l[i]).toNat : Int))

theorem Sl.cell {w : World} {b o n c : Nat} {l : List UInt8} (h : Sl w (some ⟨b, o, none⟩) n c l) {i : Nat} (hi : i < l.length) : w.cell? ⟨b, o + i, none⟩ = some (.int .u8 ((l[i]).toNat : Int)) := by
  obtain ⟨b', o', e, hc⟩ := h.row i hi
  cases e
  exact hc
theorem Sl.some {w : World} {a : Option Addr} {n c : Nat} {l : List UInt8} (h : Sl w a n c l) (hn : 0 < l.length) : ∃ b o, a = some ⟨b, o, none⟩ := by
  obtain ⟨b, o, e, _⟩ := h.row 0 hn
  exact ⟨b, o, e⟩
theorem Sl.nine {w : World} {a : Option Addr} {n c : Nat} {l : List UInt8} (h : Sl w a n c l) : n ≤ 9223372036854775807 := by
  have h1 := h.le; have h2 := h.max; unfold maxLen at h2; omega

theorem cell_lt {w : World} {p : Addr} {v : Value} (h : w.cell? p = some v) : p.block < w.heap.size := by
  rcases Nat.lt_or_ge p.block w.heap.size with h' | h'
  · exact h'
  · simp [World.cell?, Array.getElem?_eq_none h'] at h

/-- What lies in old memory stays. -/
theorem Sl.kept {w w' : World} {a : Option Addr} {n c : Nat} {l : List UInt8} (h : Sl w a n c l) (hb : Below w.heap.size w w') : Sl w' a n c l :=
  ⟨h.len, h.le, h.max, h.nil, fun i hi => by
    obtain ⟨b, o, e, hc⟩ := h.row i hi
    exact ⟨b, o, e, (hb.cell (p := ⟨b, o + i, none⟩) (cell_lt hc)).trans hc⟩⟩
theorem Sl.drewN {w : World} {a : Option Addr} {n c : Nat} {l : List UInt8} (h : Sl w a n c l) (q : Nat) : Sl (w.drewN q) a n c l :=
  ⟨h.len, h.le, h.max, h.nil, fun i hi => by
    obtain ⟨b, o, e, hc⟩ := h.row i hi
    exact ⟨b, o, e, by simpa using hc⟩⟩
theorem Sl.alloc {w : World} {a : Option Addr} {n c : Nat} {l : List UInt8} (h : Sl w a n c l) (o : Obj) : Sl (w.alloc o) a n c l :=
  h.kept ((Below.refl _ _).alloc (Nat.le_refl _) o)

/-- A row of bytes of the call's own, from block B on. -/
def Own (w : World) (B : Nat) (v : Value) (l : List UInt8) : Prop := w.ownsRow B 5 1 v l.length (cellsOf l)

theorem Own.sl {w : World} {B : Nat} {v : Value} {l : List UInt8} (h : Own w B v l) : ∃ a c, v = .slice a l.length c ∧ Sl w a l.length c l := by
  obtain ⟨h1, h2⟩ := h
  rcases h2 with ⟨rfl, h0⟩ | ⟨g, cap, cur, rfl, hg, hh, hn, hm, hs, ht⟩
  · have : l = [] := List.length_eq_zero_iff.1 h0
    subst this
    exact ⟨none, 0, rfl, rfl, Nat.le_refl _, by unfold maxLen; omega, fun _ => rfl, fun i hi => by simp at hi⟩
  · refine ⟨_, _, rfl, rfl, hn, hm, (fun h => by cases h), fun i hi => ⟨g, 0, rfl, ?_⟩⟩
    have e : (cellsOf l)[i]? = cur[i]? := by
      rw [← ht, List.getElem?_take_of_lt (by simpa using hi)]
      simp
    rw [cellsOf_get hi] at e
    simp [World.cell?, hh, ← e]

theorem Own.kept {w w' : World} {B : Nat} {v : Value} {l : List UInt8} (h : Own w B v l) (hb : Below w.heap.size w w') : Own w' B v l := by
  refine World.ownsRow.kept (row := none) h ⟨hb.os, hb.tape, hb.output, hb.size, fun k hk _ => hb.block k hk⟩ ?_
  cases hv : v.ownBlock with
  | none => exact Or.inl rfl
  | some k => exact Or.inr (by simp)
theorem Own.mono {w : World} {B B' : Nat} {v : Value} {l : List UInt8} (h : Own w B v l) (hB : B' ≤ B) : Own w B' v l := by
  obtain ⟨h1, h2⟩ := h
  refine ⟨h1, ?_⟩
  rcases h2 with h2 | ⟨g, cap, cur, hv, hg, r⟩
  · exact Or.inl h2
  · exact Or.inr ⟨g, cap, cur, hv, by omega, r⟩
theorem Own.nil (w : World) (B : Nat) : Own w B (.slice none 0 0) [] := World.ownsRow_nil _ _ _ _

theorem Own.len {w : World} {B : Nat} {a : Option Addr} {N c : Nat} {l : List UInt8} (h : Own w B (.slice a N c) l) : N = l.length := by
  obtain ⟨a', c', e, _⟩ := h.sl
  cases e
  rfl
theorem Own.below {w w' : World} {B : Nat} {v : Value} {l : List UInt8} (h : Own w B v l) (hg : w.grownBy w' v.ownBlock) (hB : B ≤ w.heap.size) : Below B w w' :=
  (Below.refl B w).grown hg hB (fun k hk => (World.ownsRow.lt h k hk).1)

/-- The element type's row of the table. -/
theorem info8 : (Tryd.prog.info? 5).map (fun i => (i.zero, i.size, i.bytes)) = some (some (.int .u8 0), 1, 1) := by kernel_rfl

/-- 'make([]byte, 0, n)'. -/
theorem wp_make_bytes {w : World} {ops : Array Oper} {rest : List Oper} {o : Oper} {a : Act} {Q : Exit → Act → World → Prop}
    (hg : o.guard = none) (l c : Operand) (hop : o.op = Op.makeSlice 91 l c) (C : Int) (hl : a.eval l = .int .i64 0) (hc : a.eval c = .int .i64 C)
    (h0 : 0 ≤ C) (hn : C ≤ 140737488355328) (B : Nat) (hB : B ≤ w.heap.size)
    (hK : ∀ w' ad, Own w' B (.slice ad 0 C.toNat) [] → Below w.heap.size w w' → wpList Tryd.prog ops Q rest (a.put o.dst (.slice ad 0 C.toNat)) w') :
    wpList Tryd.prog ops Q (o :: rest) a w := by
  obtain ⟨i0, hi, hz0, hz1, hz2⟩ := info_parts info8
  refine wpList_make_own w hg l c _ hop B _ i0 (.int .u8 0) 1 Tryd.underlying91 hi hz0 hz1 .i64 .i64 C C.toNat hl hc (by omega) (by rw [hz2]; omega) (by unfold maxLen; omega) hB ?_
  intro w' h1 h2
  exact hK w' _ h1 ((Below.refl _ w).grown h2 (Nat.le_refl _) (fun k hk => by cases hk))

/-- 'append(s, x...)', s of the call's own, x whatever slice. -/
theorem wp_append_bytes {w : World} {ops : Array Oper} {rest : List Oper} {o : Oper} {a : Act} {Q : Exit → Act → World → Prop}
    (hgd : o.guard = none) (s x : Operand) (ho : o.op = .call { callee := .builtin .append, args := #[s, x], argTypes := #[91, 91] })
    (v : Value) (l m : List UInt8) (hs : a.eval s = v) (B : Nat) (hown : Own w B v l) (ad : Option Addr) (n c : Nat) (hx : a.eval x = .slice ad n c) (hsl : Sl w ad n c m)
    (hbytes : l.length + n ≤ 140737488355328) (hbase : B ≤ w.heap.size)
    (hK : ∀ w' ad' N' c', Hid (N' = (l ++ m).length) → Own w' B (.slice ad' N' c') (l ++ m) → Below B w w' → wpList Tryd.prog ops Q rest (a.put o.dst (.slice ad' N' c')) w') :
    wpList Tryd.prog ops Q (o :: rest) a w := by
  obtain ⟨i0, hi, hz0, hz1, hz2⟩ := info_parts info8
  have hlen := hsl.len
  cases ad with
  | none =>
    obtain rfl := hsl.nil rfl
    have hn : n = 0 := by have := hsl.le; omega
    subst hn
    obtain rfl : m = [] := List.length_eq_zero_iff.1 hlen
    obtain ⟨ad', c', rfl, _⟩ := hown.sl
    refine wpList_append_own_none hgd s x _ ho B _ i0 1 Tryd.underlying91 hi _ l.length _ hs hown hx ?_
    have h := hK w ad' l.length c' (by simp [Hid]) (by simpa using hown) (Below.refl _ _)
    exact h
  | some p =>
    refine wpList_append_own w hgd s x _ ho B _ i0 (.int .u8 0) 1 1 Tryd.underlying91 hi hz0 hz1 hz2 rfl (by decide) v l.length (cellsOf l) hs hown p n c (cellsOf m) hx
      (by rw [cellsOf_length]; omega) ?_ (cellsOf_one m) (by unfold maxLen; omega) (by omega) hbase ?_
    · intro j u hj
      have hjl : j < m.length := by
        have := (List.getElem?_eq_some_iff.1 hj).1
        simpa [cellsOf] using this
      obtain ⟨b, o', e, hc⟩ := hsl.row j hjl
      cases e
      rw [Addr.add_lit, hc]
      rw [cellsOf_get hjl] at hj
      exact hj
    · intro v' w' h1 h2 _
      have h1' : Own w' B v' (l ++ m) := by
        unfold Own
        rw [List.length_append, cellsOf_append, hlen]; exact h1
      obtain ⟨ad', c', rfl, _⟩ := h1'.sl
      exact hK w' ad' _ c' rfl h1' (hown.below h2 hbase)

/-- 'append(s, x...)' as a step of a region that draws its order. -/
theorem step_append_bytes {w : World} {ops : Array Oper} {o : Oper} {a : Act} {K : Act → World → Prop} {Q : Exit → Act → World → Prop} {E : Prop}
    (hgd : o.guard = none) (s x : Operand) (ho : o.op = .call { callee := .builtin .append, args := #[s, x], argTypes := #[91, 91] })
    (v : Value) (l m : List UInt8) (hs : a.eval s = v) (B : Nat) (hown : Own w B v l) (ad : Option Addr) (n c : Nat) (hx : a.eval x = .slice ad n c) (hsl : Sl w ad n c m)
    (hbytes : l.length + n ≤ 140737488355328) (hbase : B ≤ w.heap.size)
    (hK : ∀ w' ad' N' c', Hid (N' = (l ++ m).length) → Own w' B (.slice ad' N' c') (l ++ m) → Below B w w' → K (a.put o.dst (.slice ad' N' c')) w') :
    if Region.wanted o (yielded ops a.tmps) = true then Oper.wp Tryd.prog o a w K Q else E := by
  have hw : Region.wanted o (yielded ops a.tmps) = true := by simp [Region.wanted, hgd]
  rw [if_pos hw]
  obtain ⟨i0, hi, hz0, hz1, hz2⟩ := info_parts info8
  have hlen := hsl.len
  cases ad with
  | none =>
    obtain rfl := hsl.nil rfl
    have hn : n = 0 := by have := hsl.le; omega
    subst hn
    obtain rfl : m = [] := List.length_eq_zero_iff.1 hlen
    obtain ⟨ad', c', rfl, _⟩ := hown.sl
    have hrun := run_append_owned_none (P := Tryd.prog) (w := w) B 91 o.type _ i0 1 Tryd.underlying91 hi _ l.length _ hown
    unfold Oper.wp
    simp [execOp, ho, resolve, invoke, builtin, hs, hx, hrun, Result.andThen]
    exact hK w ad' l.length c' (by simp [Hid]) (by simpa using hown) (Below.refl _ _)
  | some p =>
    obtain ⟨v', w', hr, h2, h3, _, _⟩ := run_append_own_at (P := Tryd.prog) w B 91 o.type _ i0 (.int .u8 0) 1 1 Tryd.underlying91 hi hz0 hz1 hz2 rfl (by decide) v l.length (cellsOf l) hown p n c (cellsOf m)
      (by rw [cellsOf_length]; omega) (fun j u hj => by
        have hjl : j < m.length := by
          have := (List.getElem?_eq_some_iff.1 hj).1
          simpa [cellsOf] using this
        obtain ⟨b, o', e, hc⟩ := hsl.row j hjl
        cases e
        rw [Addr.add_lit, hc]
        rw [cellsOf_get hjl] at hj
        exact hj) (cellsOf_one m) (by unfold maxLen; omega) (by omega) hbase
    have h1' : Own w' B v' (l ++ m) := by
      unfold Own
      rw [List.length_append, cellsOf_append, hlen]; exact h2
    obtain ⟨ad', c', rfl, _⟩ := h1'.sl
    unfold Oper.wp
    simp [execOp, ho, resolve, invoke, builtin, hs, hx, hr, Result.andThen]
    have hfin := hK w' ad' (l ++ m).length c' (Lib.hid rfl) h1' (hown.below h3 hbase)
    rw [List.length_append] at hfin
    exact hfin

/-- A new block of one, of two bytes. -/
theorem sl_new1 (w : World) (y : Int) (x : UInt8) (h : y = (x.toNat : Int)) : Sl (w.alloc (.cells #[.int .u8 y] 5)) (some ⟨w.heap.size, 0, none⟩) 1 1 [x] := by
  subst h
  refine ⟨rfl, Nat.le_refl _, by unfold maxLen; omega, (fun h => by cases h), fun i hi => ⟨_, _, rfl, ?_⟩⟩
  obtain rfl : i = 0 := by simpa using hi
  simp
theorem sl_new2 (w : World) (y z : Int) (x1 x2 : UInt8) (h : y = (x1.toNat : Int)) (h2 : z = (x2.toNat : Int)) : Sl (w.alloc (.cells #[.int .u8 y, .int .u8 z] 5)) (some ⟨w.heap.size, 0, none⟩) 2 2 [x1, x2] := by
  subst h h2
  refine ⟨rfl, Nat.le_refl _, by unfold maxLen; omega, (fun h => by cases h), fun i hi => ⟨_, _, rfl, ?_⟩⟩
  have : i = 0 ∨ i = 1 := by simp at hi; omega
  rcases this with rfl | rfl <;> simp

theorem Own.alloc {w : World} {B : Nat} {v : Value} {l : List UInt8} (h : Own w B v l) (o : Obj) : Own (w.alloc o) B v l := World.ownsRow.alloc h o

theorem ret_u64 {x y : Int} {v v' w w' : Value} (h : x = y) (h2 : (v, w) = (v', w')) : Ending.returned (.tuple #[.int .u64 x, v, w]) = .returned (.tuple #[.int .u64 y, v', w']) := by
  cases h; cases h2; rfl

theorem elem8 : Tryd.prog.underlying 91 = some (.slice (Tryd.prog.elem 91)) := by kernel_rfl
theorem sizeOf8 (w : World) : (sizeOf (Tryd.prog.elem 91)).run Tryd.prog w = .ok 1 w := by kernel_rfl
/-- Where a part of a slice begins. -/
def partAt (a : Option Addr) (c lo : Nat) : Option Addr := if c = lo then a else a.map (·.add (lo * 1))
theorem sl_part {w : World} {a : Option Addr} {n c : Nat} {l : List UInt8} (h : Sl w a n c l) (lo N : Nat) (h2 : lo + N ≤ n) (l' : List UInt8) (hl' : l' = (l.drop lo).take N) : Sl w (partAt a c lo) N (c - lo) l' := by
  have hlen := h.len
  have hle := h.le
  have hmx := h.max
  subst hl'
  refine ⟨by simp; omega, by omega, by omega, fun hn => ?_, fun i hi => ?_⟩
  · unfold partAt at hn
    split at hn
    · rename_i hc; omega
    · cases a with
      | none => have := h.nil rfl; omega
      | some p => simp at hn
  · simp at hi
    obtain ⟨b, o, e, hc⟩ := h.row (lo + i) (by omega)
    subst e
    refine ⟨b, o + lo, ?_, ?_⟩
    · unfold partAt
      rw [if_neg (by omega)]
      simp [Addr.add_lit]
    · rw [show o + lo + i = o + (lo + i) by omega, hc]
      simp
theorem slice_lh (a : Option Addr) (n c : Nat) (lo hi : Int) (h0 : 0 ≤ lo) (h1 : lo ≤ hi) (h2 : hi ≤ c) (N C : Nat) (hN : N = hi.toNat - lo.toNat) (hC : C = c - lo.toNat) (L : Nat) (hL : L = lo.toNat) (w : World) :
    (Instr.slice 91 (.slice a n c) (some (.int .i64 lo)) (some (.int .i64 hi)) none).run Tryd.prog w = .ok (.slice (partAt a c L) N C) w := by
  subst hN hC hL
  rw [run_slice_lh w _ _ _ _ elem8 .i64 .i64 lo hi h0 h1 h2, sizeOf8]
  rfl
theorem slice_l (a : Option Addr) (n c : Nat) (lo : Int) (h0 : 0 ≤ lo) (h1 : lo ≤ n) (N C : Nat) (hN : N = n - lo.toNat) (hC : C = c - lo.toNat) (L : Nat) (hL : L = lo.toNat) (w : World) :
    (Instr.slice 91 (.slice a n c) (some (.int .i64 lo)) none none).run Tryd.prog w = .ok (.slice (partAt a c L) N C) w := by
  subst hN hC hL
  rw [run_slice_l w _ _ _ _ elem8 .i64 lo h0 h1, sizeOf8]
  rfl
theorem slice_h (a : Option Addr) (n c : Nat) (hi : Int) (h0 : 0 ≤ hi) (h2 : hi ≤ c) (N : Nat) (hN : N = hi.toNat) (w : World) :
    (Instr.slice 91 (.slice a n c) none (some (.int .i64 hi)) none).run Tryd.prog w = .ok (.slice (partAt a c 0) N c) w := by
  subst hN
  rw [run_slice_h w _ _ _ _ elem8 .i64 hi h0 h2, sizeOf8]
  rfl

theorem below_drewN (w : World) (q : Nat) : Below w.heap.size w (w.drewN q) :=
  ⟨rfl, rfl, rfl, Nat.le_refl _, fun _ _ => rfl⟩
theorem bdN {B : Nat} {a w : World} (h : Below B a w) (n : Nat) : Below B a (w.drewN n) := h.trans ⟨rfl, rfl, rfl, Nat.le_refl _, fun _ _ => rfl⟩
theorem bcell {W w1 : World} (hb : Below W.heap.size W w1) : (∀ b o, b < W.heap.size → w1.cell? ⟨b, o, none⟩ = W.cell? ⟨b, o, none⟩) ∧ (∀ b o, b < W.heap.size → w1.frozen? ⟨b, o, none⟩ = W.frozen? ⟨b, o, none⟩) :=
  ⟨fun b o h => hb.cell (p := ⟨b, o, none⟩) h, fun b o h => hb.frozen (p := ⟨b, o, none⟩) h⟩

end Go.Proofs.YtgoglfahlfkbiaaDoor.Hu
