/-
  KIT: 'append' behind a guard; literals of bytes.
-/
import Derived.Test.YtefdkbdblocikaaDoorK
namespace Go.Proofs.YtefdkbdblocikaaDoor
open Go.RowKit Hu

/-- 'append(s, x...)' as a step, where its guard lets it. -/
theorem step_append_g {w : World} {ops : Array Oper} {o : Oper} {a : Act} {K : Act → World → Prop} {Q : Exit → Act → World → Prop} {E : Prop}
    (hw : Region.wanted o (yielded ops a.tmps) = true) (s x : Operand) (ho : o.op = .call { callee := .builtin .append, args := #[s, x], argTypes := #[22, 22] })
    (v : Value) (l m : List UInt8) (hs : a.eval s = v) (B : Nat) (hown : Hu.Own w B v l) (ad : Option Addr) (n c : Nat) (hx : a.eval x = .slice ad n c) (hsl : Sl w ad n c m)
    (hbytes : l.length + n ≤ 140737488355328) (hbase : B ≤ w.heap.size)
    (hK : ∀ w' ad' N' c', Hid (N' = (l ++ m).length) → Hu.Own w' B (.slice ad' N' c') (l ++ m) → Below B w w' → K (a.put o.dst (.slice ad' N' c')) w') :
    if Region.wanted o (yielded ops a.tmps) = true then Oper.wp Tryd.prog o a w K Q else E := by
  rw [if_pos hw]
  obtain ⟨i0, hi, hz0, hz1, hz2⟩ := info_parts Hu.info8
  have hlen := hsl.len
  cases ad with
  | none =>
    obtain rfl := hsl.nil rfl
    have hn : n = 0 := by have := hsl.le; omega
    subst hn
    obtain rfl : m = [] := List.length_eq_zero_iff.1 hlen
    obtain ⟨ad', c', rfl, _⟩ := hown.sl
    have hrun := run_append_owned_none (P := Tryd.prog) (w := w) B 22 o.type _ i0 1 Tryd.underlying22 hi _ l.length _ hown
    unfold Oper.wp
    simp [execOp, ho, resolve, invoke, builtin, hs, hx, hrun, Result.andThen]
    exact hK w ad' l.length c' (by simp [Hid]) (by simpa using hown) (Below.refl _ _)
  | some p =>
    obtain ⟨v', w', hr, h2, h3, _, _⟩ := run_append_own_at (P := Tryd.prog) w B 22 o.type _ i0 (.int .u8 0) 1 1 Tryd.underlying22 hi hz0 hz1 hz2 rfl (by decide) v l.length (cellsOf l) hown p n c (cellsOf m)
      (by rw [cellsOf_length]; omega) (fun j u hj => by
        have hjl : j < m.length := by
          have := (List.getElem?_eq_some_iff.1 hj).1
          simpa [cellsOf] using this
        obtain ⟨b, o', e, hc⟩ := hsl.row j hjl
        cases e
        rw [Addr.add_lit, hc]
        rw [cellsOf_get hjl] at hj
        exact hj) (cellsOf_one m) (by unfold maxLen; omega) (by omega) hbase
    have h1' : Hu.Own w' B v' (l ++ m) := by
      unfold Hu.Own
      rw [List.length_append, cellsOf_append, hlen]; exact h2
    obtain ⟨ad', c', rfl, _⟩ := h1'.sl
    unfold Oper.wp
    simp [execOp, ho, resolve, invoke, builtin, hs, hx, hr, Result.andThen]
    have hfin := hK w' ad' (l ++ m).length c' (Lib.hid rfl) h1' (hown.below h3 hbase)
    rw [List.length_append] at hfin
    exact hfin

/-- 'append(s, x...)' behind a guard that lets it. -/
theorem wp_append_g {w : World} {ops : Array Oper} {rest : List Oper} {o : Oper} {a : Act} {Q : Exit → Act → World → Prop}
    (hw : Region.wanted o (yielded ops a.tmps) = true) (s x : Operand) (ho : o.op = .call { callee := .builtin .append, args := #[s, x], argTypes := #[22, 22] })
    (v : Value) (l m : List UInt8) (hs : a.eval s = v) (B : Nat) (hown : Hu.Own w B v l) (ad : Option Addr) (n c : Nat) (hx : a.eval x = .slice ad n c) (hsl : Sl w ad n c m)
    (hbytes : l.length + n ≤ 140737488355328) (hbase : B ≤ w.heap.size)
    (hK : ∀ w' ad' N' c', Hid (N' = (l ++ m).length) → Hu.Own w' B (.slice ad' N' c') (l ++ m) → Below B w w' → wpList Tryd.prog ops Q rest (a.put o.dst (.slice ad' N' c')) w') :
    wpList Tryd.prog ops Q (o :: rest) a w :=
  wpList_step fun _ hK' => step_append_g hw s x ho v l m hs B hown ad n c hx hsl hbytes hbase (fun w' ad' N' c' h1 h2 h3 => hK' _ _ (hK w' ad' N' c' h1 h2 h3))
/-- A literal of bytes. -/
theorem sl_lit (w : World) (cs : Array Value) (l : List UInt8) (h : cs.toList = cellsOf l) (h2 : l.length ≤ 1000000) : Sl (w.alloc (.cells cs 5)) (some ⟨w.heap.size, 0, none⟩) l.length l.length l := by
  refine ⟨rfl, Nat.le_refl _, by unfold maxLen; omega, (fun h => by cases h), fun i hi => ⟨_, _, rfl, ?_⟩⟩
  have hb := (MapKept.heap_alloc w (.cells cs 5)).1
  simp only [World.cell?, hb]
  have : cs[i]? = some (.int .u8 ((l[i]).toNat : Int)) := by
    rw [← Array.getElem?_toList, h, cellsOf_get hi]
  simpa using this
end Go.Proofs.YtefdkbdblocikaaDoor
