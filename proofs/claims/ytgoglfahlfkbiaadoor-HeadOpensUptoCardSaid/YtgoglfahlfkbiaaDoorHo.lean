/-
  HeadOpens: the contracts in one form; structures in memory; a header of one's own is spoilt.
-/
import Derived.Test.YtgoglfahlfkbiaaDoorDh
import Derived.Test.YtgoglfahlfkbiaaDoorDj
import Derived.Test.YtgoglfahlfkbiaaDoorDk
import Derived.Test.YtgoglfahlfkbiaaDoorBs
import Derived.Test.YtgoglfahlfkbiaaDoorLh
import Derived.Test.YtgoglfahlfkbiaaDoorHuU
namespace Go.Proofs.YtgoglfahlfkbiaaDoor
open Go.RowKit Tt

theorem errO_seen {w : World} {es : Nat → Addr} (S : Hu.Sent w es) (ok : Bool) (W : World) (h : Below w.heap.size w W) : Hu.Seen W (errO (es 11) ok) (hdC ok) := by
  cases ok with
  | true => exact Hu.seen_nil W
  | false => exact Hu.seen_err (S.kept h) (i := 11) (by decide)
def reqO : Option (RQ × List Hn) → RQ
  | none => q0
  | some (q, _) => q
def rstO {α : Type} : Option (α × List Hn) → List Hn
  | none => []
  | some (_, R) => R
def numO : Option (Nat × List Hn) → Int
  | none => 0
  | some (k, _) => (k : Int)
def lenK : Option (Nat × Bool) → Int
  | none => 0
  | some (k, _) => (k : Int)
def lenB : Option (Nat × Bool) → Bool
  | none => false
  | some (_, b) => b
/-- A request and a fault, as they are answered. -/
def RqP (q : RQ) (R : List Hn) (v : Value) (w : World) (e : Ending) (w' : World) : Prop := ∃ a N c, e = .returned (.tuple #[reqV q (.slice a N c), v]) ∧ NOwn w' w.heap.size (.slice a N c) R ∧ Below w.heap.size w w'
/-- An answer and a fault. -/
def AnP (k : Int) (R : List Hn) (v : Value) (w : World) (e : Ending) (w' : World) : Prop := ∃ a N c, e = .returned (.tuple #[ansV k (.slice a N c), v]) ∧ NOwn w' w.heap.size (.slice a N c) R ∧ Below w.heap.size w w'
/-- A length, whether there is one, a fault. -/
def LnP (k : Int) (b : Bool) (v : Value) (w : World) (e : Ending) (w' : World) : Prop := e = .returned (.tuple #[.int .i64 k, .bool b, v]) ∧ Below w.heap.size w w'
/-- A value that is answered, where only new memory is written. -/
def OnP (v : Value) (w : World) (e : Ending) (w' : World) : Prop := e = .returned v ∧ Below w.heap.size w w'
theorem rq_open {L : List Hn} {w : World} {ea : Addr} {f : FuncId} {args : Array Value} (h : Calls Tryd.prog f args w (OpenPost L (errV ea) w)) : Calls Tryd.prog f args w (RqP (reqO (openR L)) (rstO (openR L)) (errO ea (openR L).isSome) w) := by
  refine h.mono fun e w' hp => ?_
  unfold OpenPost at hp
  obtain ⟨hb, hp⟩ := hp
  cases ho : openR L with
  | none => rw [ho] at hp; exact ⟨none, 0, 0, hp, NOwn.nil _ _, hb⟩
  | some x =>
    obtain ⟨q, R⟩ := x
    rw [ho] at hp
    obtain ⟨a, N, c, he, hn⟩ := hp
    exact ⟨a, N, c, he, hn, hb⟩
theorem rq_dopen {L : List Hn} {w : World} {f : FuncId} {args : Array Value} (h : Calls Tryd.prog f args w (DOpenPost L w)) : Calls Tryd.prog f args w (RqP (reqO (openR L)) (rstO (openR L)) (.int .i64 (hdC (openR L).isSome)) w) := by
  refine h.mono fun e w' hp => ?_
  unfold DOpenPost at hp
  rw [← open_dopen] at hp
  obtain ⟨hb, hp⟩ := hp
  cases ho : openR L with
  | none => rw [ho] at hp; exact ⟨none, 0, 0, hp, NOwn.nil _ _, hb⟩
  | some x =>
    obtain ⟨q, R⟩ := x
    rw [ho] at hp
    obtain ⟨a, N, c, he, hn⟩ := hp
    exact ⟨a, N, c, he, hn, hb⟩
theorem an_open {L : List Hn} {w : World} {ea : Addr} {f : FuncId} {args : Array Value} (h : Calls Tryd.prog f args w (OpenAPost L (errV ea) w)) : Calls Tryd.prog f args w (AnP (numO (openA L)) (rstO (openA L)) (errO ea (openA L).isSome) w) := by
  refine h.mono fun e w' hp => ?_
  unfold OpenAPost at hp
  obtain ⟨hb, hp⟩ := hp
  cases ho : openA L with
  | none => rw [ho] at hp; exact ⟨none, 0, 0, hp, NOwn.nil _ _, hb⟩
  | some x =>
    obtain ⟨q, R⟩ := x
    rw [ho] at hp
    obtain ⟨a, N, c, he, hn⟩ := hp
    exact ⟨a, N, c, he, hn, hb⟩
theorem an_dopen {L : List Hn} {w : World} {f : FuncId} {args : Array Value} (h : Calls Tryd.prog f args w (DOpenAPost L w)) : Calls Tryd.prog f args w (AnP (numO (openA L)) (rstO (openA L)) (.int .i64 (hdC (openA L).isSome)) w) := by
  refine h.mono fun e w' hp => ?_
  unfold DOpenAPost at hp
  rw [← open_dopenA] at hp
  obtain ⟨hb, hp⟩ := hp
  cases ho : openA L with
  | none => rw [ho] at hp; exact ⟨none, 0, 0, hp, NOwn.nil _ _, hb⟩
  | some x =>
    obtain ⟨q, R⟩ := x
    rw [ho] at hp
    obtain ⟨a, N, c, he, hn⟩ := hp
    exact ⟨a, N, c, he, hn, hb⟩
theorem ln_len {L : List Hn} {w : World} {ea : Addr} {f : FuncId} {args : Array Value} (h : Calls Tryd.prog f args w (LenPost L (errV ea) w)) : Calls Tryd.prog f args w (LnP (lenK (lenR L)) (lenB (lenR L)) (errO ea (lenR L).isSome) w) := by
  refine h.mono fun e w' hp => ?_
  obtain ⟨he, hb⟩ := hp
  refine ⟨he.trans ?_, hb⟩
  cases lenR L <;> rfl
theorem ln_dlen {L : List Hn} {w : World} {f : FuncId} {args : Array Value} (h : Calls Tryd.prog f args w (DLenPost L w)) : Calls Tryd.prog f args w (LnP (lenK (lenR L)) (lenB (lenR L)) (.int .i64 (hdC (lenR L).isSome)) w) := by
  refine h.mono fun e w' hp => ?_
  obtain ⟨he, hb⟩ := hp
  refine ⟨he.trans ?_, hb⟩
  cases lenR L <;> rfl
theorem on_trail {L : List Hn} {w : World} {ea : Addr} {f : FuncId} {args : Array Value} (h : Calls Tryd.prog f args w (TrPost L (errV ea) w)) : Calls Tryd.prog f args w (OnP (errO ea (trailB L)) w) := h.mono fun _ _ hp => hp

/-- A request in memory. -/
structure Rq5 (W : World) (P : Nat) (q : RQ) (v : Value) : Prop where
  lt : P < W.heap.size
  c0 : W.cell? ⟨P, 0, none⟩ = some (.string q.m)
  c1 : W.cell? ⟨P, 1, none⟩ = some (.string q.s)
  c2 : W.cell? ⟨P, 2, none⟩ = some (.string q.a)
  c3 : W.cell? ⟨P, 3, none⟩ = some (.string q.p)
  c4 : W.cell? ⟨P, 4, none⟩ = some v
theorem Rq5.kept {W W' : World} {P : Nat} {q : RQ} {v : Value} (h : Rq5 W P q v) (hb : Below W.heap.size W W') : Rq5 W' P q v :=
  ⟨Nat.lt_of_lt_of_le h.lt hb.size, (hb.cell (p := ⟨P, 0, none⟩) h.lt).trans h.c0, (hb.cell (p := ⟨P, 1, none⟩) h.lt).trans h.c1, (hb.cell (p := ⟨P, 2, none⟩) h.lt).trans h.c2, (hb.cell (p := ⟨P, 3, none⟩) h.lt).trans h.c3, (hb.cell (p := ⟨P, 4, none⟩) h.lt).trans h.c4⟩
/-- An answer in memory. -/
structure An2 (W : World) (P : Nat) (k : Int) (v : Value) : Prop where
  lt : P < W.heap.size
  c0 : W.cell? ⟨P, 0, none⟩ = some (.int .i64 k)
  c1 : W.cell? ⟨P, 1, none⟩ = some v
theorem An2.kept {W W' : World} {P : Nat} {k : Int} {v : Value} (h : An2 W P k v) (hb : Below W.heap.size W W') : An2 W' P k v :=
  ⟨Nat.lt_of_lt_of_le h.lt hb.size, (hb.cell (p := ⟨P, 0, none⟩) h.lt).trans h.c0, (hb.cell (p := ⟨P, 1, none⟩) h.lt).trans h.c1⟩
/-- All that a new request brings. -/
theorem rq_new {w0 w w4 : World} {t : TypeId} {q : RQ} {a : Option Addr} {N c : Nat} {R : List Hn} (h : NOwn w4 w.heap.size (.slice a N c) R) (hb : Below w.heap.size w w4) (hB : Below w0.heap.size w0 w) :
    Rq5 (w4.alloc (.cells #[.string q.m, .string q.s, .string q.a, .string q.p, .slice a N c] t)) w4.heap.size q (.slice a N c) ∧ NOwn (w4.alloc (.cells #[.string q.m, .string q.s, .string q.a, .string q.p, .slice a N c] t)) w.heap.size (.slice a N c) R ∧ Below w0.heap.size w0 (w4.alloc (.cells #[.string q.m, .string q.s, .string q.a, .string q.p, .slice a N c] t)) ∧ Below w.heap.size w (w4.alloc (.cells #[.string q.m, .string q.s, .string q.a, .string q.p, .slice a N c] t)) ∧ N = R.length ∧ (∀ g o, a = some ⟨g, o, none⟩ → w.heap.size ≤ g ∧ g < w4.heap.size) ∧ w.heap.size ≤ w4.heap.size := by
  refine ⟨⟨by simp, by simp, by simp, by simp, by simp, by simp⟩, h.alloc _, ?_, hb.alloc hb.size _, ?_, ?_, hb.size⟩
  · exact (hB.trans (hb.mono hB.size)).alloc (Nat.le_trans hB.size hb.size) _
  · obtain ⟨a', c', he, _⟩ := h.ns
    cases he
    rfl
  · intro g o ha
    obtain ⟨_, h2⟩ := h
    rcases h2 with ⟨h2, _⟩ | ⟨g', cap', cur, hv, hg, hh, _⟩
    · cases h2; cases ha
    · cases hv
      cases ha
      exact ⟨hg, (Array.getElem?_eq_some_iff.1 hh).1⟩
theorem an_new {w0 w w4 : World} {t : TypeId} {k : Int} {a : Option Addr} {N c : Nat} {R : List Hn} (h : NOwn w4 w.heap.size (.slice a N c) R) (hb : Below w.heap.size w w4) (hB : Below w0.heap.size w0 w) :
    An2 (w4.alloc (.cells #[.int .i64 k, .slice a N c] t)) w4.heap.size k (.slice a N c) ∧ NOwn (w4.alloc (.cells #[.int .i64 k, .slice a N c] t)) w.heap.size (.slice a N c) R ∧ Below w0.heap.size w0 (w4.alloc (.cells #[.int .i64 k, .slice a N c] t)) ∧ Below w.heap.size w (w4.alloc (.cells #[.int .i64 k, .slice a N c] t)) ∧ N = R.length ∧ (∀ g o, a = some ⟨g, o, none⟩ → w.heap.size ≤ g ∧ g < w4.heap.size) ∧ w.heap.size ≤ w4.heap.size := by
  refine ⟨⟨by simp, by simp, by simp⟩, h.alloc _, ?_, hb.alloc hb.size _, ?_, ?_, hb.size⟩
  · exact (hB.trans (hb.mono hB.size)).alloc (Nat.le_trans hB.size hb.size) _
  · obtain ⟨a', c', he, _⟩ := h.ns
    cases he
    rfl
  · intro g o ha
    obtain ⟨_, h2⟩ := h
    rcases h2 with ⟨h2, _⟩ | ⟨g', cap', cur, hv, hg, hh, _⟩
    · cases h2; cases ha
    · cases hv
      cases ha
      exact ⟨hg, (Array.getElem?_eq_some_iff.1 hh).1⟩

/-- Only the block of a row is written. -/
def Tch (a : Option Addr) (w w' : World) : Prop := w.heap.size ≤ w'.heap.size ∧ ∀ k, k < w.heap.size → (∀ o, a ≠ some ⟨k, o, none⟩) → w'.heap[k]? = w.heap[k]?
theorem Tch.refl (a : Option Addr) (w : World) : Tch a w w := ⟨Nat.le_refl _, fun _ _ _ => rfl⟩
theorem Tch.step {a : Option Addr} {w w1 w2 : World} (h : Tch a w w1) (h2 : Tch a w1 w2) : Tch a w w2 := ⟨Nat.le_trans h.1 h2.1, fun k hk hn => (h2.2 k (Nat.lt_of_lt_of_le hk h.1) hn).trans (h.2 k hk hn)⟩
theorem Tch.of {a : Option Addr} {w w' : World} (h : Below w.heap.size w w') : Tch a w w' := ⟨h.size, fun k hk _ => h.block k hk⟩
theorem Tch.set {w : World} {g i : Nat} {v : Value} : Tch (some ⟨g, 0, none⟩) w (w.setCell ⟨g, i, none⟩ v) := ⟨by simp [World.setCell], fun k _ hn => Below.heap_setCell _ _ _ _ (fun e => hn 0 (by rw [e]))⟩
theorem Tch.cell {a : Option Addr} {w w' : World} {P i : Nat} (h : Tch a w w') (hP : P < w.heap.size) (hn : ∀ o, a ≠ some ⟨P, o, none⟩) : w'.cell? ⟨P, i, none⟩ = w.cell? ⟨P, i, none⟩ := by
  simp only [World.cell?, h.2 P hP hn]
theorem Rq5.tch {a : Option Addr} {W W' : World} {P : Nat} {q : RQ} {v : Value} (h : Rq5 W P q v) (ht : Tch a W W') (hn : ∀ o, a ≠ some ⟨P, o, none⟩) : Rq5 W' P q v :=
  ⟨Nat.lt_of_lt_of_le h.lt ht.1, (ht.cell h.lt hn).trans h.c0, (ht.cell h.lt hn).trans h.c1, (ht.cell h.lt hn).trans h.c2, (ht.cell h.lt hn).trans h.c3, (ht.cell h.lt hn).trans h.c4⟩
theorem An2.tch {a : Option Addr} {W W' : World} {P : Nat} {k : Int} {v : Value} (h : An2 W P k v) (ht : Tch a W W') (hn : ∀ o, a ≠ some ⟨P, o, none⟩) : An2 W' P k v :=
  ⟨Nat.lt_of_lt_of_le h.lt ht.1, (ht.cell h.lt hn).trans h.c0, (ht.cell h.lt hn).trans h.c1⟩
/-- Another row of one's own, that lies in later blocks. -/
theorem NOwn.tch {a : Option Addr} {W W' : World} {B : Nat} {v : Value} {L : List Hn} (h : NOwn W B v L) (ht : Tch a W W') (hn : ∀ g o, a = some ⟨g, o, none⟩ → g < B) : NOwn W' B v L := by
  obtain ⟨h1, h2⟩ := h
  refine ⟨h1, ?_⟩
  rcases h2 with h2 | ⟨g, cap, cur, hv, hg, hh, q⟩
  · exact Or.inl h2
  · refine Or.inr ⟨g, cap, cur, hv, hg, (ht.2 g (Array.getElem?_eq_some_iff.1 hh).1 fun o e => ?_).trans hh, q⟩
    have := hn g o e
    omega
theorem ncells_set1 : ∀ (l : List Hn) (i : Nat) (s : ByteArray) (h : i < l.length), (ncells l).set (i * 3) (.string s) = ncells (l.set i ((s, (l[i]).1.2), (l[i]).2))
  | [], i, s, h => by simp at h
  | x :: l, 0, s, _ => rfl
  | x :: l, i + 1, s, h => by
    have := ncells_set1 l i s (by simpa using h)
    rw [show (i + 1) * 3 = i * 3 + 3 by omega]
    simp [ncells, this]
theorem NOwn.setN {w : World} {B g n c : Nat} {l : List Hn} (h : NOwn w B (.slice (some ⟨g, 0, none⟩) n c) l) {i : Nat} (hi : i < l.length) (s : ByteArray) :
    NOwn (w.setCell ⟨g, i * 3, none⟩ (.string s)) B (.slice (some ⟨g, 0, none⟩) n c) (l.set i ((s, (l[i]).1.2), (l[i]).2)) := by
  unfold NOwn
  rw [List.length_set, ← ncells_set1]
  exact ownsRow_set h _ _
end Go.Proofs.YtgoglfahlfkbiaaDoor
