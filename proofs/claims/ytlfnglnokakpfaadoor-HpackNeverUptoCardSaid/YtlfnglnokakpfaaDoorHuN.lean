/-
  CONTRACTS: size; the book of codes (newBook).
-/
import Derived.Test.YtlfnglnokakpfaaDoorHuK
import Derived.Deep.MidRow
import Derived.Deep.RegionHeld3
namespace Go.Proofs.YtlfnglnokakpfaaDoor.Hu
open Go.RowKit Hf

/-- The letters, as the code has them. -/
def lets : ByteArray := ⟨#[105, 115, 120, 120, 120, 120, 120, 120, 120, 116, 122, 120, 120, 122, 120, 120, 120, 120, 120, 120, 120, 120, 122, 120, 120, 120, 120, 120, 120, 120, 120, 120, 98, 102, 102, 104, 105, 98, 100, 103, 102, 102, 100, 103, 100, 98, 98, 98, 97, 97, 97, 98, 98, 98, 98, 98, 98, 98, 99, 100, 107, 98, 104, 102, 105, 98, 99, 99, 99, 99, 99, 99, 99, 99, 99, 99, 99, 99, 99, 99, 99, 99, 99, 99, 99, 99, 99, 99, 100, 99, 100, 105, 111, 105, 106, 98, 107, 97, 98, 97, 98, 97, 98, 98, 98, 97, 99, 99, 98, 98, 98, 97, 98, 99, 98, 97, 97, 98, 99, 99, 99, 99, 99, 107, 103, 106, 105, 120, 112, 114, 112, 112, 114, 114, 114, 115, 114, 115, 115, 115, 115, 115, 116, 115, 116, 116, 114, 115, 116, 115, 115, 115, 115, 113, 114, 115, 114, 115, 115, 116, 114, 113, 112, 114, 114, 115, 115, 113, 115, 114, 114, 116, 113, 114, 115, 115, 113, 113, 114, 113, 115, 114, 115, 115, 112, 114, 114, 114, 115, 114, 114, 115, 118, 118, 112, 111, 114, 115, 114, 117, 118, 118, 118, 119, 119, 118, 116, 117, 111, 113, 118, 119, 119, 118, 119, 116, 113, 113, 118, 118, 120, 119, 119, 119, 112, 116, 112, 113, 114, 113, 113, 115, 114, 114, 117, 117, 116, 116, 118, 115, 118, 119, 118, 118, 119, 119, 119, 119, 119, 120, 119, 119, 119, 119, 119, 118, 122]⟩
theorem lets_size : lets.size = 257 := by decide +kernel
theorem lets_all : ∀ s, (h : s < 257) → ((((lets[s]'(by rw [lets_size]; exact h)).toNat : Int) - 97) % 256 + 5 = (sz s : Int)) := by decide +kernel
theorem ret_int {k : IntKind} {a b : Int} (h : a = b) : Ending.returned (.int k a) = .returned (.int k b) := by rw [h]

set_option maxRecDepth 100000 in
theorem size_any (s : Nat) (h : s < 257) (w : World) : Calls Tryd.prog 92 #[.int .i64 (s : Int)] w fun e w' => e = .returned (.int .i64 (sz s : Int)) ∧ w = w' := by
  go_enter Tryd.func92, Tryd.ntmps92
  go_wp2
  go_ret
  exact ⟨ret_int (lets_all s h), rfl⟩

/-- A book that is being made, in block b: the codes, the symbols in the codes' order, of each number of bits the first code, how many, how many ahead. -/
structure Bk (w : World) (b : Nat) (c o f n a : Nat → Nat) : Prop where
  lt : b < w.heap.size
  c : ∀ i, i < 257 → w.cell? ⟨b, i, none⟩ = some (.int .u32 (c i : Int))
  o : ∀ i, i < 257 → w.cell? ⟨b, 257 + i, none⟩ = some (.int .i64 (o i : Int))
  f : ∀ i, i < 31 → w.cell? ⟨b, 514 + i, none⟩ = some (.int .u32 (f i : Int))
  n : ∀ i, i < 31 → w.cell? ⟨b, 545 + i, none⟩ = some (.int .u32 (n i : Int))
  a : ∀ i, i < 31 → w.cell? ⟨b, 576 + i, none⟩ = some (.int .u32 (a i : Int))
  z : ∀ i, w.frozen? ⟨b, i, none⟩ = false

theorem zc_u : ∀ i, i < 257 → Tryd.zeroCells125[i]? = some (.int .u32 0) := by
  have h : (List.range 257).map (fun i => Tryd.zeroCells125[i]?) = (List.range 257).map (fun _ => some (.int .u32 0)) := by kernel_rfl
  intro i hi
  exact List.map_inj_left.1 h i (List.mem_range.2 hi)
theorem zc_i : ∀ i, i < 257 → Tryd.zeroCells125[257 + i]? = some (.int .i64 0) := by
  have h : (List.range 257).map (fun i => Tryd.zeroCells125[257 + i]?) = (List.range 257).map (fun _ => some (.int .i64 0)) := by kernel_rfl
  intro i hi
  exact List.map_inj_left.1 h i (List.mem_range.2 hi)
theorem zc_v : ∀ i, i < 93 → Tryd.zeroCells125[514 + i]? = some (.int .u32 0) := by
  have h : (List.range 93).map (fun i => Tryd.zeroCells125[514 + i]?) = (List.range 93).map (fun _ => some (.int .u32 0)) := by kernel_rfl
  intro i hi
  exact List.map_inj_left.1 h i (List.mem_range.2 hi)
theorem bk_zero (w : World) : Bk (w.alloc (.cells Tryd.zeroCells125 125)) w.heap.size (fun _ => 0) (fun _ => 0) (fun _ => 0) (fun _ => 0) (fun _ => 0) where
  lt := by simp
  c := fun i hi => by have := zc_u i hi; simpa using this
  o := fun i hi => by have := zc_i i hi; simpa using this
  f := fun i hi => by have := zc_v i (by omega); simpa using this
  n := fun i hi => by have := zc_v (31 + i) (by omega); rw [show 514 + (31 + i) = 545 + i by omega] at this; simpa using this
  a := fun i hi => by have := zc_v (62 + i) (by omega); rw [show 514 + (62 + i) = 576 + i by omega] at this; simpa using this
  z := fun i => by simp
theorem Bk.kept {w w' : World} {b : Nat} {c o f n a : Nat → Nat} (h : Bk w b c o f n a) (hb : Below (b + 1) w w') : Bk w' b c o f n a where
  lt := Nat.lt_of_lt_of_le h.lt hb.size
  c := fun i hi => (hb.cell (p := ⟨b, i, none⟩) (Nat.lt_succ_self b)).trans (h.c i hi)
  o := fun i hi => (hb.cell (p := ⟨b, 257 + i, none⟩) (Nat.lt_succ_self b)).trans (h.o i hi)
  f := fun i hi => (hb.cell (p := ⟨b, 514 + i, none⟩) (Nat.lt_succ_self b)).trans (h.f i hi)
  n := fun i hi => (hb.cell (p := ⟨b, 545 + i, none⟩) (Nat.lt_succ_self b)).trans (h.n i hi)
  a := fun i hi => (hb.cell (p := ⟨b, 576 + i, none⟩) (Nat.lt_succ_self b)).trans (h.a i hi)
  z := fun i => (hb.frozen (p := ⟨b, i, none⟩) (Nat.lt_succ_self b)).trans (h.z i)
/-- One cell of it is turned. -/
theorem cell_set (w : World) (b o : Nat) (v : Value) (o' : Nat) (u : Value) (h : w.cell? ⟨b, o', none⟩ = some u) : (w.setCell ⟨b, o, none⟩ v).cell? ⟨b, o', none⟩ = some (if o' = o then v else u) := by
  by_cases e : o' = o
  · subst e
    rw [if_pos rfl]
    exact World.cell?_setCell_same' _ _ _ (by rw [h]; rfl)
  · rw [if_neg e]
    simp [go_sem, h, e, fun q : o = o' => e q.symm]
theorem Bk.setN {w : World} {b : Nat} {c o f n a : Nat → Nat} (h : Bk w b c o f n a) (k x : Nat) (hk : k < 31) : Bk (w.setCell ⟨b, 545 + k, none⟩ (.int .u32 (x : Int))) b c o f (fun i => if i = k then x else n i) a where
  lt := by simpa using h.lt
  c := fun i hi => by rw [cell_set _ _ _ _ _ _ (h.c i hi), if_neg (by omega)]
  o := fun i hi => by rw [cell_set _ _ _ _ _ _ (h.o i hi), if_neg (by omega)]
  f := fun i hi => by rw [cell_set _ _ _ _ _ _ (h.f i hi), if_neg (by omega)]
  n := fun i hi => by
    rw [cell_set _ _ _ _ _ _ (h.n i hi)]
    by_cases e : i = k
    · rw [if_pos (by omega), if_pos e]
    · rw [if_neg (by omega), if_neg e]
  a := fun i hi => by rw [cell_set _ _ _ _ _ _ (h.a i hi), if_neg (by omega)]
  z := fun i => by rw [World.frozen?_setCell]; exact h.z i

theorem Bk.setF {w : World} {b : Nat} {c o f n a : Nat → Nat} (h : Bk w b c o f n a) (k x : Nat) (hk : k < 31) : Bk (w.setCell ⟨b, 514 + k, none⟩ (.int .u32 (x : Int))) b c o (fun i => if i = k then x else f i) n a where
  lt := by simpa using h.lt
  c := fun i hi => by rw [cell_set _ _ _ _ _ _ (h.c i hi), if_neg (by omega)]
  o := fun i hi => by rw [cell_set _ _ _ _ _ _ (h.o i hi), if_neg (by omega)]
  f := fun i hi => by
    rw [cell_set _ _ _ _ _ _ (h.f i hi)]
    by_cases e : i = k
    · rw [if_pos (by omega), if_pos e]
    · rw [if_neg (by omega), if_neg e]
  n := fun i hi => by rw [cell_set _ _ _ _ _ _ (h.n i hi), if_neg (by omega)]
  a := fun i hi => by rw [cell_set _ _ _ _ _ _ (h.a i hi), if_neg (by omega)]
  z := fun i => by rw [World.frozen?_setCell]; exact h.z i
theorem Bk.setA {w : World} {b : Nat} {c o f n a : Nat → Nat} (h : Bk w b c o f n a) (k x : Nat) (hk : k < 31) : Bk (w.setCell ⟨b, 576 + k, none⟩ (.int .u32 (x : Int))) b c o f n (fun i => if i = k then x else a i) where
  lt := by simpa using h.lt
  c := fun i hi => by rw [cell_set _ _ _ _ _ _ (h.c i hi), if_neg (by omega)]
  o := fun i hi => by rw [cell_set _ _ _ _ _ _ (h.o i hi), if_neg (by omega)]
  f := fun i hi => by rw [cell_set _ _ _ _ _ _ (h.f i hi), if_neg (by omega)]
  n := fun i hi => by rw [cell_set _ _ _ _ _ _ (h.n i hi), if_neg (by omega)]
  a := fun i hi => by
    rw [cell_set _ _ _ _ _ _ (h.a i hi)]
    by_cases e : i = k
    · rw [if_pos (by omega), if_pos e]
    · rw [if_neg (by omega), if_neg e]
  z := fun i => by rw [World.frozen?_setCell]; exact h.z i
theorem Bk.setC {w : World} {b : Nat} {c o f n a : Nat → Nat} (h : Bk w b c o f n a) (k x : Nat) (hk : k < 257) : Bk (w.setCell ⟨b, k, none⟩ (.int .u32 (x : Int))) b (fun i => if i = k then x else c i) o f n a where
  lt := by simpa using h.lt
  c := fun i hi => by rw [cell_set _ _ _ _ _ _ (h.c i hi)]; by_cases e : i = k <;> simp [e]
  o := fun i hi => by rw [cell_set _ _ _ _ _ _ (h.o i hi), if_neg (by omega)]
  f := fun i hi => by rw [cell_set _ _ _ _ _ _ (h.f i hi), if_neg (by omega)]
  n := fun i hi => by rw [cell_set _ _ _ _ _ _ (h.n i hi), if_neg (by omega)]
  a := fun i hi => by rw [cell_set _ _ _ _ _ _ (h.a i hi), if_neg (by omega)]
  z := fun i => by rw [World.frozen?_setCell]; exact h.z i
theorem Bk.setO {w : World} {b : Nat} {c o f n a : Nat → Nat} (h : Bk w b c o f n a) (k x : Nat) (hk : k < 257) : Bk (w.setCell ⟨b, 257 + k, none⟩ (.int .i64 (x : Int))) b c (fun i => if i = k then x else o i) f n a where
  lt := by simpa using h.lt
  c := fun i hi => by rw [cell_set _ _ _ _ _ _ (h.c i hi), if_neg (by omega)]
  o := fun i hi => by
    rw [cell_set _ _ _ _ _ _ (h.o i hi)]
    by_cases e : i = k
    · rw [if_pos (by omega), if_pos e]
    · rw [if_neg (by omega), if_neg e]
  f := fun i hi => by rw [cell_set _ _ _ _ _ _ (h.f i hi), if_neg (by omega)]
  n := fun i hi => by rw [cell_set _ _ _ _ _ _ (h.n i hi), if_neg (by omega)]
  a := fun i hi => by rw [cell_set _ _ _ _ _ _ (h.a i hi), if_neg (by omega)]
  z := fun i => by rw [World.frozen?_setCell]; exact h.z i
theorem Bk.alike {w : World} {b : Nat} {c o f n a c' o' f' n' a' : Nat → Nat} (h : Bk w b c o f n a) (h1 : ∀ i, i < 257 → c i = c' i) (h2 : ∀ i, i < 257 → o i = o' i) (h3 : ∀ i, i < 31 → f i = f' i) (h4 : ∀ i, i < 31 → n i = n' i) (h5 : ∀ i, i < 31 → a i = a' i) : Bk w b c' o' f' n' a' where
  lt := h.lt
  c := fun i hi => by rw [← h1 i hi]; exact h.c i hi
  o := fun i hi => by rw [← h2 i hi]; exact h.o i hi
  f := fun i hi => by rw [← h3 i hi]; exact h.f i hi
  n := fun i hi => by rw [← h4 i hi]; exact h.n i hi
  a := fun i hi => by rw [← h5 i hi]; exact h.a i hi
  z := h.z
abbrev z31c : Array Value := #[.int .u32 0, .int .u32 0, .int .u32 0, .int .u32 0, .int .u32 0, .int .u32 0, .int .u32 0, .int .u32 0, .int .u32 0, .int .u32 0, .int .u32 0, .int .u32 0, .int .u32 0, .int .u32 0, .int .u32 0, .int .u32 0, .int .u32 0, .int .u32 0, .int .u32 0, .int .u32 0, .int .u32 0, .int .u32 0, .int .u32 0, .int .u32 0, .int .u32 0, .int .u32 0, .int .u32 0, .int .u32 0, .int .u32 0, .int .u32 0, .int .u32 0]
abbrev z31 : Obj := .cells #[.int .u32 0, .int .u32 0, .int .u32 0, .int .u32 0, .int .u32 0, .int .u32 0, .int .u32 0, .int .u32 0, .int .u32 0, .int .u32 0, .int .u32 0, .int .u32 0, .int .u32 0, .int .u32 0, .int .u32 0, .int .u32 0, .int .u32 0, .int .u32 0, .int .u32 0, .int .u32 0, .int .u32 0, .int .u32 0, .int .u32 0, .int .u32 0, .int .u32 0, .int .u32 0, .int .u32 0, .int .u32 0, .int .u32 0, .int .u32 0, .int .u32 0] 123
/-- How many were taken, in block b. -/
structure Tk (w : World) (b : Nat) (n : Nat → Nat) : Prop where
  n : ∀ i, i < 31 → w.cell? ⟨b, i, none⟩ = some (.int .u32 (n i : Int))
  z : ∀ i, w.frozen? ⟨b, i, none⟩ = false
  lt : b < w.heap.size
theorem Tk.set {w : World} {b : Nat} {n : Nat → Nat} (h : Tk w b n) (k x : Nat) : Tk (w.setCell ⟨b, k, none⟩ (.int .u32 (x : Int))) b (fun i => if i = k then x else n i) where
  n := fun i hi => by rw [cell_set _ _ _ _ _ _ (h.n i hi)]; by_cases e : i = k <;> simp [e]
  z := fun i => by rw [World.frozen?_setCell]; exact h.z i
  lt := by simpa using h.lt
theorem Tk.apart {w : World} {b : Nat} {n : Nat → Nat} (h : Tk w b n) (b' o : Nat) (v : Value) (hb : b' ≠ b) : Tk (w.setCell ⟨b', o, none⟩ v) b n where
  n := fun i hi => by have := h.n i hi; simp [go_sem, this, hb, fun q : b = b' => hb q.symm]
  z := fun i => by rw [World.frozen?_setCell]; exact h.z i
  lt := by simpa using h.lt
theorem Tk.kept {w w' : World} {b : Nat} {n : Nat → Nat} (h : Tk w b n) (hb : Below (b + 1) w w') : Tk w' b n where
  n := fun i hi => (hb.cell (p := ⟨b, i, none⟩) (Nat.lt_succ_self b)).trans (h.n i hi)
  z := fun i => (hb.frozen (p := ⟨b, i, none⟩) (Nat.lt_succ_self b)).trans (h.z i)
  lt := Nat.lt_of_lt_of_le h.lt hb.size
theorem Tk.alike {w : World} {b : Nat} {n n' : Nat → Nat} (h : Tk w b n) (h4 : ∀ i, i < 31 → n i = n' i) : Tk w b n' where
  n := fun i hi => by rw [← h4 i hi]; exact h.n i hi
  z := h.z
  lt := h.lt
theorem Bk.apart {w : World} {b : Nat} {c o f n a : Nat → Nat} (h : Bk w b c o f n a) (b' q : Nat) (v : Value) (hb : b' ≠ b) : Bk (w.setCell ⟨b', q, none⟩ v) b c o f n a where
  lt := by simpa using h.lt
  c := fun i hi => by have := h.c i hi; simp [go_sem, this, hb, fun q : b = b' => hb q.symm]
  o := fun i hi => by have := h.o i hi; simp [go_sem, this, hb, fun q : b = b' => hb q.symm]
  f := fun i hi => by have := h.f i hi; simp [go_sem, this, hb, fun q : b = b' => hb q.symm]
  n := fun i hi => by have := h.n i hi; simp [go_sem, this, hb, fun q : b = b' => hb q.symm]
  a := fun i hi => by have := h.a i hi; simp [go_sem, this, hb, fun q : b = b' => hb q.symm]
  z := fun i => by rw [World.frozen?_setCell]; exact h.z i

/-- The book's cells. -/
def bookL : List Value := (List.range 257).map (fun i => .int .u32 (code i : Int)) ++ (List.range 257).map (fun i => .int .i64 (ord i : Int)) ++ (List.range 31).map (fun i => .int .u32 (fst i : Int)) ++ (List.range 31).map (fun i => .int .u32 (num i : Int)) ++ (List.range 31).map (fun i => .int .u32 (ahd i : Int))
theorem bookL_len : bookL.length = 607 := by simp [bookL]
theorem bookL_one : ∀ v ∈ bookL, v.oneCell' = true := by
  intro v hv
  simp only [bookL, List.mem_append, List.mem_map] at hv
  rcases hv with (((⟨i, _, rfl⟩ | ⟨i, _, rfl⟩) | ⟨i, _, rfl⟩) | ⟨i, _, rfl⟩) | ⟨i, _, rfl⟩ <;> rfl
theorem info_book : (Tryd.prog.info? 125).map (·.size) = some bookL.length := by rw [bookL_len]; kernel_rfl
theorem bookL_get (i : Nat) : bookL[i]? = if i < 257 then some (.int .u32 (code i : Int)) else if i < 514 then some (.int .i64 (ord (i - 257) : Int)) else if i < 545 then some (.int .u32 (fst (i - 514) : Int)) else if i < 576 then some (.int .u32 (num (i - 545) : Int)) else if i < 607 then some (.int .u32 (ahd (i - 576) : Int)) else none := by
  unfold bookL
  by_cases h1 : i < 257
  · rw [if_pos h1, List.getElem?_append_left (by simp; omega), List.getElem?_append_left (by simp; omega), List.getElem?_append_left (by simp; omega), List.getElem?_append_left (by simp; omega)]
    simp [h1]
  rw [if_neg h1]
  by_cases h2 : i < 514
  · rw [if_pos h2, List.getElem?_append_left (by simp; omega), List.getElem?_append_left (by simp; omega), List.getElem?_append_left (by simp; omega), List.getElem?_append_right (by simp; omega)]
    simp [show i - 257 < 257 by omega]
  rw [if_neg h2]
  by_cases h3 : i < 545
  · rw [if_pos h3, List.getElem?_append_left (by simp; omega), List.getElem?_append_left (by simp; omega), List.getElem?_append_right (by simp; omega)]
    simp [show i - 514 < 31 by omega]
  rw [if_neg h3]
  by_cases h4 : i < 576
  · rw [if_pos h4, List.getElem?_append_left (by simp; omega), List.getElem?_append_right (by simp; omega)]
    simp [show i - 545 < 31 by omega]
  rw [if_neg h4]
  rw [List.getElem?_append_right (by simp; omega)]
  by_cases h5 : i < 607
  · rw [if_pos h5]
    simp [show i - 576 < 31 by omega]
  · rw [if_neg h5]
    simp; omega
theorem Bk.range {w : World} {b : Nat} (h : Bk w b code ord fst num ahd) : w.rangeAt b 0 bookL := by
  intro j v hv
  rw [bookL_get] at hv
  rw [Nat.zero_add]
  split at hv
  · rename_i h1; rw [← hv]; exact h.c j h1
  split at hv
  · rename_i h1 h2; rw [← hv]; have := h.o (j - 257) (by omega); rwa [show 257 + (j - 257) = j by omega] at this
  split at hv
  · rename_i h1 h2 h3; rw [← hv]; have := h.f (j - 514) (by omega); rwa [show 514 + (j - 514) = j by omega] at this
  split at hv
  · rename_i h1 h2 h3 h4; rw [← hv]; have := h.n (j - 545) (by omega); rwa [show 545 + (j - 545) = j by omega] at this
  split at hv
  · rename_i h1 h2 h3 h4 h5; rw [← hv]; have := h.a (j - 576) (by omega); rwa [show 576 + (j - 576) = j by omega] at this
  · cases hv
theorem Bk.there {w : World} {b : Nat} {c o f n a : Nat → Nat} (h : Bk w b c o f n a) : w.there b 0 607 := by
  intro j hj
  rw [Nat.zero_add]
  refine ⟨?_, h.z j⟩
  by_cases h1 : j < 257
  · rw [h.c j h1]; rfl
  by_cases h2 : j < 514
  · have := h.o (j - 257) (by omega); rw [show 257 + (j - 257) = j by omega] at this; rw [this]; rfl
  by_cases h3 : j < 545
  · have := h.f (j - 514) (by omega); rw [show 514 + (j - 514) = j by omega] at this; rw [this]; rfl
  by_cases h4 : j < 576
  · have := h.n (j - 545) (by omega); rw [show 545 + (j - 545) = j by omega] at this; rw [this]; rfl
  · have := h.a (j - 576) (by omega); rw [show 576 + (j - 576) = j by omega] at this; rw [this]; rfl
theorem res_book {tmps : Array Value} (w : World) {b : Nat} (hr : w.rangeAt b 0 bookL) (ht : tmps.getD 0 undef = .pointer (some ⟨b, 0, none⟩)) : (results Tryd.f71 tmps).run Tryd.prog w = .ok (.agg bookL.toArray) w := by
  have hp' : tmps[0]?.getD undef = .pointer (some ⟨b, 0, none⟩) := by simpa using ht
  simp [results, Tryd.results71, hp', asAddr, run_loadVar_mid w b 0 125 bookL (.struct _) hr Tryd.underlying125 rfl info_book]
theorem below_setCells {B b : Nat} (hb : B ≤ b) : ∀ (vs : List Value) (o : Nat) {w w' : World}, Below B w w' → Below B w (w'.setCells b o vs)
  | [], _, _, _, h => h
  | v :: vs, o, _, _, h => below_setCells hb vs (o + 1) (h.setCell (p := ⟨b, o, none⟩) hb v)
theorem bk_of_range {w : World} {b : Nat} (hb : b < w.heap.size) (hr : w.rangeAt b 0 bookL) (hz : ∀ i, w.frozen? ⟨b, i, none⟩ = false) : Bk w b code ord fst num ahd := by
  have key : ∀ j v, bookL[j]? = some v → w.cell? ⟨b, j, none⟩ = some v := fun j v h => by have := hr j v h; rwa [Nat.zero_add] at this
  refine ⟨hb, fun i hi => key i _ ?_, fun i hi => key (257 + i) _ ?_, fun i hi => key (514 + i) _ ?_, fun i hi => key (545 + i) _ ?_, fun i hi => key (576 + i) _ ?_, hz⟩
  · rw [bookL_get, if_pos hi]
  · rw [bookL_get, if_neg (by omega), if_pos (by omega)]; simp
  · rw [bookL_get, if_neg (by omega), if_neg (by omega), if_pos (by omega)]; simp
  · rw [bookL_get, if_neg (by omega), if_neg (by omega), if_neg (by omega), if_pos (by omega)]; simp
  · rw [bookL_get, if_neg (by omega), if_neg (by omega), if_neg (by omega), if_neg (by omega), if_pos (by omega)]; simp

set_option maxRecDepth 100000 in
set_option maxHeartbeats 4000000 in
theorem newBook_any (w : World) : Calls Tryd.prog 71 #[] w fun e w' => e = .returned (.agg bookL.toArray) ∧ Below w.heap.size w w' := by
  have hbA : Bk ((w.alloc (.cells Tryd.zeroCells125 125)).alloc (.cells Tryd.zeroCells125 125)) w.heap.size (fun _ => 0) (fun _ => 0) (fun _ => 0) (fun _ => 0) (fun _ => 0) :=
    (bk_zero w).kept ((Below.refl _ _).alloc (by simp) _)
  have hb0 : Bk ((w.alloc (.cells Tryd.zeroCells125 125)).alloc (.cells Tryd.zeroCells125 125)) (w.heap.size + 1) (fun _ => 0) (fun _ => 0) (fun _ => 0) (fun _ => 0) (fun _ => 0) := by
    have := bk_zero (w.alloc (.cells Tryd.zeroCells125 125))
    rwa [World.size_alloc] at this
  have hBW : Below w.heap.size w ((w.alloc (.cells Tryd.zeroCells125 125)).alloc (.cells Tryd.zeroCells125 125)) := ((Below.refl _ _).alloc (Nat.le_refl _) _).alloc (by simp) _
  go_enter Tryd.func71, Tryd.ntmps71
  go_wp2
  generalize ((w.alloc (Obj.cells Tryd.zeroCells125 125)).alloc (Obj.cells Tryd.zeroCells125 125)) = W0 at hbA hb0 hBW ⊢
  go_loopw [7] (fun s7 wr => ∃ k : Nat, s7 = .int .i64 (k : Int) ∧ k ≤ 257 ∧ Bk wr (w.heap.size + 1) (fun _ => 0) (fun _ => 0) (fun _ => 0) (cnt k) (fun _ => 0) ∧ Below (w.heap.size + 1) W0 wr)
    (fun s7 _ => 257 - (intOf s7).toNat)
  case atStart => exact ⟨0, rfl, by omega, by rw [show cnt 0 = fun _ => 0 from funext cnt_zero]; exact hb0, Below.refl _ _⟩
  case round =>
    obtain ⟨k, rfl, hk, hbk, hB⟩ := hrel
    by_cases hlt : k < 257
    · have hz1 := sz_lo hlt
      have hz2 := sz_hi hlt
      have hc := hbk.n (sz k) (by omega)
      have hf := hbk.z (545 + sz k)
      have hcl := cnt_le k (sz k)
      have hsz := hbk.lt
      go_wp2_with fail
      refine (size_any k hlt _).mono ?_
      rintro e w2 ⟨rfl, rfl⟩
      go_wp2_with fail
      refine ⟨⟨k + 1, by go_num, by omega, ?_, hB.setCell (Nat.le_refl _) _⟩, by simp [intOf]; omega⟩
      have := hbk.setN (sz k) (cnt k (sz k) + 1) (by omega)
      refine Bk.alike this (fun _ _ => rfl) (fun _ _ => rfl) (fun _ _ => rfl) (fun i _ => ?_) (fun _ _ => rfl)
      by_cases e : i = sz k
      · rw [if_pos e, e, cnt_same hlt]
      · rw [if_neg e, cnt_other hlt e]
    · obtain rfl : k = 257 := by omega
      have hbn : Bk wr (w.heap.size + 1) (fun _ => 0) (fun _ => 0) (fun i => if i < 4 + 1 then fst i else 0) num (fun i => if i < 4 + 1 then ahd i else 0) := by
        refine Bk.alike hbk (fun _ _ => rfl) (fun _ _ => rfl) (fun i _ => ?_) num_all (fun i _ => ?_)
        · split
          · rename_i h; exact (low_all i h).1.symm
          · rfl
        · split
          · rename_i h; exact (low_all i h).2.1.symm
          · rfl
      clear hbk
      go_wp2
      go_loopw [3] (fun s3 wr => ∃ m : Nat, s3 = .int .i64 ((m : Int) + 1) ∧ 4 ≤ m ∧ m ≤ 30 ∧ Bk wr (w.heap.size + 1) (fun _ => 0) (fun _ => 0) (fun i => if i < m + 1 then fst i else 0) num (fun i => if i < m + 1 then ahd i else 0) ∧ Below (w.heap.size + 1) W0 wr)
        (fun s3 _ => 31 - (intOf s3).toNat)
      case atStart => exact ⟨4, rfl, by omega, by omega, hbn, hB⟩
      case round =>
        obtain ⟨m, rfl, hm4, hm, hbk, hB1⟩ := hrel
        by_cases hlt : m < 30
        · have q1 := hbk.f m (by omega)
          have q2 := hbk.n m (by omega)
          have q3 := hbk.a m (by omega)
          rw [if_pos (by omega)] at q1 q3
          have hfz := hbk.z
          have hsz := hbk.lt
          have hv1 := fst_le (n := m) (by omega)
          have hv2 := ahd_le m (by omega)
          have q4 := hbk.f (m + 1) (by omega)
          have q5 := hbk.a (m + 1) (by omega)
          go_wp2
          go_region
          have e1 : ((fst m : Int) + (num m : Int)) * 2 = ((fst (m + 1) : Nat) : Int) := by rw [fst_all m hlt]; simp
          rw [e1]
          have hk2 : Bk (wr.setCell ⟨w.heap.size + 1, 514 + (m + 1), none⟩ (.int .u32 (fst (m + 1) : Int))).drew (w.heap.size + 1) (fun _ => 0) (fun _ => 0) (fun i => if i < m + 1 + 1 then fst i else 0) num (fun i => if i < m + 1 then ahd i else 0) := by
            refine (Bk.alike (hbk.setF (m + 1) (fst (m + 1)) (by omega)) (fun _ _ => rfl) (fun _ _ => rfl) (fun i hi => ?_) (fun _ _ => rfl) (fun _ _ => rfl)).kept (Below.drew (Below.refl _ _))
            by_cases e : i = m + 1
            · subst e; simp
            · rw [if_neg e]
              by_cases e2 : i < m + 1
              · rw [if_pos e2, if_pos (by omega)]
              · rw [if_neg e2, if_neg (by omega)]
          have hB2 : Below (w.heap.size + 1) W0 (wr.setCell ⟨w.heap.size + 1, 514 + (m + 1), none⟩ (.int .u32 (fst (m + 1) : Int))).drew := (hB1.setCell (Nat.le_refl _) _).drew
          generalize (wr.setCell ⟨w.heap.size + 1, 514 + (m + 1), none⟩ (.int .u32 (fst (m + 1) : Int))).drew = W1 at hk2 hB2 ⊢
          clear q1 q2 q3 q4 q5 hfz hsz hbk hB1
          have q2 := hk2.n m (by omega)
          have q3 := hk2.a m (by omega)
          rw [if_pos (by omega)] at q3
          have hfz := hk2.z
          have hsz := hk2.lt
          have q5 := hk2.a (m + 1) (by omega)
          go_wp2
          go_region
          go_wp2
          have e2 : (ahd m : Int) + (num m : Int) = ((ahd (m + 1) : Nat) : Int) := by rw [ahd_all m hlt]; simp
          simp only [e2]
          refine ⟨⟨m + 1, by go_num, by omega, by omega, ?_, (hB2.setCell (Nat.le_refl _) _).drew⟩, by simp [intOf]; omega⟩
          refine (Bk.alike (hk2.setA (m + 1) (ahd (m + 1)) (by omega)) (fun _ _ => rfl) (fun _ _ => rfl) (fun _ _ => rfl) (fun _ _ => rfl) (fun i hi => ?_)).kept (Below.drew (Below.refl _ _))
          by_cases e : i = m + 1
          · subst e; simp
          · rw [if_neg e]
            by_cases e2 : i < m + 1
            · rw [if_pos e2, if_pos (by omega)]
            · rw [if_neg e2, if_neg (by omega)]
        · obtain rfl : m = 30 := by omega
          rw [show (((30 : Nat) : Int) + 1) = 31 from rfl]
          have hk2 : Bk wr (w.heap.size + 1) (fun i => if i < 0 then code i else 0) (fun i => if ord i < 0 then ord i else 0) fst num ahd := by
            refine Bk.alike hbk (fun i _ => by simp) (fun i _ => by simp) (fun i hi => by rw [if_pos (by omega)]) (fun _ _ => rfl) (fun i hi => by rw [if_pos (by omega)])
          clear hbk
          have ht : Tk (wr.alloc z31) wr.heap.size (cnt 0) := by
            refine ⟨fun i hi => ?_, fun i => by simp, by simp⟩
            rw [cnt_zero]
            have h : (List.range 31).map (fun i => z31c[i]?) = (List.range 31).map (fun _ => some (Value.int .u32 0)) := by rfl
            have := List.map_inj_left.1 h i (List.mem_range.2 hi)
            simpa using this
          have hk3 := hk2.kept ((Below.refl _ _).alloc hk2.lt z31)
          have hB3 := hB1.alloc (by have := hk2.lt; omega) z31
          have hb2 : w.heap.size + 1 < wr.heap.size := hk2.lt
          go_wp2
          generalize wr.alloc z31 = W2 at ht hk3 hB3 ⊢
          generalize wr.heap.size = b2 at ht hb2 ⊢
          clear hk2 hB1
          go_loopw [52] (fun s52 wr => ∃ k : Nat, s52 = .int .i64 (k : Int) ∧ k ≤ 257 ∧ Bk wr (w.heap.size + 1) (fun i => if i < k then code i else 0) (fun i => if ord i < k then ord i else 0) fst num ahd ∧ Tk wr b2 (cnt k) ∧ Below (w.heap.size + 1) W0 wr)
            (fun s52 _ => 257 - (intOf s52).toNat)
          case atStart => exact ⟨0, rfl, by omega, hk3, ht, hB3⟩
          case round =>
            obtain ⟨k, rfl, hk, hbk, htk, hB4⟩ := hrel
            by_cases hlt : k < 257
            · have hz1 := sz_lo hlt
              have hz2 := sz_hi hlt
              have hrk := rank_eq hlt
              have hrn := rank_num k hlt
              have q1 := hbk.f (sz k) (by omega)
              have q2 := htk.n (sz k) (by omega)
              rw [hrk] at q2
              have hv1 := fst_le (n := sz k) (by omega)
              have hv2 := ahd_le (sz k) (by omega)
              have q3 := hbk.c k hlt
              have hfz := hbk.z
              have hfz2 := htk.z
              have hsz := hbk.lt
              have hsz2 := htk.lt
              have hcode : (fst (sz k) : Int) + (rank k : Int) = ((code k : Nat) : Int) := by simp [code]
              have hpos : (ahd (sz k) : Int) + (rank k : Int) = ((pos k : Nat) : Int) := by simp [pos]
              have hposl := pos_lt hlt
              have hne : ¬ w.heap.size + 1 = b2 := by omega
              have hne' : ¬ b2 = w.heap.size + 1 := by omega
              go_wp2_with fail
              refine (size_any k hlt _).mono ?_
              rintro e w2 ⟨rfl, rfl⟩
              go_wp2_with fail
              go_region
              go_wp2
              have hk5 : Bk (wr.setCell ⟨w.heap.size + 1, k, none⟩ (.int .u32 (code k : Int))).drew (w.heap.size + 1) (fun i => if i < k + 1 then code i else 0) (fun i => if ord i < k then ord i else 0) fst num ahd := by
                refine (Bk.alike (hbk.setC k (code k) hlt) (fun i hi => ?_) (fun _ _ => rfl) (fun _ _ => rfl) (fun _ _ => rfl) (fun _ _ => rfl)).kept (Below.drew (Below.refl _ _))
                by_cases e : i = k
                · subst e; simp
                · rw [if_neg e]
                  by_cases e2 : i < k
                  · rw [if_pos e2, if_pos (by omega)]
                  · rw [if_neg e2, if_neg (by omega)]
              have ht5 : Tk (wr.setCell ⟨w.heap.size + 1, k, none⟩ (.int .u32 (code k : Int))).drew b2 (cnt k) := (htk.apart _ _ _ hne).kept (Below.drew (Below.refl _ _))
              have hB5 : Below (w.heap.size + 1) W0 (wr.setCell ⟨w.heap.size + 1, k, none⟩ (.int .u32 (code k : Int))).drew := (hB4.setCell (Nat.le_refl _) _).drew
              generalize (wr.setCell ⟨w.heap.size + 1, k, none⟩ (.int .u32 (code k : Int))).drew = W5 at hk5 ht5 hB5 ⊢
              clear q1 q2 q3 hfz hfz2 hsz hsz2 hbk htk hB4
              have q1 := hk5.a (sz k) (by omega)
              have q2 := ht5.n (sz k) (by omega)
              rw [hrk] at q2
              have q3 := hk5.o (pos k) hposl
              have hfz := hk5.z
              have hfz2 := ht5.z
              have hsz := hk5.lt
              have hsz2 := ht5.lt
              go_region
              go_wp2
              have hk6 : Bk (W5.setCell ⟨w.heap.size + 1, 257 + pos k, none⟩ (.int .i64 (k : Int))) (w.heap.size + 1) (fun i => if i < k + 1 then code i else 0) (fun i => if ord i < k + 1 then ord i else 0) fst num ahd := by
                refine (Bk.alike (hk5.setO (pos k) k hposl) (fun _ _ => rfl) (fun i hi => ?_) (fun _ _ => rfl) (fun _ _ => rfl) (fun _ _ => rfl))
                by_cases e : i = pos k
                · subst e; simp [ord_all k hlt]
                · rw [if_neg e]
                  have hne2 : ord i ≠ k := fun h => e (by rw [← h]; exact (ord_back i hi).2.symm)
                  by_cases e2 : ord i < k
                  · rw [if_pos e2, if_pos (by omega)]
                  · rw [if_neg e2, if_neg (by omega)]
              have ht6 : Tk (W5.setCell ⟨w.heap.size + 1, 257 + pos k, none⟩ (.int .i64 (k : Int))) b2 (cnt k) := ht5.apart _ _ _ hne
              have hB6 : Below (w.heap.size + 1) W0 (W5.setCell ⟨w.heap.size + 1, 257 + pos k, none⟩ (.int .i64 (k : Int))) := hB5.setCell (Nat.le_refl _) _
              have e3 : ((rank k : Int) + 1) = ((rank k + 1 : Nat) : Int) := by simp
              simp only [e3]
              refine ⟨⟨k + 1, by go_num, by omega, (hk6.apart b2 (sz k) _ hne').kept (Below.drew (Below.refl _ _)), ?_, (hB6.setCell (p := ⟨b2, sz k, none⟩) (by dsimp only; omega) _).drew⟩, by simp [intOf]; omega⟩
              refine (Tk.alike (ht6.set (sz k) (rank k + 1)) (fun i hi => ?_)).kept (Below.drew (Below.refl _ _))
              by_cases e : i = sz k
              · rw [if_pos e, e, cnt_same hlt, hrk]
              · rw [if_neg e, cnt_other hlt e]
            · obtain rfl : k = 257 := by omega
              have hbf : Bk wr (w.heap.size + 1) code ord fst num ahd := by
                refine Bk.alike hbk (fun i hi => by rw [if_pos hi]) (fun i hi => by rw [if_pos (ord_back i hi).1]) (fun _ _ => rfl) (fun _ _ => rfl) (fun _ _ => rfl)
              clear hbk htk
              have hth := (hbA.kept hB4).there
              go_wp2_with fail
              refine wp_load_mid (P := Tryd.prog) 125 _ rfl (w.heap.size + 1) 0 rfl bookL (.struct _) hbf.range Tryd.underlying125 rfl info_book ?_
              rename_i hK
              refine hK _ _ ?_
              refine wpList_store_mid (P := Tryd.prog) rfl 125 _ _ rfl w.heap.size 0 bookL.toArray rfl rfl (by rw [show bookL.toArray.size = 607 by rw [List.size_toArray, bookL_len]]; exact hth) (by rw [List.size_toArray]; exact info_book) (all_oneCell_toArray bookL_one) ?_
              go_wp2_with fail
              have hr := World.rangeAt_setCells_same wr w.heap.size 0 bookL (by rw [bookL_len]; exact hth)
              refine bodyPost_ret (v := .agg bookL.toArray) (res_book _ hr rfl) rfl ?_
              refine ⟨rfl, ?_⟩
              exact below_setCells (Nat.le_refl _) _ _ (hBW.trans (hB4.mono (by omega)))
end Go.Proofs.YtlfnglnokakpfaaDoor.Hu
