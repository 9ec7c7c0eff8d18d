/-
  CONTRACTS: the reader's next, the book's symbol.
-/
import Derived.Test.YtlkieeindnpidaaDoorHuP
namespace Go.Proofs.YtlkieeindnpidaaDoor.Hu
open Go.RowKit Hf

/-- A reader in block p: its bytes, the place, how many bits were told there. -/
structure Rd (w : World) (p : Nat) (a : Option Addr) (n c i t : Nat) : Prop where
  b : w.cell? ⟨p, 0, none⟩ = some (.slice a n c)
  i : w.cell? ⟨p, 1, none⟩ = some (.int .i64 (i : Int))
  t : w.cell? ⟨p, 2, none⟩ = some (.int .i64 (t : Int))
  z : ∀ j, w.frozen? ⟨p, j, none⟩ = false
/-- Of what was there only block p has turned. -/
structure Keep (p : Nat) (w w' : World) : Prop where
  below : Below p w w'
  own : ∀ B v l, p < B → Own w B v l → Own w' B v l
  size : w.heap.size = w'.heap.size
theorem Keep.drewN {p : Nat} (w : World) (q : Nat) : Keep p w (w.drewN q) := ⟨below_drewN' w q, fun _ _ _ _ h => h.drewN q, rfl⟩
theorem Keep.set {p : Nat} {w w' : World} (h : Keep p w w') (o : Nat) (v : Value) : Keep p w (w'.setCell ⟨p, o, none⟩ v) :=
  ⟨h.below.setCell (Nat.le_refl _) v, fun B u l hB ho => ownsRow_setCell_below (h.own B u l hB ho) hB v, by rw [h.size]; simp⟩

theorem ret_bit {x y : Int} (h : x = y) : Ending.returned (.tuple #[.int .u32 x, .bool true]) = .returned (.tuple #[.int .u32 y, .bool true]) := by rw [h]

def NextNo (w : World) (e : Ending) (w' : World) : Prop := e = .returned (.tuple #[.int .u32 0, .bool false]) ∧ ∃ q, w' = w.drewN q
set_option maxRecDepth 100000 in
theorem next_no (p : Nat) (a : Option Addr) (n c t : Nat) (w : World) (h : Rd w p a n c n t) (hn : n ≤ 1000000000) :
    Calls Tryd.prog 72 #[.pointer (some ⟨p, 0, none⟩)] w (NextNo w) := by
  have h0 := h.b
  have h1 := h.i
  go_enter Tryd.func72, Tryd.ntmps72
  go_wp2
  go_quiet (fail)
  go_wp2
  go_ret2
  exact ⟨rfl, _, rfl⟩

def NextYes (p : Nat) (a : Option Addr) (n c i t : Nat) (l : List UInt8) (w : World) (e : Ending) (w' : World) : Prop :=
  e = .returned (.tuple #[.int .u32 (((l.getD i 0).toNat / 2 ^ (7 - t) % 2 : Nat) : Int), .bool true]) ∧ Rd w' p a n c (if t = 7 then i + 1 else i) (if t = 7 then 0 else t + 1) ∧ Keep p w w'
set_option maxRecDepth 100000 in
set_option maxHeartbeats 1000000 in
theorem next_yes (p : Nat) (a : Option Addr) (n c i t : Nat) (l : List UInt8) (w : World) (h : Rd w p a n c i t) (hn : n ≤ 1000000000) (hi : i < n) (ht : t < 8) (hs : Sl w a n c l) :
    Calls Tryd.prog 72 #[.pointer (some ⟨p, 0, none⟩)] w (NextYes p a n c i t l w) := by
  have hlen := hs.len
  obtain ⟨b, o, rfl⟩ := hs.some (by omega)
  have hc := hs.cell (i := i) (by omega)
  have hx : l.getD i 0 = l[i] := by simp [List.getD, show i < l.length by omega]
  have h0 := h.b
  have h1 := h.i
  have h2 := h.t
  have hz := h.z
  have HS := Lib.hid hs; clear hs
  unfold NextYes
  rw [hx]
  have HX := Lib.hid hx; clear hx
  generalize l[i] = x at hc ⊢
  have ht0 : (0 : Int) ≤ 7 - (t : Int) := by omega
  have ht1 : (7 : Int) - (t : Int) < 64 := by omega
  have hx8 : x.toNat < 256 := x.toNat_lt
  have hv : bits .and .u32 (((x.toNat / 2 ^ (7 - t) : Nat) : Int) % 4294967296) 1 = ((x.toNat / 2 ^ (7 - t) % 2 : Nat) : Int) := by
    have hle : x.toNat / 2 ^ (7 - t) ≤ x.toNat := Nat.div_le_self _ _
    generalize x.toNat / 2 ^ (7 - t) = y at hle
    rw [show ((y : Int) % 4294967296) = (y : Int) by omega, show (1 : Int) = ((1 : Nat) : Int) from rfl, u32_and_nat _ _ (by omega) (by omega), nat_mask1]
  replace hv := Lib.hid hv
  by_cases h7 : t = 7
  · subst h7
    go_enter Tryd.func72, Tryd.ntmps72
    go_wp2
    go_quiet (fail)
    go_wp2
    go_quiet (fail)
    go_wp2
    go_ret2
    refine ⟨ret_bit (by have := hv.out; rw [show ((x.toNat / 2 ^ (7 - 7) : Nat) : Int) % 4294967296 = (x.toNat : Int) by simp; omega] at this; simpa using this), ?_, ?_⟩
    · refine ⟨?_, ?_, ?_, fun j => ?_⟩
      · simp [go_sem, h0, h1, h2]
      · simp [go_sem, h0, h1, h2]
      · simp [go_sem, h0, h1, h2]
      · simp only [World.frozen?_setCell, World.frozen?_drewN]; exact hz j
    · exact (((Keep.drewN w _).set _ _).set _ _).set _ _
  · go_enter Tryd.func72, Tryd.ntmps72
    go_wp2
    go_quiet (fail)
    go_wp2
    go_quiet (fail)
    go_wp2
    go_ret2
    refine ⟨ret_bit (by have := hv.out; simpa using this), ?_, ?_⟩
    · refine ⟨?_, ?_, ?_, fun j => ?_⟩
      · simp [go_sem, h0, h1, h2]
      · simp [go_sem, h0, h1, h2]
      · simp [go_sem, h0, h1, h2]
      · simp only [World.frozen?_setCell, World.frozen?_drewN]; exact hz j
    · exact (Keep.drewN w _).set _ _

/-- 'bits - first' on 32 bits. -/
theorem sub32 {x f : Nat} (hx : x < 4294967296) (hf : f ≤ 1073741824) : IntKind.u32.wrap ((x : Int) - (f : Int)) = if f ≤ x then ((x - f : Nat) : Int) else ((4294967296 + x - f : Nat) : Int) := by
  rw [IntKind.wrap_u32]
  split <;> omega
set_option maxRecDepth 100000 in
theorem symbol_no (b : Nat) (c n : Nat) (hn : n < 31) (hc : c < 2147483648) (w : World) (h : Bk w b code ord fst num ahd) (hs : sym c n = none) :
    Calls Tryd.prog 74 #[.pointer (some ⟨b, 0, none⟩), .int .u32 (c : Int), .int .i64 (n : Int)] w fun e w' => e = .returned (.tuple #[.int .i64 0, .bool false]) ∧ w = w' := by
  have q1 := h.f n hn
  have q2 := h.n n hn
  have hf := fst_le hn
  have hno : ¬ (fst n ≤ c ∧ c < fst n + num n) := by
    intro hh
    unfold sym at hs
    rw [if_pos hh] at hs
    cases hs
  have hsub := sub32 (x := c) (f := fst n) (by omega) (by omega)
  generalize fst n = f at q1 hf hno hsub
  generalize num n = m at q2 hf hno
  have hi0 : (0 : Int) ≤ (n : Int) := by omega
  have hi1 : (n : Int) < 31 := by omega
  obtain ⟨i, hi, him⟩ : ∃ i : Nat, IntKind.u32.wrap ((c : Int) - (f : Int)) = (i : Int) ∧ m ≤ i := by
    by_cases hle : f ≤ c
    · rw [if_pos hle] at hsub; exact ⟨_, hsub, by omega⟩
    · rw [if_neg hle] at hsub; exact ⟨_, hsub, by omega⟩
  clear hsub hno hs
  go_enter Tryd.func74, Tryd.ntmps74
  go_wp2
  go_ret2
  exact ⟨rfl, rfl⟩
theorem sym_some {c n s : Nat} (hn : n < 31) (h : sym c n = some s) : fst n ≤ c ∧ c < fst n + num n ∧ s = ord (ahd n + (c - fst n)) := by
  unfold sym at h
  split at h
  · rename_i h1
    cases h
    exact ⟨h1.1, h1.2, rfl⟩
  · cases h
set_option maxRecDepth 100000 in
theorem symbol_yes (b : Nat) (c n s : Nat) (hn : n < 31) (hc : c < 2147483648) (w : World) (h : Bk w b code ord fst num ahd) (hs : sym c n = some s) :
    Calls Tryd.prog 74 #[.pointer (some ⟨b, 0, none⟩), .int .u32 (c : Int), .int .i64 (n : Int)] w fun e w' => e = .returned (.tuple #[.int .i64 (s : Int), .bool true]) ∧ ∃ q, w' = w.drewN q := by
  obtain ⟨h1, h2, rfl⟩ := sym_some hn hs
  have q1 := h.f n hn
  have q2 := h.n n hn
  have q3 := h.a n hn
  have hal := ahd_le n hn
  have q4 := h.o (ahd n + (c - fst n)) (by omega)
  have hf := fst_le hn
  have hsub := sub32 (x := c) (f := fst n) (by omega) (by omega)
  rw [if_pos h1] at hsub
  generalize ord (ahd n + (c - fst n)) = s at q4 ⊢
  clear hs
  generalize fst n = f at *
  generalize num n = m at *
  generalize ahd n = a at *
  obtain ⟨i, hi⟩ : ∃ i, c - f = i := ⟨_, rfl⟩
  rw [hi] at hsub q4
  have him : i < m := by omega
  have hia : a + i < 257 := by omega
  have hi0 : (0 : Int) ≤ (n : Int) := by omega
  have hi1 : (n : Int) < 31 := by omega
  clear hal hf h1 h2 hi
  go_enter Tryd.func74, Tryd.ntmps74
  go_wp2
  go_quiet (fail)
  go_wp2
  go_ret2
  exact ⟨rfl, _, rfl⟩
end Go.Proofs.YtlkieeindnpidaaDoor.Hu
