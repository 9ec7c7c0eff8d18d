/-
  HuKit: HuM HuK HuN HuO, in one text.
-/
import Derived.Laws.Bits64b
import Derived.Laws.BitsAllLaws
import Derived.RowKit
import Derived.Lib.ItoaNum
import Derived.Laws.BitsLemmas
import Derived.Test.YtlkieeindnpidaaDoorRows
import Derived.WalkKit
import Derived.ProofKit
import Derived.WalkLawsBesides
import Derived.WalkSpells
import Derived.Outline
import Derived.LoopTactic
import Derived.Deep.QuietTactic
import Derived.BigQuiet
import Derived.IntWalk
import Derived.Lib.Hide
import Derived.Laws.AppendOwnNone
import Derived.Laws.EntriesVeiled
import Derived.Deep.RegionLaw
import Derived.Deep.AppendLies
import Derived.Deep.MidRow
import Derived.Deep.RegionHeld3
namespace Go.Proofs.YtlkieeindnpidaaDoor.Hu
open Go.RowKit
namespace Hf

/-- How many bits each of the 257 symbols has. -/
def szs : List Nat := [13, 23, 28, 28, 28, 28, 28, 28, 28, 24, 30, 28, 28, 30, 28, 28, 28, 28, 28, 28, 28, 28, 30, 28, 28, 28, 28, 28, 28, 28, 28, 28, 6, 10, 10, 12, 13, 6, 8, 11, 10, 10, 8, 11, 8, 6, 6, 6, 5, 5, 5, 6, 6, 6, 6, 6, 6, 6, 7, 8, 15, 6, 12, 10, 13, 6, 7, 7, 7, 7, 7, 7, 7, 7, 7, 7, 7, 7, 7, 7, 7, 7, 7, 7, 7, 7, 7, 7, 8, 7, 8, 13, 19, 13, 14, 6, 15, 5, 6, 5, 6, 5, 6, 6, 6, 5, 7, 7, 6, 6, 6, 5, 6, 7, 6, 5, 5, 6, 7, 7, 7, 7, 7, 15, 11, 14, 13, 28, 20, 22, 20, 20, 22, 22, 22, 23, 22, 23, 23, 23, 23, 23, 24, 23, 24, 24, 22, 23, 24, 23, 23, 23, 23, 21, 22, 23, 22, 23, 23, 24, 22, 21, 20, 22, 22, 23, 23, 21, 23, 22, 22, 24, 21, 22, 23, 23, 21, 21, 22, 21, 23, 22, 23, 23, 20, 22, 22, 22, 23, 22, 22, 23, 26, 26, 20, 19, 22, 23, 22, 25, 26, 26, 26, 27, 27, 26, 24, 25, 19, 21, 26, 27, 27, 26, 27, 24, 21, 21, 26, 26, 28, 27, 27, 27, 20, 24, 20, 21, 22, 21, 21, 23, 22, 22, 25, 25, 24, 24, 26, 23, 26, 27, 26, 26, 27, 27, 27, 27, 27, 28, 27, 27, 27, 27, 27, 26, 30]
/-- The first code of each number of bits; how many codes have fewer bits; how many have as many. -/
def fsts : List Nat := [0, 0, 0, 0, 0, 0, 20, 92, 248, 508, 1016, 2042, 4090, 8184, 16380, 32764, 65534, 131068, 262136, 524272, 1048550, 2097116, 4194258, 8388568, 16777194, 33554412, 67108832, 134217694, 268435426, 536870910, 1073741820]
def ahds : List Nat := [0, 0, 0, 0, 0, 0, 10, 36, 68, 74, 74, 79, 82, 84, 90, 92, 95, 95, 95, 95, 98, 106, 119, 145, 174, 186, 190, 205, 224, 253, 253]
def nums : List Nat := [0, 0, 0, 0, 0, 10, 26, 32, 6, 0, 5, 3, 2, 6, 2, 3, 0, 0, 0, 3, 8, 13, 26, 29, 12, 4, 15, 19, 29, 0, 4]
/-- How many symbols ahead have as many bits. -/
def ranks : List Nat := [0, 0, 0, 1, 2, 3, 4, 5, 6, 0, 0, 7, 8, 1, 9, 10, 11, 12, 13, 14, 15, 16, 2, 17, 18, 19, 20, 21, 22, 23, 24, 25, 0, 0, 1, 0, 1, 1, 0, 0, 2, 3, 1, 1, 2, 2, 3, 4, 0, 1, 2, 5, 6, 7, 8, 9, 10, 11, 0, 3, 0, 12, 1, 4, 2, 13, 1, 2, 3, 4, 5, 6, 7, 8, 9, 10, 11, 12, 13, 14, 15, 16, 17, 18, 19, 20, 21, 22, 4, 23, 5, 3, 0, 4, 0, 14, 1, 3, 15, 4, 16, 5, 17, 18, 19, 6, 24, 25, 20, 21, 22, 7, 23, 26, 24, 8, 9, 25, 27, 28, 29, 30, 31, 2, 2, 1, 5, 26, 0, 0, 1, 2, 1, 2, 3, 1, 4, 2, 3, 4, 5, 6, 1, 7, 2, 3, 5, 8, 4, 9, 10, 11, 12, 0, 6, 13, 7, 14, 15, 5, 8, 1, 3, 9, 10, 16, 17, 2, 18, 11, 12, 6, 3, 13, 19, 20, 4, 5, 14, 6, 21, 15, 22, 23, 4, 16, 17, 18, 24, 19, 20, 25, 0, 1, 5, 1, 21, 26, 22, 0, 2, 3, 4, 0, 1, 5, 7, 1, 2, 7, 6, 2, 3, 7, 4, 8, 8, 9, 8, 9, 27, 5, 6, 7, 6, 9, 7, 10, 23, 11, 12, 27, 24, 25, 2, 3, 10, 11, 10, 28, 11, 8, 12, 13, 9, 10, 11, 12, 13, 28, 14, 15, 16, 17, 18, 14, 3]
def sz (s : Nat) : Nat := szs.getD s 0
def fst (n : Nat) : Nat := fsts.getD n 0
def ahd (n : Nat) : Nat := ahds.getD n 0
def num (n : Nat) : Nat := nums.getD n 0
def rank (s : Nat) : Nat := ranks.getD s 0
/-- Of the first k symbols, how many have n bits. -/
def cnt (k n : Nat) : Nat := (szs.take k).count n
/-- The code of a symbol; its place among the symbols as the codes are handed out. -/
def code (s : Nat) : Nat := fst (sz s) + rank s
def pos (s : Nat) : Nat := ahd (sz s) + rank s

theorem szs_len : szs.length = 257 := by decide +kernel
theorem sz_eq {s : Nat} (h : s < 257) : szs[s]? = some (sz s) := by
  have h' : s < szs.length := by rw [szs_len]; exact h
  unfold sz
  rw [List.getD, List.getElem?_eq_getElem h']
  rfl
theorem sz_all : ∀ s, s < 257 → 5 ≤ sz s ∧ sz s ≤ 30 := by decide +kernel
theorem sz_lo {s : Nat} (h : s < 257) : 5 ≤ sz s := (sz_all s h).1
theorem sz_hi {s : Nat} (h : s < 257) : sz s ≤ 30 := (sz_all s h).2
theorem cnt_zero (n : Nat) : cnt 0 n = 0 := by simp [cnt]
theorem cnt_succ {k : Nat} (h : k < 257) (n : Nat) : cnt (k + 1) n = cnt k n + (if sz k = n then 1 else 0) := by
  unfold cnt
  rw [List.take_add_one, sz_eq h, List.count_append]
  simp [List.count_cons]
theorem cnt_same {k : Nat} (h : k < 257) : cnt (k + 1) (sz k) = cnt k (sz k) + 1 := by rw [cnt_succ h, if_pos rfl]
theorem cnt_other {k n : Nat} (h : k < 257) (hn : n ≠ sz k) : cnt (k + 1) n = cnt k n := by rw [cnt_succ h, if_neg (fun e => hn e.symm)]; rfl
theorem cnt_le (k n : Nat) : cnt k n ≤ 257 := by
  unfold cnt
  have h := List.count_le_length (a := n) (l := szs.take k)
  rw [List.length_take, szs_len] at h
  omega
theorem num_all : ∀ n, n < 31 → cnt 257 n = num n := by decide +kernel
theorem rank_all : ∀ s, s < 257 → cnt s (sz s) = rank s := by decide +kernel
theorem rank_eq {s : Nat} (h : s < 257) : cnt s (sz s) = rank s := rank_all s h
theorem rank_num : ∀ s, s < 257 → rank s < num (sz s) := by decide +kernel
theorem fst_all : ∀ n, n < 30 → fst (n + 1) = (fst n + num n) * 2 := by decide +kernel
theorem ahd_all : ∀ n, n < 30 → ahd (n + 1) = ahd n + num n := by decide +kernel
theorem low_all : ∀ n, n < 5 → fst n = 0 ∧ ahd n = 0 ∧ num n = 0 := by decide +kernel
/-- Numbers of so many bits: the codes end at most where these do. -/
theorem full_all : ∀ n, n < 31 → fst n + num n ≤ 2 ^ n := by decide +kernel
theorem full_end : fst 30 + num 30 = 2 ^ 30 := by decide +kernel
theorem fst_le {n : Nat} (h : n < 31) : fst n + num n ≤ 1073741824 := by
  have h1 := full_all n h
  have h2 : 2 ^ n ≤ 2 ^ 30 := Nat.pow_le_pow_right (by decide) (by omega)
  have h3 : (2 : Nat) ^ 30 = 1073741824 := by decide
  omega
theorem ahd_le : ∀ n, n < 31 → ahd n + num n ≤ 257 := by decide +kernel
theorem code_lt {s : Nat} (h : s < 257) : code s < 2 ^ sz s := by
  have h1 := full_all (sz s) (by have := sz_hi h; omega)
  have h2 := rank_num s h
  unfold code
  omega
theorem code_le {s : Nat} (h : s < 257) : code s < 1073741824 := by
  have h1 := fst_le (n := sz s) (by have := sz_hi h; omega)
  have h2 := rank_num s h
  unfold code
  omega
theorem pos_lt {s : Nat} (h : s < 257) : pos s < 257 := by
  have h1 := ahd_le (sz s) (by have := sz_hi h; omega)
  have h2 := rank_num s h
  unfold pos
  omega
/-- The symbols, as the codes are handed out. -/
def ords : List Nat := [48, 49, 50, 97, 99, 101, 105, 111, 115, 116, 32, 37, 45, 46, 47, 51, 52, 53, 54, 55, 56, 57, 61, 65, 95, 98, 100, 102, 103, 104, 108, 109, 110, 112, 114, 117, 58, 66, 67, 68, 69, 70, 71, 72, 73, 74, 75, 76, 77, 78, 79, 80, 81, 82, 83, 84, 85, 86, 87, 89, 106, 107, 113, 118, 119, 120, 121, 122, 38, 42, 44, 59, 88, 90, 33, 34, 40, 41, 63, 39, 43, 124, 35, 62, 0, 36, 64, 91, 93, 126, 94, 125, 60, 96, 123, 92, 195, 208, 128, 130, 131, 162, 184, 194, 224, 226, 153, 161, 167, 172, 176, 177, 179, 209, 216, 217, 227, 229, 230, 129, 132, 133, 134, 136, 146, 154, 156, 160, 163, 164, 169, 170, 173, 178, 181, 185, 186, 187, 189, 190, 196, 198, 228, 232, 233, 1, 135, 137, 138, 139, 140, 141, 143, 147, 149, 150, 151, 152, 155, 157, 158, 165, 166, 168, 174, 175, 180, 182, 183, 188, 191, 197, 231, 239, 9, 142, 144, 145, 148, 159, 171, 206, 215, 225, 236, 237, 199, 207, 234, 235, 192, 193, 200, 201, 202, 205, 210, 213, 218, 219, 238, 240, 242, 243, 255, 203, 204, 211, 212, 214, 221, 222, 223, 241, 244, 245, 246, 247, 248, 250, 251, 252, 253, 254, 2, 3, 4, 5, 6, 7, 8, 11, 12, 14, 15, 16, 17, 18, 19, 20, 21, 23, 24, 25, 26, 27, 28, 29, 30, 31, 127, 220, 249, 10, 13, 22, 256]
def ord (i : Nat) : Nat := ords.getD i 0
theorem ord_all : ∀ s, s < 257 → ord (pos s) = s := by decide +kernel
theorem ord_back : ∀ i, i < 257 → ord i < 257 ∧ pos (ord i) = i := by decide +kernel
theorem pos_inj {s s' : Nat} (h : s < 257) (h' : s' < 257) (e : pos s = pos s') : s = s' := by rw [← ord_all s h, ← ord_all s' h', e]
/-- The symbol whose code these n bits are. -/
def sym (bits n : Nat) : Option Nat := if fst n ≤ bits ∧ bits < fst n + num n then some (ord (ahd n + (bits - fst n))) else none
theorem sym_code : ∀ s, s < 257 → sym (code s) (sz s) = some s := by decide +kernel
end Hf
end Go.Proofs.YtlkieeindnpidaaDoor.Hu

namespace Go.Proofs.YtlkieeindnpidaaDoor.Hu
open Go.RowKit

/-- The bytes of a list as cells. -/
def cellsOf (l : List UInt8) : List Value := l.map fun x => .int .u8 (x.toNat : Int)
theorem cellsOf_length (l : List UInt8) : (cellsOf l).length = l.length := by simp [cellsOf]
theorem cellsOf_append (l m : List UInt8) : cellsOf (l ++ m) = cellsOf l ++ cellsOf m := by simp [cellsOf]
theorem cellsOf_get {l : List UInt8} {j : Nat} (h : j < l.length) : (cellsOf l)[j]? = some (.int .u8 ((l[j]).toNat : Int)) := by simp [cellsOf, h]
theorem cellsOf_one (l : List UInt8) : ∀ u ∈ cellsOf l, u.oneCell' = true := by
  intro u hu
  obtain ⟨_, _, rfl⟩ := List.mem_map.1 hu
  rfl

/-- A slice (at a, of n bytes, of capacity c) reads as the bytes l. -/
structure Sl (w : World) (a : Option Addr) (n c : Nat) (l : List UInt8) : Prop where
  len : l.length = n
  le : n ≤ c
  max : c ≤ maxLen
  nil : a = none → c = 0
  row : ∀ i (h : i < l.length), ∃ b o, a = some ⟨b, o, none⟩ ∧ w.cell? ⟨b, o + i, none⟩ = some (.int .u8 ((l[i]).toNat : Int))

theorem Sl.cell {w : World} {b o n c : Nat} {l : List UInt8} (h : Sl w (some ⟨b, o, none⟩) n c l) {i : Nat} (hi : i < l.length) : w.cell? ⟨b, o + i, none⟩ = some (.int .u8 ((l[i]).toNat : Int)) := by
  obtain ⟨b', o', e, hc⟩ := h.row i hi
  cases e
  exact hc
theorem Sl.some {w : World} {a : Option Addr} {n c : Nat} {l : List UInt8} (h : Sl w a n c l) (hn : 0 < l.length) : ∃ b o, a = some ⟨b, o, none⟩ := by
  obtain ⟨b, o, e, _⟩ := h.row 0 hn
  exact ⟨b, o, e⟩
theorem Sl.nine {w : World} {a : Option Addr} {n c : Nat} {l : List UInt8} (h : Sl w a n c l) : n ≤ 9223372036854775807 := by
  have h1 := h.le; have h2 := h.max; unfold maxLen at h2; omega

theorem cell_lt {w : World} {p : Addr} {v : Value} (h : w.cell? p = some v) : p.block < w.heap.size := by
  rcases Nat.lt_or_ge p.block w.heap.size with h' | h'
  · exact h'
  · simp [World.cell?, Array.getElem?_eq_none h'] at h

/-- What lies in old memory stays. -/
theorem Sl.kept {w w' : World} {a : Option Addr} {n c : Nat} {l : List UInt8} (h : Sl w a n c l) (hb : Below w.heap.size w w') : Sl w' a n c l :=
  ⟨h.len, h.le, h.max, h.nil, fun i hi => by
    obtain ⟨b, o, e, hc⟩ := h.row i hi
    exact ⟨b, o, e, (hb.cell (p := ⟨b, o + i, none⟩) (cell_lt hc)).trans hc⟩⟩
theorem Sl.drewN {w : World} {a : Option Addr} {n c : Nat} {l : List UInt8} (h : Sl w a n c l) (q : Nat) : Sl (w.drewN q) a n c l :=
  ⟨h.len, h.le, h.max, h.nil, fun i hi => by
    obtain ⟨b, o, e, hc⟩ := h.row i hi
    exact ⟨b, o, e, by simpa using hc⟩⟩
theorem Sl.alloc {w : World} {a : Option Addr} {n c : Nat} {l : List UInt8} (h : Sl w a n c l) (o : Obj) : Sl (w.alloc o) a n c l :=
  h.kept ((Below.refl _ _).alloc (Nat.le_refl _) o)

/-- A row of bytes of the call's own, from block B on. -/
def Own (w : World) (B : Nat) (v : Value) (l : List UInt8) : Prop := w.ownsRow B 5 1 v l.length (cellsOf l)

theorem Own.sl {w : World} {B : Nat} {v : Value} {l : List UInt8} (h : Own w B v l) : ∃ a c, v = .slice a l.length c ∧ Sl w a l.length c l := by
  obtain ⟨h1, h2⟩ := h
  rcases h2 with ⟨rfl, h0⟩ | ⟨g, cap, cur, rfl, hg, hh, hn, hm, hs, ht⟩
  · have : l = [] := List.length_eq_zero_iff.1 h0
    subst this
    exact ⟨none, 0, rfl, rfl, Nat.le_refl _, by unfold maxLen; omega, fun _ => rfl, fun i hi => by simp at hi⟩
  · refine ⟨_, _, rfl, rfl, hn, hm, (fun h => by cases h), fun i hi => ⟨g, 0, rfl, ?_⟩⟩
    have e : (cellsOf l)[i]? = cur[i]? := by
      rw [← ht, List.getElem?_take_of_lt (by simpa using hi)]
      simp
    rw [cellsOf_get hi] at e
    simp [World.cell?, hh, ← e]

theorem Own.kept {w w' : World} {B : Nat} {v : Value} {l : List UInt8} (h : Own w B v l) (hb : Below w.heap.size w w') : Own w' B v l := by
  refine World.ownsRow.kept (row := none) h ⟨hb.os, hb.tape, hb.output, hb.size, fun k hk _ => hb.block k hk⟩ ?_
  cases hv : v.ownBlock with
  | none => exact Or.inl rfl
  | some k => exact Or.inr (by simp)
theorem Own.mono {w : World} {B B' : Nat} {v : Value} {l : List UInt8} (h : Own w B v l) (hB : B' ≤ B) : Own w B' v l := by
  obtain ⟨h1, h2⟩ := h
  refine ⟨h1, ?_⟩
  rcases h2 with h2 | ⟨g, cap, cur, hv, hg, r⟩
  · exact Or.inl h2
  · exact Or.inr ⟨g, cap, cur, hv, by omega, r⟩
theorem Own.nil (w : World) (B : Nat) : Own w B (.slice none 0 0) [] := World.ownsRow_nil _ _ _ _

theorem Own.len {w : World} {B : Nat} {a : Option Addr} {N c : Nat} {l : List UInt8} (h : Own w B (.slice a N c) l) : N = l.length := by
  obtain ⟨a', c', e, _⟩ := h.sl
  cases e
  rfl
theorem Own.below {w w' : World} {B : Nat} {v : Value} {l : List UInt8} (h : Own w B v l) (hg : w.grownBy w' v.ownBlock) (hB : B ≤ w.heap.size) : Below B w w' :=
  (Below.refl B w).grown hg hB (fun k hk => (World.ownsRow.lt h k hk).1)

/-- The element type's row of the table. -/
theorem info8 : (Tryd.prog.info? 5).map (fun i => (i.zero, i.size, i.bytes)) = some (some (.int .u8 0), 1, 1) := by kernel_rfl

/-- 'make([]byte, 0, n)'. -/
theorem wp_make_bytes {w : World} {ops : Array Oper} {rest : List Oper} {o : Oper} {a : Act} {Q : Exit → Act → World → Prop}
    (hg : o.guard = none) (l c : Operand) (hop : o.op = Op.makeSlice 22 l c) (C : Int) (hl : a.eval l = .int .i64 0) (hc : a.eval c = .int .i64 C)
    (h0 : 0 ≤ C) (hn : C ≤ 140737488355328) (B : Nat) (hB : B ≤ w.heap.size)
    (hK : ∀ w' ad, Own w' B (.slice ad 0 C.toNat) [] → Below w.heap.size w w' → wpList Tryd.prog ops Q rest (a.put o.dst (.slice ad 0 C.toNat)) w') :
    wpList Tryd.prog ops Q (o :: rest) a w := by
  obtain ⟨i0, hi, hz0, hz1, hz2⟩ := info_parts info8
  refine wpList_make_own w hg l c _ hop B _ i0 (.int .u8 0) 1 Tryd.underlying22 hi hz0 hz1 .i64 .i64 C C.toNat hl hc (by omega) (by rw [hz2]; omega) (by unfold maxLen; omega) hB ?_
  intro w' h1 h2
  exact hK w' _ h1 ((Below.refl _ w).grown h2 (Nat.le_refl _) (fun k hk => by cases hk))

/-- 'append(s, x...)', s of the call's own, x whatever slice. -/
theorem wp_append_bytes {w : World} {ops : Array Oper} {rest : List Oper} {o : Oper} {a : Act} {Q : Exit → Act → World → Prop}
    (hgd : o.guard = none) (s x : Operand) (ho : o.op = .call { callee := .builtin .append, args := #[s, x], argTypes := #[22, 22] })
    (v : Value) (l m : List UInt8) (hs : a.eval s = v) (B : Nat) (hown : Own w B v l) (ad : Option Addr) (n c : Nat) (hx : a.eval x = .slice ad n c) (hsl : Sl w ad n c m)
    (hbytes : l.length + n ≤ 140737488355328) (hbase : B ≤ w.heap.size)
    (hK : ∀ w' ad' N' c', Hid (N' = (l ++ m).length) → Own w' B (.slice ad' N' c') (l ++ m) → Below B w w' → wpList Tryd.prog ops Q rest (a.put o.dst (.slice ad' N' c')) w') :
    wpList Tryd.prog ops Q (o :: rest) a w := by
  obtain ⟨i0, hi, hz0, hz1, hz2⟩ := info_parts info8
  have hlen := hsl.len
  cases ad with
  | none =>
    obtain rfl := hsl.nil rfl
    have hn : n = 0 := by have := hsl.le; omega
    subst hn
    obtain rfl : m = [] := List.length_eq_zero_iff.1 hlen
    obtain ⟨ad', c', rfl, _⟩ := hown.sl
    refine wpList_append_own_none hgd s x _ ho B _ i0 1 Tryd.underlying22 hi _ l.length _ hs hown hx ?_
    have h := hK w ad' l.length c' (by simp [Hid]) (by simpa using hown) (Below.refl _ _)
    exact h
  | some p =>
    refine wpList_append_own w hgd s x _ ho B _ i0 (.int .u8 0) 1 1 Tryd.underlying22 hi hz0 hz1 hz2 rfl (by decide) v l.length (cellsOf l) hs hown p n c (cellsOf m) hx
      (by rw [cellsOf_length]; omega) ?_ (cellsOf_one m) (by unfold maxLen; omega) (by omega) hbase ?_
    · intro j u hj
      have hjl : j < m.length := by
        have := (List.getElem?_eq_some_iff.1 hj).1
        simpa [cellsOf] using this
      obtain ⟨b, o', e, hc⟩ := hsl.row j hjl
      cases e
      rw [Addr.add_lit, hc]
      rw [cellsOf_get hjl] at hj
      exact hj
    · intro v' w' h1 h2 _
      have h1' : Own w' B v' (l ++ m) := by
        unfold Own
        rw [List.length_append, cellsOf_append, hlen]; exact h1
      obtain ⟨ad', c', rfl, _⟩ := h1'.sl
      exact hK w' ad' _ c' rfl h1' (hown.below h2 hbase)

/-- 'append(s, x...)' as a step of a region that draws its order. -/
theorem step_append_bytes {w : World} {ops : Array Oper} {o : Oper} {a : Act} {K : Act → World → Prop} {Q : Exit → Act → World → Prop} {E : Prop}
    (hgd : o.guard = none) (s x : Operand) (ho : o.op = .call { callee := .builtin .append, args := #[s, x], argTypes := #[22, 22] })
    (v : Value) (l m : List UInt8) (hs : a.eval s = v) (B : Nat) (hown : Own w B v l) (ad : Option Addr) (n c : Nat) (hx : a.eval x = .slice ad n c) (hsl : Sl w ad n c m)
    (hbytes : l.length + n ≤ 140737488355328) (hbase : B ≤ w.heap.size)
    (hK : ∀ w' ad' N' c', Hid (N' = (l ++ m).length) → Own w' B (.slice ad' N' c') (l ++ m) → Below B w w' → K (a.put o.dst (.slice ad' N' c')) w') :
    if Region.wanted o (yielded ops a.tmps) = true then Oper.wp Tryd.prog o a w K Q else E := by
  have hw : Region.wanted o (yielded ops a.tmps) = true := by simp [Region.wanted, hgd]
  rw [if_pos hw]
  obtain ⟨i0, hi, hz0, hz1, hz2⟩ := info_parts info8
  have hlen := hsl.len
  cases ad with
  | none =>
    obtain rfl := hsl.nil rfl
    have hn : n = 0 := by have := hsl.le; omega
    subst hn
    obtain rfl : m = [] := List.length_eq_zero_iff.1 hlen
    obtain ⟨ad', c', rfl, _⟩ := hown.sl
    have hrun := run_append_owned_none (P := Tryd.prog) (w := w) B 22 o.type _ i0 1 Tryd.underlying22 hi _ l.length _ hown
    unfold Oper.wp
    simp [execOp, ho, resolve, invoke, builtin, hs, hx, hrun, Result.andThen]
    exact hK w ad' l.length c' (by simp [Hid]) (by simpa using hown) (Below.refl _ _)
  | some p =>
    obtain ⟨v', w', hr, h2, h3, _, _⟩ := run_append_own_at (P := Tryd.prog) w B 22 o.type _ i0 (.int .u8 0) 1 1 Tryd.underlying22 hi hz0 hz1 hz2 rfl (by decide) v l.length (cellsOf l) hown p n c (cellsOf m)
      (by rw [cellsOf_length]; omega) (fun j u hj => by
        have hjl : j < m.length := by
          have := (List.getElem?_eq_some_iff.1 hj).1
          simpa [cellsOf] using this
        obtain ⟨b, o', e, hc⟩ := hsl.row j hjl
        cases e
        rw [Addr.add_lit, hc]
        rw [cellsOf_get hjl] at hj
        exact hj) (cellsOf_one m) (by unfold maxLen; omega) (by omega) hbase
    have h1' : Own w' B v' (l ++ m) := by
      unfold Own
      rw [List.length_append, cellsOf_append, hlen]; exact h2
    obtain ⟨ad', c', rfl, _⟩ := h1'.sl
    unfold Oper.wp
    simp [execOp, ho, resolve, invoke, builtin, hs, hx, hr, Result.andThen]
    have hfin := hK w' ad' (l ++ m).length c' (Lib.hid rfl) h1' (hown.below h3 hbase)
    rw [List.length_append] at hfin
    exact hfin

/-- A new block of one, of two bytes. -/
theorem sl_new1 (w : World) (y : Int) (x : UInt8) (h : y = (x.toNat : Int)) : Sl (w.alloc (.cells #[.int .u8 y] 5)) (some ⟨w.heap.size, 0, none⟩) 1 1 [x] := by
  subst h
  refine ⟨rfl, Nat.le_refl _, by unfold maxLen; omega, (fun h => by cases h), fun i hi => ⟨_, _, rfl, ?_⟩⟩
  obtain rfl : i = 0 := by simpa using hi
  simp
theorem sl_new2 (w : World) (y z : Int) (x1 x2 : UInt8) (h : y = (x1.toNat : Int)) (h2 : z = (x2.toNat : Int)) : Sl (w.alloc (.cells #[.int .u8 y, .int .u8 z] 5)) (some ⟨w.heap.size, 0, none⟩) 2 2 [x1, x2] := by
  subst h h2
  refine ⟨rfl, Nat.le_refl _, by unfold maxLen; omega, (fun h => by cases h), fun i hi => ⟨_, _, rfl, ?_⟩⟩
  have : i = 0 ∨ i = 1 := by simp at hi; omega
  rcases this with rfl | rfl <;> simp

theorem Own.alloc {w : World} {B : Nat} {v : Value} {l : List UInt8} (h : Own w B v l) (o : Obj) : Own (w.alloc o) B v l := World.ownsRow.alloc h o

theorem ret_u64 {x y : Int} {v v' w w' : Value} (h : x = y) (h2 : (v, w) = (v', w')) : Ending.returned (.tuple #[.int .u64 x, v, w]) = .returned (.tuple #[.int .u64 y, v', w']) := by
  cases h; cases h2; rfl

theorem elem8 : Tryd.prog.underlying 22 = some (.slice (Tryd.prog.elem 22)) := by kernel_rfl
theorem sizeOf8 (w : World) : (sizeOf (Tryd.prog.elem 22)).run Tryd.prog w = .ok 1 w := by kernel_rfl
/-- Where a part of a slice begins. -/
def partAt (a : Option Addr) (c lo : Nat) : Option Addr := if c = lo then a else a.map (·.add (lo * 1))
theorem sl_part {w : World} {a : Option Addr} {n c : Nat} {l : List UInt8} (h : Sl w a n c l) (lo N : Nat) (h2 : lo + N ≤ n) (l' : List UInt8) (hl' : l' = (l.drop lo).take N) : Sl w (partAt a c lo) N (c - lo) l' := by
  have hlen := h.len
  have hle := h.le
  have hmx := h.max
  subst hl'
  refine ⟨by simp; omega, by omega, by omega, fun hn => ?_, fun i hi => ?_⟩
  · unfold partAt at hn
    split at hn
    · rename_i hc; omega
    · cases a with
      | none => have := h.nil rfl; omega
      | some p => simp at hn
  · simp at hi
    obtain ⟨b, o, e, hc⟩ := h.row (lo + i) (by omega)
    subst e
    refine ⟨b, o + lo, ?_, ?_⟩
    · unfold partAt
      rw [if_neg (by omega)]
      simp [Addr.add_lit]
    · rw [show o + lo + i = o + (lo + i) by omega, hc]
      simp
theorem slice_lh (a : Option Addr) (n c : Nat) (lo hi : Int) (h0 : 0 ≤ lo) (h1 : lo ≤ hi) (h2 : hi ≤ c) (N C : Nat) (hN : N = hi.toNat - lo.toNat) (hC : C = c - lo.toNat) (L : Nat) (hL : L = lo.toNat) (w : World) :
    (Instr.slice 22 (.slice a n c) (some (.int .i64 lo)) (some (.int .i64 hi)) none).run Tryd.prog w = .ok (.slice (partAt a c L) N C) w := by
  subst hN hC hL
  rw [run_slice_lh w _ _ _ _ elem8 .i64 .i64 lo hi h0 h1 h2, sizeOf8]
  rfl
theorem slice_l (a : Option Addr) (n c : Nat) (lo : Int) (h0 : 0 ≤ lo) (h1 : lo ≤ n) (N C : Nat) (hN : N = n - lo.toNat) (hC : C = c - lo.toNat) (L : Nat) (hL : L = lo.toNat) (w : World) :
    (Instr.slice 22 (.slice a n c) (some (.int .i64 lo)) none none).run Tryd.prog w = .ok (.slice (partAt a c L) N C) w := by
  subst hN hC hL
  rw [run_slice_l w _ _ _ _ elem8 .i64 lo h0 h1, sizeOf8]
  rfl
theorem slice_h (a : Option Addr) (n c : Nat) (hi : Int) (h0 : 0 ≤ hi) (h2 : hi ≤ c) (N : Nat) (hN : N = hi.toNat) (w : World) :
    (Instr.slice 22 (.slice a n c) none (some (.int .i64 hi)) none).run Tryd.prog w = .ok (.slice (partAt a c 0) N c) w := by
  subst hN
  rw [run_slice_h w _ _ _ _ elem8 .i64 hi h0 h2, sizeOf8]
  rfl

theorem below_drewN (w : World) (q : Nat) : Below w.heap.size w (w.drewN q) :=
  ⟨rfl, rfl, rfl, Nat.le_refl _, fun _ _ => rfl⟩
theorem bdN {B : Nat} {a w : World} (h : Below B a w) (n : Nat) : Below B a (w.drewN n) := h.trans ⟨rfl, rfl, rfl, Nat.le_refl _, fun _ _ => rfl⟩
theorem bcell {W w1 : World} (hb : Below W.heap.size W w1) : (∀ b o, b < W.heap.size → w1.cell? ⟨b, o, none⟩ = W.cell? ⟨b, o, none⟩) ∧ (∀ b o, b < W.heap.size → w1.frozen? ⟨b, o, none⟩ = W.frozen? ⟨b, o, none⟩) :=
  ⟨fun b o h => hb.cell (p := ⟨b, o, none⟩) h, fun b o h => hb.frozen (p := ⟨b, o, none⟩) h⟩

end Go.Proofs.YtlkieeindnpidaaDoor.Hu

namespace Go.Proofs.YtlkieeindnpidaaDoor.Hu
open Go.RowKit Hf

/-- The letters, as the code has them. -/
def lets : ByteArray := ⟨#[105, 115, 120, 120, 120, 120, 120, 120, 120, 116, 122, 120, 120, 122, 120, 120, 120, 120, 120, 120, 120, 120, 122, 120, 120, 120, 120, 120, 120, 120, 120, 120, 98, 102, 102, 104, 105, 98, 100, 103, 102, 102, 100, 103, 100, 98, 98, 98, 97, 97, 97, 98, 98, 98, 98, 98, 98, 98, 99, 100, 107, 98, 104, 102, 105, 98, 99, 99, 99, 99, 99, 99, 99, 99, 99, 99, 99, 99, 99, 99, 99, 99, 99, 99, 99, 99, 99, 99, 100, 99, 100, 105, 111, 105, 106, 98, 107, 97, 98, 97, 98, 97, 98, 98, 98, 97, 99, 99, 98, 98, 98, 97, 98, 99, 98, 97, 97, 98, 99, 99, 99, 99, 99, 107, 103, 106, 105, 120, 112, 114, 112, 112, 114, 114, 114, 115, 114, 115, 115, 115, 115, 115, 116, 115, 116, 116, 114, 115, 116, 115, 115, 115, 115, 113, 114, 115, 114, 115, 115, 116, 114, 113, 112, 114, 114, 115, 115, 113, 115, 114, 114, 116, 113, 114, 115, 115, 113, 113, 114, 113, 115, 114, 115, 115, 112, 114, 114, 114, 115, 114, 114, 115, 118, 118, 112, 111, 114, 115, 114, 117, 118, 118, 118, 119, 119, 118, 116, 117, 111, 113, 118, 119, 119, 118, 119, 116, 113, 113, 118, 118, 120, 119, 119, 119, 112, 116, 112, 113, 114, 113, 113, 115, 114, 114, 117, 117, 116, 116, 118, 115, 118, 119, 118, 118, 119, 119, 119, 119, 119, 120, 119, 119, 119, 119, 119, 118, 122]⟩
theorem lets_size : lets.size = 257 := by decide +kernel
theorem lets_all : ∀ s, (h : s < 257) → ((((lets[s]'(by rw [lets_size]; exact h)).toNat : Int) - 97) % 256 + 5 = (sz s : Int)) := by decide +kernel
theorem ret_int {k : IntKind} {a b : Int} (h : a = b) : Ending.returned (.int k a) = .returned (.int k b) := by rw [h]

set_option maxRecDepth 100000 in
theorem size_any (s : Nat) (h : s < 257) (w : World) : Calls Tryd.prog 92 #[.int .i64 (s : Int)] w fun e w' => e = .returned (.int .i64 (sz s : Int)) ∧ w = w' := by
  go_enter Tryd.func92, Tryd.ntmps92
  go_wp2
  go_ret
  exact ⟨ret_int (lets_all s h), rfl⟩

/-- A book that is being made, in block b: the codes, the symbols in the codes' order, of each number of bits the first code, how many, how many ahead. -/
structure Bk (w : World) (b : Nat) (c o f n a : Nat → Nat) : Prop where
  lt : b < w.heap.size
  c : ∀ i, i < 257 → w.cell? ⟨b, i, none⟩ = some (.int .u32 (c i : Int))
  o : ∀ i, i < 257 → w.cell? ⟨b, 257 + i, none⟩ = some (.int .i64 (o i : Int))
  f : ∀ i, i < 31 → w.cell? ⟨b, 514 + i, none⟩ = some (.int .u32 (f i : Int))
  n : ∀ i, i < 31 → w.cell? ⟨b, 545 + i, none⟩ = some (.int .u32 (n i : Int))
  a : ∀ i, i < 31 → w.cell? ⟨b, 576 + i, none⟩ = some (.int .u32 (a i : Int))
  z : ∀ i, w.frozen? ⟨b, i, none⟩ = false

theorem zc_u : ∀ i, i < 257 → Tryd.zeroCells125[i]? = some (.int .u32 0) := by
  have h : (List.range 257).map (fun i => Tryd.zeroCells125[i]?) = (List.range 257).map (fun _ => some (.int .u32 0)) := by kernel_rfl
  intro i hi
  exact List.map_inj_left.1 h i (List.mem_range.2 hi)
theorem zc_i : ∀ i, i < 257 → Tryd.zeroCells125[257 + i]? = some (.int .i64 0) := by
  have h : (List.range 257).map (fun i => Tryd.zeroCells125[257 + i]?) = (List.range 257).map (fun _ => some (.int .i64 0)) := by kernel_rfl
  intro i hi
  exact List.map_inj_left.1 h i (List.mem_range.2 hi)
theorem zc_v : ∀ i, i < 93 → Tryd.zeroCells125[514 + i]? = some (.int .u32 0) := by
  have h : (List.range 93).map (fun i => Tryd.zeroCells125[514 + i]?) = (List.range 93).map (fun _ => some (.int .u32 0)) := by kernel_rfl
  intro i hi
  exact List.map_inj_left.1 h i (List.mem_range.2 hi)
theorem bk_zero (w : World) : Bk (w.alloc (.cells Tryd.zeroCells125 125)) w.heap.size (fun _ => 0) (fun _ => 0) (fun _ => 0) (fun _ => 0) (fun _ => 0) where
  lt := by simp
  c := fun i hi => by have := zc_u i hi; simpa using this
  o := fun i hi => by have := zc_i i hi; simpa using this
  f := fun i hi => by have := zc_v i (by omega); simpa using this
  n := fun i hi => by have := zc_v (31 + i) (by omega); rw [show 514 + (31 + i) = 545 + i by omega] at this; simpa using this
  a := fun i hi => by have := zc_v (62 + i) (by omega); rw [show 514 + (62 + i) = 576 + i by omega] at this; simpa using this
  z := fun i => by simp
theorem Bk.kept {w w' : World} {b : Nat} {c o f n a : Nat → Nat} (h : Bk w b c o f n a) (hb : Below (b + 1) w w') : Bk w' b c o f n a where
  lt := Nat.lt_of_lt_of_le h.lt hb.size
  c := fun i hi => (hb.cell (p := ⟨b, i, none⟩) (Nat.lt_succ_self b)).trans (h.c i hi)
  o := fun i hi => (hb.cell (p := ⟨b, 257 + i, none⟩) (Nat.lt_succ_self b)).trans (h.o i hi)
  f := fun i hi => (hb.cell (p := ⟨b, 514 + i, none⟩) (Nat.lt_succ_self b)).trans (h.f i hi)
  n := fun i hi => (hb.cell (p := ⟨b, 545 + i, none⟩) (Nat.lt_succ_self b)).trans (h.n i hi)
  a := fun i hi => (hb.cell (p := ⟨b, 576 + i, none⟩) (Nat.lt_succ_self b)).trans (h.a i hi)
  z := fun i => (hb.frozen (p := ⟨b, i, none⟩) (Nat.lt_succ_self b)).trans (h.z i)
/-- One cell of it is turned. -/
theorem cell_set (w : World) (b o : Nat) (v : Value) (o' : Nat) (u : Value) (h : w.cell? ⟨b, o', none⟩ = some u) : (w.setCell ⟨b, o, none⟩ v).cell? ⟨b, o', none⟩ = some (if o' = o then v else u) := by
  by_cases e : o' = o
  · subst e
    rw [if_pos rfl]
    exact World.cell?_setCell_same' _ _ _ (by rw [h]; rfl)
  · rw [if_neg e]
    simp [go_sem, h, e, fun q : o = o' => e q.symm]
theorem Bk.setN {w : World} {b : Nat} {c o f n a : Nat → Nat} (h : Bk w b c o f n a) (k x : Nat) (hk : k < 31) : Bk (w.setCell ⟨b, 545 + k, none⟩ (.int .u32 (x : Int))) b c o f (fun i => if i = k then x else n i) a where
  lt := by simpa using h.lt
  c := fun i hi => by rw [cell_set _ _ _ _ _ _ (h.c i hi), if_neg (by omega)]
  o := fun i hi => by rw [cell_set _ _ _ _ _ _ (h.o i hi), if_neg (by omega)]
  f := fun i hi => by rw [cell_set _ _ _ _ _ _ (h.f i hi), if_neg (by omega)]
  n := fun i hi => by
    rw [cell_set _ _ _ _ _ _ (h.n i hi)]
    by_cases e : i = k
    · rw [if_pos (by omega), if_pos e]
    · rw [if_neg (by omega), if_neg e]
  a := fun i hi => by rw [cell_set _ _ _ _ _ _ (h.a i hi), if_neg (by omega)]
  z := fun i => by rw [World.frozen?_setCell]; exact h.z i

theorem Bk.setF {w : World} {b : Nat} {c o f n a : Nat → Nat} (h : Bk w b c o f n a) (k x : Nat) (hk : k < 31) : Bk (w.setCell ⟨b, 514 + k, none⟩ (.int .u32 (x : Int))) b c o (fun i => if i = k then x else f i) n a where
  lt := by simpa using h.lt
  c := fun i hi => by rw [cell_set _ _ _ _ _ _ (h.c i hi), if_neg (by omega)]
  o := fun i hi => by rw [cell_set _ _ _ _ _ _ (h.o i hi), if_neg (by omega)]
  f := fun i hi => by
    rw [cell_set _ _ _ _ _ _ (h.f i hi)]
    by_cases e : i = k
    · rw [if_pos (by omega), if_pos e]
    · rw [if_neg (by omega), if_neg e]
  n := fun i hi => by rw [cell_set _ _ _ _ _ _ (h.n i hi), if_neg (by omega)]
  a := fun i hi => by rw [cell_set _ _ _ _ _ _ (h.a i hi), if_neg (by omega)]
  z := fun i => by rw [World.frozen?_setCell]; exact h.z i
theorem Bk.setA {w : World} {b : Nat} {c o f n a : Nat → Nat} (h : Bk w b c o f n a) (k x : Nat) (hk : k < 31) : Bk (w.setCell ⟨b, 576 + k, none⟩ (.int .u32 (x : Int))) b c o f n (fun i => if i = k then x else a i) where
  lt := by simpa using h.lt
  c := fun i hi => by rw [cell_set _ _ _ _ _ _ (h.c i hi), if_neg (by omega)]
  o := fun i hi => by rw [cell_set _ _ _ _ _ _ (h.o i hi), if_neg (by omega)]
  f := fun i hi => by rw [cell_set _ _ _ _ _ _ (h.f i hi), if_neg (by omega)]
  n := fun i hi => by rw [cell_set _ _ _ _ _ _ (h.n i hi), if_neg (by omega)]
  a := fun i hi => by
    rw [cell_set _ _ _ _ _ _ (h.a i hi)]
    by_cases e : i = k
    · rw [if_pos (by omega), if_pos e]
    · rw [if_neg (by omega), if_neg e]
  z := fun i => by rw [World.frozen?_setCell]; exact h.z i
theorem Bk.setC {w : World} {b : Nat} {c o f n a : Nat → Nat} (h : Bk w b c o f n a) (k x : Nat) (hk : k < 257) : Bk (w.setCell ⟨b, k, none⟩ (.int .u32 (x : Int))) b (fun i => if i = k then x else c i) o f n a where
  lt := by simpa using h.lt
  c := fun i hi => by rw [cell_set _ _ _ _ _ _ (h.c i hi)]; by_cases e : i = k <;> simp [e]
  o := fun i hi => by rw [cell_set _ _ _ _ _ _ (h.o i hi), if_neg (by omega)]
  f := fun i hi => by rw [cell_set _ _ _ _ _ _ (h.f i hi), if_neg (by omega)]
  n := fun i hi => by rw [cell_set _ _ _ _ _ _ (h.n i hi), if_neg (by omega)]
  a := fun i hi => by rw [cell_set _ _ _ _ _ _ (h.a i hi), if_neg (by omega)]
  z := fun i => by rw [World.frozen?_setCell]; exact h.z i
theorem Bk.setO {w : World} {b : Nat} {c o f n a : Nat → Nat} (h : Bk w b c o f n a) (k x : Nat) (hk : k < 257) : Bk (w.setCell ⟨b, 257 + k, none⟩ (.int .i64 (x : Int))) b c (fun i => if i = k then x else o i) f n a where
  lt := by simpa using h.lt
  c := fun i hi => by rw [cell_set _ _ _ _ _ _ (h.c i hi), if_neg (by omega)]
  o := fun i hi => by
    rw [cell_set _ _ _ _ _ _ (h.o i hi)]
    by_cases e : i = k
    · rw [if_pos (by omega), if_pos e]
    · rw [if_neg (by omega), if_neg e]
  f := fun i hi => by rw [cell_set _ _ _ _ _ _ (h.f i hi), if_neg (by omega)]
  n := fun i hi => by rw [cell_set _ _ _ _ _ _ (h.n i hi), if_neg (by omega)]
  a := fun i hi => by rw [cell_set _ _ _ _ _ _ (h.a i hi), if_neg (by omega)]
  z := fun i => by rw [World.frozen?_setCell]; exact h.z i
theorem Bk.alike {w : World} {b : Nat} {c o f n a c' o' f' n' a' : Nat → Nat} (h : Bk w b c o f n a) (h1 : ∀ i, i < 257 → c i = c' i) (h2 : ∀ i, i < 257 → o i = o' i) (h3 : ∀ i, i < 31 → f i = f' i) (h4 : ∀ i, i < 31 → n i = n' i) (h5 : ∀ i, i < 31 → a i = a' i) : Bk w b c' o' f' n' a' where
  lt := h.lt
  c := fun i hi => by rw [← h1 i hi]; exact h.c i hi
  o := fun i hi => by rw [← h2 i hi]; exact h.o i hi
  f := fun i hi => by rw [← h3 i hi]; exact h.f i hi
  n := fun i hi => by rw [← h4 i hi]; exact h.n i hi
  a := fun i hi => by rw [← h5 i hi]; exact h.a i hi
  z := h.z
abbrev z31c : Array Value := #[.int .u32 0, .int .u32 0, .int .u32 0, .int .u32 0, .int .u32 0, .int .u32 0, .int .u32 0, .int .u32 0, .int .u32 0, .int .u32 0, .int .u32 0, .int .u32 0, .int .u32 0, .int .u32 0, .int .u32 0, .int .u32 0, .int .u32 0, .int .u32 0, .int .u32 0, .int .u32 0, .int .u32 0, .int .u32 0, .int .u32 0, .int .u32 0, .int .u32 0, .int .u32 0, .int .u32 0, .int .u32 0, .int .u32 0, .int .u32 0, .int .u32 0]
abbrev z31 : Obj := .cells #[.int .u32 0, .int .u32 0, .int .u32 0, .int .u32 0, .int .u32 0, .int .u32 0, .int .u32 0, .int .u32 0, .int .u32 0, .int .u32 0, .int .u32 0, .int .u32 0, .int .u32 0, .int .u32 0, .int .u32 0, .int .u32 0, .int .u32 0, .int .u32 0, .int .u32 0, .int .u32 0, .int .u32 0, .int .u32 0, .int .u32 0, .int .u32 0, .int .u32 0, .int .u32 0, .int .u32 0, .int .u32 0, .int .u32 0, .int .u32 0, .int .u32 0] 123
/-- How many were taken, in block b. -/
structure Tk (w : World) (b : Nat) (n : Nat → Nat) : Prop where
  n : ∀ i, i < 31 → w.cell? ⟨b, i, none⟩ = some (.int .u32 (n i : Int))
  z : ∀ i, w.frozen? ⟨b, i, none⟩ = false
  lt : b < w.heap.size
theorem Tk.set {w : World} {b : Nat} {n : Nat → Nat} (h : Tk w b n) (k x : Nat) : Tk (w.setCell ⟨b, k, none⟩ (.int .u32 (x : Int))) b (fun i => if i = k then x else n i) where
  n := fun i hi => by rw [cell_set _ _ _ _ _ _ (h.n i hi)]; by_cases e : i = k <;> simp [e]
  z := fun i => by rw [World.frozen?_setCell]; exact h.z i
  lt := by simpa using h.lt
theorem Tk.apart {w : World} {b : Nat} {n : Nat → Nat} (h : Tk w b n) (b' o : Nat) (v : Value) (hb : b' ≠ b) : Tk (w.setCell ⟨b', o, none⟩ v) b n where
  n := fun i hi => by have := h.n i hi; simp [go_sem, this, hb, fun q : b = b' => hb q.symm]
  z := fun i => by rw [World.frozen?_setCell]; exact h.z i
  lt := by simpa using h.lt
theorem Tk.kept {w w' : World} {b : Nat} {n : Nat → Nat} (h : Tk w b n) (hb : Below (b + 1) w w') : Tk w' b n where
  n := fun i hi => (hb.cell (p := ⟨b, i, none⟩) (Nat.lt_succ_self b)).trans (h.n i hi)
  z := fun i => (hb.frozen (p := ⟨b, i, none⟩) (Nat.lt_succ_self b)).trans (h.z i)
  lt := Nat.lt_of_lt_of_le h.lt hb.size
theorem Tk.alike {w : World} {b : Nat} {n n' : Nat → Nat} (h : Tk w b n) (h4 : ∀ i, i < 31 → n i = n' i) : Tk w b n' where
  n := fun i hi => by rw [← h4 i hi]; exact h.n i hi
  z := h.z
  lt := h.lt
theorem Bk.apart {w : World} {b : Nat} {c o f n a : Nat → Nat} (h : Bk w b c o f n a) (b' q : Nat) (v : Value) (hb : b' ≠ b) : Bk (w.setCell ⟨b', q, none⟩ v) b c o f n a where
  lt := by simpa using h.lt
  c := fun i hi => by have := h.c i hi; simp [go_sem, this, hb, fun q : b = b' => hb q.symm]
  o := fun i hi => by have := h.o i hi; simp [go_sem, this, hb, fun q : b = b' => hb q.symm]
  f := fun i hi => by have := h.f i hi; simp [go_sem, this, hb, fun q : b = b' => hb q.symm]
  n := fun i hi => by have := h.n i hi; simp [go_sem, this, hb, fun q : b = b' => hb q.symm]
  a := fun i hi => by have := h.a i hi; simp [go_sem, this, hb, fun q : b = b' => hb q.symm]
  z := fun i => by rw [World.frozen?_setCell]; exact h.z i

/-- The book's cells. -/
def bookL : List Value := (List.range 257).map (fun i => .int .u32 (code i : Int)) ++ (List.range 257).map (fun i => .int .i64 (ord i : Int)) ++ (List.range 31).map (fun i => .int .u32 (fst i : Int)) ++ (List.range 31).map (fun i => .int .u32 (num i : Int)) ++ (List.range 31).map (fun i => .int .u32 (ahd i : Int))
theorem bookL_len : bookL.length = 607 := by simp [bookL]
theorem bookL_one : ∀ v ∈ bookL, v.oneCell' = true := by
  intro v hv
  simp only [bookL, List.mem_append, List.mem_map] at hv
  rcases hv with (((⟨i, _, rfl⟩ | ⟨i, _, rfl⟩) | ⟨i, _, rfl⟩) | ⟨i, _, rfl⟩) | ⟨i, _, rfl⟩ <;> rfl
theorem info_book : (Tryd.prog.info? 125).map (·.size) = some bookL.length := by rw [bookL_len]; kernel_rfl
theorem bookL_get (i : Nat) : bookL[i]? = if i < 257 then some (.int .u32 (code i : Int)) else if i < 514 then some (.int .i64 (ord (i - 257) : Int)) else if i < 545 then some (.int .u32 (fst (i - 514) : Int)) else if i < 576 then some (.int .u32 (num (i - 545) : Int)) else if i < 607 then some (.int .u32 (ahd (i - 576) : Int)) else none := by
  unfold bookL
  by_cases h1 : i < 257
  · rw [if_pos h1, List.getElem?_append_left (by simp; omega), List.getElem?_append_left (by simp; omega), List.getElem?_append_left (by simp; omega), List.getElem?_append_left (by simp; omega)]
    simp [h1]
  rw [if_neg h1]
  by_cases h2 : i < 514
  · rw [if_pos h2, List.getElem?_append_left (by simp; omega), List.getElem?_append_left (by simp; omega), List.getElem?_append_left (by simp; omega), List.getElem?_append_right (by simp; omega)]
    simp [show i - 257 < 257 by omega]
  rw [if_neg h2]
  by_cases h3 : i < 545
  · rw [if_pos h3, List.getElem?_append_left (by simp; omega), List.getElem?_append_left (by simp; omega), List.getElem?_append_right (by simp; omega)]
    simp [show i - 514 < 31 by omega]
  rw [if_neg h3]
  by_cases h4 : i < 576
  · rw [if_pos h4, List.getElem?_append_left (by simp; omega), List.getElem?_append_right (by simp; omega)]
    simp [show i - 545 < 31 by omega]
  rw [if_neg h4]
  rw [List.getElem?_append_right (by simp; omega)]
  by_cases h5 : i < 607
  · rw [if_pos h5]
    simp [show i - 576 < 31 by omega]
  · rw [if_neg h5]
    simp; omega
theorem Bk.range {w : World} {b : Nat} (h : Bk w b code ord fst num ahd) : w.rangeAt b 0 bookL := by
  intro j v hv
  rw [bookL_get] at hv
  rw [Nat.zero_add]
  split at hv
  · rename_i h1; rw [← hv]; exact h.c j h1
  split at hv
  · rename_i h1 h2; rw [← hv]; have := h.o (j - 257) (by omega); rwa [show 257 + (j - 257) = j by omega] at this
  split at hv
  · rename_i h1 h2 h3; rw [← hv]; have := h.f (j - 514) (by omega); rwa [show 514 + (j - 514) = j by omega] at this
  split at hv
  · rename_i h1 h2 h3 h4; rw [← hv]; have := h.n (j - 545) (by omega); rwa [show 545 + (j - 545) = j by omega] at this
  split at hv
  · rename_i h1 h2 h3 h4 h5; rw [← hv]; have := h.a (j - 576) (by omega); rwa [show 576 + (j - 576) = j by omega] at this
  · cases hv
theorem Bk.there {w : World} {b : Nat} {c o f n a : Nat → Nat} (h : Bk w b c o f n a) : w.there b 0 607 := by
  intro j hj
  rw [Nat.zero_add]
  refine ⟨?_, h.z j⟩
  by_cases h1 : j < 257
  · rw [h.c j h1]; rfl
  by_cases h2 : j < 514
  · have := h.o (j - 257) (by omega); rw [show 257 + (j - 257) = j by omega] at this; rw [this]; rfl
  by_cases h3 : j < 545
  · have := h.f (j - 514) (by omega); rw [show 514 + (j - 514) = j by omega] at this; rw [this]; rfl
  by_cases h4 : j < 576
  · have := h.n (j - 545) (by omega); rw [show 545 + (j - 545) = j by omega] at this; rw [this]; rfl
  · have := h.a (j - 576) (by omega); rw [show 576 + (j - 576) = j by omega] at this; rw [this]; rfl
theorem res_book {tmps : Array Value} (w : World) {b : Nat} (hr : w.rangeAt b 0 bookL) (ht : tmps.getD 0 undef = .pointer (some ⟨b, 0, none⟩)) : (results Tryd.f71 tmps).run Tryd.prog w = .ok (.agg bookL.toArray) w := by
  have hp' : tmps[0]?.getD undef = .pointer (some ⟨b, 0, none⟩) := by simpa using ht
  simp [results, Tryd.results71, hp', asAddr, run_loadVar_mid w b 0 125 bookL (.struct _) hr Tryd.underlying125 rfl info_book]
theorem below_setCells {B b : Nat} (hb : B ≤ b) : ∀ (vs : List Value) (o : Nat) {w w' : World}, Below B w w' → Below B w (w'.setCells b o vs)
  | [], _, _, _, h => h
  | v :: vs, o, _, _, h => below_setCells hb vs (o + 1) (h.setCell (p := ⟨b, o, none⟩) hb v)
theorem bk_of_range {w : World} {b : Nat} (hb : b < w.heap.size) (hr : w.rangeAt b 0 bookL) (hz : ∀ i, w.frozen? ⟨b, i, none⟩ = false) : Bk w b code ord fst num ahd := by
  have key : ∀ j v, bookL[j]? = some v → w.cell? ⟨b, j, none⟩ = some v := fun j v h => by have := hr j v h; rwa [Nat.zero_add] at this
  refine ⟨hb, fun i hi => key i _ ?_, fun i hi => key (257 + i) _ ?_, fun i hi => key (514 + i) _ ?_, fun i hi => key (545 + i) _ ?_, fun i hi => key (576 + i) _ ?_, hz⟩
  · rw [bookL_get, if_pos hi]
  · rw [bookL_get, if_neg (by omega), if_pos (by omega)]; simp
  · rw [bookL_get, if_neg (by omega), if_neg (by omega), if_pos (by omega)]; simp
  · rw [bookL_get, if_neg (by omega), if_neg (by omega), if_neg (by omega), if_pos (by omega)]; simp
  · rw [bookL_get, if_neg (by omega), if_neg (by omega), if_neg (by omega), if_neg (by omega), if_pos (by omega)]; simp

set_option maxRecDepth 100000 in
set_option maxHeartbeats 4000000 in
theorem newBook_any (w : World) : Calls Tryd.prog 71 #[] w fun e w' => e = .returned (.agg bookL.toArray) ∧ Below w.heap.size w w' := by
  have hbA : Bk ((w.alloc (.cells Tryd.zeroCells125 125)).alloc (.cells Tryd.zeroCells125 125)) w.heap.size (fun _ => 0) (fun _ => 0) (fun _ => 0) (fun _ => 0) (fun _ => 0) :=
    (bk_zero w).kept ((Below.refl _ _).alloc (by simp) _)
  have hb0 : Bk ((w.alloc (.cells Tryd.zeroCells125 125)).alloc (.cells Tryd.zeroCells125 125)) (w.heap.size + 1) (fun _ => 0) (fun _ => 0) (fun _ => 0) (fun _ => 0) (fun _ => 0) := by
    have := bk_zero (w.alloc (.cells Tryd.zeroCells125 125))
    rwa [World.size_alloc] at this
  have hBW : Below w.heap.size w ((w.alloc (.cells Tryd.zeroCells125 125)).alloc (.cells Tryd.zeroCells125 125)) := ((Below.refl _ _).alloc (Nat.le_refl _) _).alloc (by simp) _
  go_enter Tryd.func71, Tryd.ntmps71
  go_wp2
  generalize ((w.alloc (Obj.cells Tryd.zeroCells125 125)).alloc (Obj.cells Tryd.zeroCells125 125)) = W0 at hbA hb0 hBW ⊢
  go_loopw [7] (fun s7 wr => ∃ k : Nat, s7 = .int .i64 (k : Int) ∧ k ≤ 257 ∧ Bk wr (w.heap.size + 1) (fun _ => 0) (fun _ => 0) (fun _ => 0) (cnt k) (fun _ => 0) ∧ Below (w.heap.size + 1) W0 wr)
    (fun s7 _ => 257 - (intOf s7).toNat)
  case atStart => exact ⟨0, rfl, by omega, by rw [show cnt 0 = fun _ => 0 from funext cnt_zero]; exact hb0, Below.refl _ _⟩
  case round =>
    obtain ⟨k, rfl, hk, hbk, hB⟩ := hrel
    by_cases hlt : k < 257
    · have hz1 := sz_lo hlt
      have hz2 := sz_hi hlt
      have hc := hbk.n (sz k) (by omega)
      have hf := hbk.z (545 + sz k)
      have hcl := cnt_le k (sz k)
      have hsz := hbk.lt
      go_wp2_with fail
      refine (size_any k hlt _).mono ?_
      rintro e w2 ⟨rfl, rfl⟩
      go_wp2_with fail
      refine ⟨⟨k + 1, by go_num, by omega, ?_, hB.setCell (Nat.le_refl _) _⟩, by simp [intOf]; omega⟩
      have := hbk.setN (sz k) (cnt k (sz k) + 1) (by omega)
      refine Bk.alike this (fun _ _ => rfl) (fun _ _ => rfl) (fun _ _ => rfl) (fun i _ => ?_) (fun _ _ => rfl)
      by_cases e : i = sz k
      · rw [if_pos e, e, cnt_same hlt]
      · rw [if_neg e, cnt_other hlt e]
    · obtain rfl : k = 257 := by omega
      have hbn : Bk wr (w.heap.size + 1) (fun _ => 0) (fun _ => 0) (fun i => if i < 4 + 1 then fst i else 0) num (fun i => if i < 4 + 1 then ahd i else 0) := by
        refine Bk.alike hbk (fun _ _ => rfl) (fun _ _ => rfl) (fun i _ => ?_) num_all (fun i _ => ?_)
        · split
          · rename_i h; exact (low_all i h).1.symm
          · rfl
        · split
          · rename_i h; exact (low_all i h).2.1.symm
          · rfl
      clear hbk
      go_wp2
      go_loopw [3] (fun s3 wr => ∃ m : Nat, s3 = .int .i64 ((m : Int) + 1) ∧ 4 ≤ m ∧ m ≤ 30 ∧ Bk wr (w.heap.size + 1) (fun _ => 0) (fun _ => 0) (fun i => if i < m + 1 then fst i else 0) num (fun i => if i < m + 1 then ahd i else 0) ∧ Below (w.heap.size + 1) W0 wr)
        (fun s3 _ => 31 - (intOf s3).toNat)
      case atStart => exact ⟨4, rfl, by omega, by omega, hbn, hB⟩
      case round =>
        obtain ⟨m, rfl, hm4, hm, hbk, hB1⟩ := hrel
        by_cases hlt : m < 30
        · have q1 := hbk.f m (by omega)
          have q2 := hbk.n m (by omega)
          have q3 := hbk.a m (by omega)
          rw [if_pos (by omega)] at q1 q3
          have hfz := hbk.z
          have hsz := hbk.lt
          have hv1 := fst_le (n := m) (by omega)
          have hv2 := ahd_le m (by omega)
          have q4 := hbk.f (m + 1) (by omega)
          have q5 := hbk.a (m + 1) (by omega)
          go_wp2
          go_region
          have e1 : ((fst m : Int) + (num m : Int)) * 2 = ((fst (m + 1) : Nat) : Int) := by rw [fst_all m hlt]; simp
          rw [e1]
          have hk2 : Bk (wr.setCell ⟨w.heap.size + 1, 514 + (m + 1), none⟩ (.int .u32 (fst (m + 1) : Int))).drew (w.heap.size + 1) (fun _ => 0) (fun _ => 0) (fun i => if i < m + 1 + 1 then fst i else 0) num (fun i => if i < m + 1 then ahd i else 0) := by
            refine (Bk.alike (hbk.setF (m + 1) (fst (m + 1)) (by omega)) (fun _ _ => rfl) (fun _ _ => rfl) (fun i hi => ?_) (fun _ _ => rfl) (fun _ _ => rfl)).kept (Below.drew (Below.refl _ _))
            by_cases e : i = m + 1
            · subst e; simp
            · rw [if_neg e]
              by_cases e2 : i < m + 1
              · rw [if_pos e2, if_pos (by omega)]
              · rw [if_neg e2, if_neg (by omega)]
          have hB2 : Below (w.heap.size + 1) W0 (wr.setCell ⟨w.heap.size + 1, 514 + (m + 1), none⟩ (.int .u32 (fst (m + 1) : Int))).drew := (hB1.setCell (Nat.le_refl _) _).drew
          generalize (wr.setCell ⟨w.heap.size + 1, 514 + (m + 1), none⟩ (.int .u32 (fst (m + 1) : Int))).drew = W1 at hk2 hB2 ⊢
          clear q1 q2 q3 q4 q5 hfz hsz hbk hB1
          have q2 := hk2.n m (by omega)
          have q3 := hk2.a m (by omega)
          rw [if_pos (by omega)] at q3
          have hfz := hk2.z
          have hsz := hk2.lt
          have q5 := hk2.a (m + 1) (by omega)
          go_wp2
          go_region
          go_wp2
          have e2 : (ahd m : Int) + (num m : Int) = ((ahd (m + 1) : Nat) : Int) := by rw [ahd_all m hlt]; simp
          simp only [e2]
          refine ⟨⟨m + 1, by go_num, by omega, by omega, ?_, (hB2.setCell (Nat.le_refl _) _).drew⟩, by simp [intOf]; omega⟩
          refine (Bk.alike (hk2.setA (m + 1) (ahd (m + 1)) (by omega)) (fun _ _ => rfl) (fun _ _ => rfl) (fun _ _ => rfl) (fun _ _ => rfl) (fun i hi => ?_)).kept (Below.drew (Below.refl _ _))
          by_cases e : i = m + 1
          · subst e; simp
          · rw [if_neg e]
            by_cases e2 : i < m + 1
            · rw [if_pos e2, if_pos (by omega)]
            · rw [if_neg e2, if_neg (by omega)]
        · obtain rfl : m = 30 := by omega
          rw [show (((30 : Nat) : Int) + 1) = 31 from rfl]
          have hk2 : Bk wr (w.heap.size + 1) (fun i => if i < 0 then code i else 0) (fun i => if ord i < 0 then ord i else 0) fst num ahd := by
            refine Bk.alike hbk (fun i _ => by simp) (fun i _ => by simp) (fun i hi => by rw [if_pos (by omega)]) (fun _ _ => rfl) (fun i hi => by rw [if_pos (by omega)])
          clear hbk
          have ht : Tk (wr.alloc z31) wr.heap.size (cnt 0) := by
            refine ⟨fun i hi => ?_, fun i => by simp, by simp⟩
            rw [cnt_zero]
            have h : (List.range 31).map (fun i => z31c[i]?) = (List.range 31).map (fun _ => some (Value.int .u32 0)) := by rfl
            have := List.map_inj_left.1 h i (List.mem_range.2 hi)
            simpa using this
          have hk3 := hk2.kept ((Below.refl _ _).alloc hk2.lt z31)
          have hB3 := hB1.alloc (by have := hk2.lt; omega) z31
          have hb2 : w.heap.size + 1 < wr.heap.size := hk2.lt
          go_wp2
          generalize wr.alloc z31 = W2 at ht hk3 hB3 ⊢
          generalize wr.heap.size = b2 at ht hb2 ⊢
          clear hk2 hB1
          go_loopw [52] (fun s52 wr => ∃ k : Nat, s52 = .int .i64 (k : Int) ∧ k ≤ 257 ∧ Bk wr (w.heap.size + 1) (fun i => if i < k then code i else 0) (fun i => if ord i < k then ord i else 0) fst num ahd ∧ Tk wr b2 (cnt k) ∧ Below (w.heap.size + 1) W0 wr)
            (fun s52 _ => 257 - (intOf s52).toNat)
          case atStart => exact ⟨0, rfl, by omega, hk3, ht, hB3⟩
          case round =>
            obtain ⟨k, rfl, hk, hbk, htk, hB4⟩ := hrel
            by_cases hlt : k < 257
            · have hz1 := sz_lo hlt
              have hz2 := sz_hi hlt
              have hrk := rank_eq hlt
              have hrn := rank_num k hlt
              have q1 := hbk.f (sz k) (by omega)
              have q2 := htk.n (sz k) (by omega)
              rw [hrk] at q2
              have hv1 := fst_le (n := sz k) (by omega)
              have hv2 := ahd_le (sz k) (by omega)
              have q3 := hbk.c k hlt
              have hfz := hbk.z
              have hfz2 := htk.z
              have hsz := hbk.lt
              have hsz2 := htk.lt
              have hcode : (fst (sz k) : Int) + (rank k : Int) = ((code k : Nat) : Int) := by simp [code]
              have hpos : (ahd (sz k) : Int) + (rank k : Int) = ((pos k : Nat) : Int) := by simp [pos]
              have hposl := pos_lt hlt
              have hne : ¬ w.heap.size + 1 = b2 := by omega
              have hne' : ¬ b2 = w.heap.size + 1 := by omega
              go_wp2_with fail
              refine (size_any k hlt _).mono ?_
              rintro e w2 ⟨rfl, rfl⟩
              go_wp2_with fail
              go_region
              go_wp2
              have hk5 : Bk (wr.setCell ⟨w.heap.size + 1, k, none⟩ (.int .u32 (code k : Int))).drew (w.heap.size + 1) (fun i => if i < k + 1 then code i else 0) (fun i => if ord i < k then ord i else 0) fst num ahd := by
                refine (Bk.alike (hbk.setC k (code k) hlt) (fun i hi => ?_) (fun _ _ => rfl) (fun _ _ => rfl) (fun _ _ => rfl) (fun _ _ => rfl)).kept (Below.drew (Below.refl _ _))
                by_cases e : i = k
                · subst e; simp
                · rw [if_neg e]
                  by_cases e2 : i < k
                  · rw [if_pos e2, if_pos (by omega)]
                  · rw [if_neg e2, if_neg (by omega)]
              have ht5 : Tk (wr.setCell ⟨w.heap.size + 1, k, none⟩ (.int .u32 (code k : Int))).drew b2 (cnt k) := (htk.apart _ _ _ hne).kept (Below.drew (Below.refl _ _))
              have hB5 : Below (w.heap.size + 1) W0 (wr.setCell ⟨w.heap.size + 1, k, none⟩ (.int .u32 (code k : Int))).drew := (hB4.setCell (Nat.le_refl _) _).drew
              generalize (wr.setCell ⟨w.heap.size + 1, k, none⟩ (.int .u32 (code k : Int))).drew = W5 at hk5 ht5 hB5 ⊢
              clear q1 q2 q3 hfz hfz2 hsz hsz2 hbk htk hB4
              have q1 := hk5.a (sz k) (by omega)
              have q2 := ht5.n (sz k) (by omega)
              rw [hrk] at q2
              have q3 := hk5.o (pos k) hposl
              have hfz := hk5.z
              have hfz2 := ht5.z
              have hsz := hk5.lt
              have hsz2 := ht5.lt
              go_region
              go_wp2
              have hk6 : Bk (W5.setCell ⟨w.heap.size + 1, 257 + pos k, none⟩ (.int .i64 (k : Int))) (w.heap.size + 1) (fun i => if i < k + 1 then code i else 0) (fun i => if ord i < k + 1 then ord i else 0) fst num ahd := by
                refine (Bk.alike (hk5.setO (pos k) k hposl) (fun _ _ => rfl) (fun i hi => ?_) (fun _ _ => rfl) (fun _ _ => rfl) (fun _ _ => rfl))
                by_cases e : i = pos k
                · subst e; simp [ord_all k hlt]
                · rw [if_neg e]
                  have hne2 : ord i ≠ k := fun h => e (by rw [← h]; exact (ord_back i hi).2.symm)
                  by_cases e2 : ord i < k
                  · rw [if_pos e2, if_pos (by omega)]
                  · rw [if_neg e2, if_neg (by omega)]
              have ht6 : Tk (W5.setCell ⟨w.heap.size + 1, 257 + pos k, none⟩ (.int .i64 (k : Int))) b2 (cnt k) := ht5.apart _ _ _ hne
              have hB6 : Below (w.heap.size + 1) W0 (W5.setCell ⟨w.heap.size + 1, 257 + pos k, none⟩ (.int .i64 (k : Int))) := hB5.setCell (Nat.le_refl _) _
              have e3 : ((rank k : Int) + 1) = ((rank k + 1 : Nat) : Int) := by simp
              simp only [e3]
              refine ⟨⟨k + 1, by go_num, by omega, (hk6.apart b2 (sz k) _ hne').kept (Below.drew (Below.refl _ _)), ?_, (hB6.setCell (p := ⟨b2, sz k, none⟩) (by dsimp only; omega) _).drew⟩, by simp [intOf]; omega⟩
              refine (Tk.alike (ht6.set (sz k) (rank k + 1)) (fun i hi => ?_)).kept (Below.drew (Below.refl _ _))
              by_cases e : i = sz k
              · rw [if_pos e, e, cnt_same hlt, hrk]
              · rw [if_neg e, cnt_other hlt e]
            · obtain rfl : k = 257 := by omega
              have hbf : Bk wr (w.heap.size + 1) code ord fst num ahd := by
                refine Bk.alike hbk (fun i hi => by rw [if_pos hi]) (fun i hi => by rw [if_pos (ord_back i hi).1]) (fun _ _ => rfl) (fun _ _ => rfl) (fun _ _ => rfl)
              clear hbk htk
              have hth := (hbA.kept hB4).there
              go_wp2_with fail
              refine wp_load_mid (P := Tryd.prog) 125 _ rfl (w.heap.size + 1) 0 rfl bookL (.struct _) hbf.range Tryd.underlying125 rfl info_book ?_
              rename_i hK
              refine hK _ _ ?_
              refine wpList_store_mid (P := Tryd.prog) rfl 125 _ _ rfl w.heap.size 0 bookL.toArray rfl rfl (by rw [show bookL.toArray.size = 607 by rw [List.size_toArray, bookL_len]]; exact hth) (by rw [List.size_toArray]; exact info_book) (all_oneCell_toArray bookL_one) ?_
              go_wp2_with fail
              have hr := World.rangeAt_setCells_same wr w.heap.size 0 bookL (by rw [bookL_len]; exact hth)
              refine bodyPost_ret (v := .agg bookL.toArray) (res_book _ hr rfl) rfl ?_
              refine ⟨rfl, ?_⟩
              exact below_setCells (Nat.le_refl _) _ _ (hBW.trans (hB4.mono (by omega)))
end Go.Proofs.YtlkieeindnpidaaDoor.Hu

namespace Go.Proofs.YtlkieeindnpidaaDoor.Hu
open Go.RowKit Hf

/-- A book that a function keeps for itself. -/
theorem bk_kept (w : World) : Bk ((w.alloc (.cells Tryd.zeroCells125 125)).setCells w.heap.size 0 bookL) w.heap.size code ord fst num ahd := by
  have hb := bk_zero w
  refine bk_of_range ?_ (World.rangeAt_setCells_same _ _ 0 bookL (by rw [bookL_len]; exact hb.there)) (fun i => ?_)
  · have h := (below_setCells (B := w.heap.size) (b := w.heap.size) (Nat.le_refl _) bookL 0 (Below.refl _ (w.alloc (.cells Tryd.zeroCells125 125)))).size
    simp only [World.size_alloc] at h
    omega
  · rw [World.frozen?_setCells]
    exact hb.z i
theorem store_book (w : World) : (storeCells ⟨w.heap.size, 0, none⟩ bookL).run Tryd.prog (w.alloc (.cells Tryd.zeroCells125 125)) = .ok () ((w.alloc (.cells Tryd.zeroCells125 125)).setCells w.heap.size 0 bookL) := by
  have hb := (bk_zero w).there
  have := run_storeCells_cells (P := Tryd.prog) w.heap.size 0 bookL 0 (w.alloc (.cells Tryd.zeroCells125 125)) (fun j hj => by simpa using (hb j (by rw [bookL_len] at hj; exact hj)).1) (fun j _ => by simp) bookL_one
  simpa using this
theorem below_book (w : World) : Below w.heap.size w ((w.alloc (.cells Tryd.zeroCells125 125)).setCells w.heap.size 0 bookL) :=
  below_setCells (Nat.le_refl _) _ _ ((Below.refl _ _).alloc (Nat.le_refl _) _)

theorem ones_any (n : Nat) (hn : n ≤ 30) (w : World) : Calls Tryd.prog 73 #[.int .i64 (n : Int)] w fun e w' => e = .returned (.int .u64 ((2 ^ n - 1 : Nat) : Int)) ∧ w = w' := by
  go_enter Tryd.func73, Tryd.ntmps73
  go_wp2
  go_ret
  have hp : 1 ≤ 2 ^ n ∧ 2 ^ n ≤ 1073741824 := ⟨Nat.one_le_two_pow, by have := Nat.pow_le_pow_right (n := 2) (by decide) hn; simpa using this⟩
  refine ⟨ret_int ?_, rfl⟩
  rw [show ((2 : Int) ^ n) = ((2 ^ n : Nat) : Int) by simp, IntKind.wrap_u64, IntKind.wrap_u64]
  omega
end Go.Proofs.YtlkieeindnpidaaDoor.Hu
