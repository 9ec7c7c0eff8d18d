/-
  PLAIN MATHEMATICS for package huff: the Huffman code of header texts (the document's chapter 2). No program is named here.
-/
import Derived.Laws.Bits64b
import Derived.Laws.BitsAllLaws
import Derived.RowKit
import Derived.Lib.ItoaNum
import Derived.Laws.BitsLemmas
namespace Go.Proofs.YtgoglfahlfkbiaaDoor.Hu
open Go.RowKit
namespace Hf

/-- How many bits each of the 257 symbols has. -/
def szs : List Nat := [13, 23, 28, 28, 28, 28, 28, 28, 28, 24, 30, 28, 28, 30, 28, 28, 28, 28, 28, 28, 28, 28, 30, 28, 28, 28, 28, 28, 28, 28, 28, 28, 6, 10, 10, 12, 13, 6, 8, 11, 10, 10, 8, 11, 8, 6, 6, 6, 5, 5, 5, 6, 6, 6, 6, 6, 6, 6, 7, 8, 15, 6, 12, 10, 13, 6, 7, 7, 7, 7, 7, 7, 7, 7, 7, 7, 7, 7, 7, 7, 7, 7, 7, 7, 7, 7, 7, 7, 8, 7, 8, 13, 19, 13, 14, 6, 15, 5, 6, 5, 6, 5, 6, 6, 6, 5, 7, 7, 6, 6, 6, 5, 6, 7, 6, 5, 5, 6, 7, 7, 7, 7, 7, 15, 11, 14, 13, 28, 20, 22, 20, 20, 22, 22, 22, 23, 22, 23, 23, 23, 23, 23, 24, 23, 24, 24, 22, 23, 24, 23, 23, 23, 23, 21, 22, 23, 22, 23, 23, 24, 22, 21, 20, 22, 22, 23, 23, 21, 23, 22, 22, 24, 21, 22, 23, 23, 21, 21, 22, 21, 23, 22, 23, 23, 20, 22, 22, 22, 23, 22, 22, 23, 26, 26, 20, 19, 22, 23, 22, 25, 26, 26, 26, 27, 27, 26, 24, 25, 19, 21, 26, 27, 27, 26, 27, 24, 21, 21, 26, 26, 28, 27, 27, 27, 20, 24, 20, 21, 22, 21, 21, 23, 22, 22, 25, 25, 24, 24, 26, 23, 26, 27, 26, 26, 27, 27, 27, 27, 27, 28, 27, 27, 27, 27, 27, 26, 30]
/-- The first code of each number of bits; how many codes have fewer bits; how many have as many. -/
def fsts : List Nat := [0, 0, 0, 0, 0, 0, 20, 92, 248, 508, 1016, 2042, 4090, 8184, 16380, 32764, 65534, 131068, 262136, 524272, 1048550, 2097116, 4194258, 8388568, 16777194, 33554412, 67108832, 134217694, 268435426, 536870910, 1073741820]
def ahds : List Nat := [0, 0, 0, 0, 0, 0, 10, 36, 68, 74, 74, 79, 82, 84, 90, 92, 95, 95, 95, 95, 98, 106, 119, 145, 174, 186, 190, 205, 224, 253, 253]
def nums : List Nat := [0, 0, 0, 0, 0, 10, 26, 32, 6, 0, 5, 3, 2, 6, 2, 3, 0, 0, 0, 3, 8, 13, 26, 29, 12, 4, 15, 19, 29, 0, 4]
/-- How many symbols ahead have as many bits. -/
def ranks : List Nat := [0, 0, 0, 1, 2, 3, 4, 5, 6, 0, 0, 7, 8, 1, 9, 10, 11, 12, 13, 14, 15, 16, 2, 17, 18, 19, 20, 21, 22, 23, 24, 25, 0, 0, 1, 0, 1, 1, 0, 0, 2, 3, 1, 1, 2, 2, 3, 4, 0, 1, 2, 5, 6, 7, 8, 9, 10, 11, 0, 3, 0, 12, 1, 4, 2, 13, 1, 2, 3, 4, 5, 6, 7, 8, 9, 10, 11, 12, 13, 14, 15, 16, 17, 18, 19, 20, 21, 22, 4, 23, 5, 3, 0, 4, 0, 14, 1, 3, 15, 4, 16, 5, 17, 18, 19, 6, 24, 25, 20, 21, 22, 7, 23, 26, 24, 8, 9, 25, 27, 28, 29, 30, 31, 2, 2, 1, 5, 26, 0, 0, 1, 2, 1, 2, 3, 1, 4, 2, 3, 4, 5, 6, 1, 7, 2, 3, 5, 8, 4, 9, 10, 11, 12, 0, 6, 13, 7, 14, 15, 5, 8, 1, 3, 9, 10, 16, 17, 2, 18, 11, 12, 6, 3, 13, 19, 20, 4, 5, 14, 6, 21, 15, 22, 23, 4, 16, 17, 18, 24, 19, 20, 25, 0, 1, 5, 1, 21, 26, 22, 0, 2, 3, 4, 0, 1, 5, 7, 1, 2, 7, 6, 2, 3, 7, 4, 8, 8, 9, 8, 9, 27, 5, 6, 7, 6, 9, 7, 10, 23, 11, 12, 27, 24, 25, 2, 3, 10, 11, 10, 28, 11, 8, 12, 13, 9, 10, 11, 12, 13, 28, 14, 15, 16, 17, 18, 14, 3]
def sz (s : Nat) : Nat := szs.getD s 0
def fst (n : Nat) : Nat := fsts.getD n 0
def ahd (n : Nat) : Nat := ahds.getD n 0
def num (n : Nat) : Nat := nums.getD n 0
def rank (s : Nat) : Nat := ranks.getD s 0
/-- Of the first k symbols, how many have n bits. -/
def cnt (k n : Nat) : Nat := (szs.take k).count n
/-- The code of a symbol; its place among the symbols as the codes are handed out. -/
def code (s : Nat) : Nat := fst (sz s) + rank s
def pos (s : Nat) : Nat := ahd (sz s) + rank s

theorem szs_len : szs.length = 257 := by decide +kernel
theorem sz_eq {s : Nat} (h : s < 257) : szs[s]? = some (sz s) := by
  have h' : s < szs.length := by rw [szs_len]; exact h
  unfold sz
  rw [List.getD, List.getElem?_eq_getElem h']
  rfl
theorem sz_all : ∀ s, s < 257 → 5 ≤ sz s ∧ sz s ≤ 30 := by decide +kernel
theorem sz_lo {s : Nat} (h : s < 257) : 5 ≤ sz s := (sz_all s h).1
theorem sz_hi {s : Nat} (h : s < 257) : sz s ≤ 30 := (sz_all s h).2
theorem cnt_zero (n : Nat) : cnt 0 n = 0 := by simp [cnt]
theorem cnt_succ {k : Nat} (h : k < 257) (n : Nat) : cnt (k + 1) n = cnt k n + (if sz k = n then 1 else 0) := by
  unfold cnt
  rw [List.take_add_one, sz_eq h, List.count_append]
  simp [List.count_cons]
theorem cnt_same {k : Nat} (h : k < 257) : cnt (k + 1) (sz k) = cnt k (sz k) + 1 := by rw [cnt_succ h, if_pos rfl]
theorem cnt_other {k n : Nat} (h : k < 257) (hn : n ≠ sz k) : cnt (k + 1) n = cnt k n := by rw [cnt_succ h, if_neg (fun e => hn e.symm)]; rfl
theorem cnt_le (k n : Nat) : cnt k n ≤ 257 := by
  unfold cnt
  have h := List.count_le_length (a := n) (l := szs.take k)
  rw [List.length_take, szs_len] at h
  omega
theorem num_all : ∀ n, n < 31 → cnt 257 n = num n := by decide +kernel
theorem rank_all : ∀ s, s < 257 → cnt s (sz s) = rank s := by decide +kernel
theorem rank_eq {s : Nat} (h : s < 257) : cnt s (sz s) = rank s := rank_all s h
theorem rank_num : ∀ s, s < 257 → rank s < num (sz s) := by decide +kernel
theorem fst_all : ∀ n, n < 30 → fst (n + 1) = (fst n + num n) * 2 := by decide +kernel
theorem ahd_all : ∀ n, n < 30 → ahd (n + 1) = ahd n + num n := by decide +kernel
theorem low_all : ∀ n, n < 5 → fst n = 0 ∧ ahd n = 0 ∧ num n = 0 := by decide +kernel
/-- Numbers of so many bits: the codes end at most where these do. -/
theorem full_all : ∀ n, n < 31 → fst n + num n ≤ 2 ^ n := by decide +kernel
theorem full_end : fst 30 + num 30 = 2 ^ 30 := by decide +kernel
theorem fst_le {n : Nat} (h : n < 31) : fst n + num n ≤ 1073741824 := by
  have h1 := full_all n h
  have h2 : 2 ^ n ≤ 2 ^ 30 := Nat.pow_le_pow_right (by decide) (by omega)
  have h3 : (2 : Nat) ^ 30 = 1073741824 := by decide
  omega
theorem ahd_le : ∀ n, n < 31 → ahd n + num n ≤ 257 := by decide +kernel
theorem code_lt {s : Nat} (h : s < 257) : code s < 2 ^ sz s := by
  have h1 := full_all (sz s) (by have := sz_hi h; omega)
  have h2 := rank_num s h
  unfold code
  omega
theorem code_le {s : Nat} (h : s < 257) : code s < 1073741824 := by
  have h1 := fst_le (n := sz s) (by have := sz_hi h; omega)
  have h2 := rank_num s h
  unfold code
  omega
theorem pos_lt {s : Nat} (h : s < 257) : pos s < 257 := by
  have h1 := ahd_le (sz s) (by have := sz_hi h; omega)
  have h2 := rank_num s h
  unfold pos
  omega
/-- The symbols, as the codes are handed out. -/
def ords : List Nat := [48, 49, 50, 97, 99, 101, 105, 111, 115, 116, 32, 37, 45, 46, 47, 51, 52, 53, 54, 55, 56, 57, 61, 65, 95, 98, 100, 102, 103, 104, 108, 109, 110, 112, 114, 117, 58, 66, 67, 68, 69, 70, 71, 72, 73, 74, 75, 76, 77, 78, 79, 80, 81, 82, 83, 84, 85, 86, 87, 89, 106, 107, 113, 118, 119, 120, 121, 122, 38, 42, 44, 59, 88, 90, 33, 34, 40, 41, 63, 39, 43, 124, 35, 62, 0, 36, 64, 91, 93, 126, 94, 125, 60, 96, 123, 92, 195, 208, 128, 130, 131, 162, 184, 194, 224, 226, 153, 161, 167, 172, 176, 177, 179, 209, 216, 217, 227, 229, 230, 129, 132, 133, 134, 136, 146, 154, 156, 160, 163, 164, 169, 170, 173, 178, 181, 185, 186, 187, 189, 190, 196, 198, 228, 232, 233, 1, 135, 137, 138, 139, 140, 141, 143, 147, 149, 150, 151, 152, 155, 157, 158, 165, 166, 168, 174, 175, 180, 182, 183, 188, 191, 197, 231, 239, 9, 142, 144, 145, 148, 159, 171, 206, 215, 225, 236, 237, 199, 207, 234, 235, 192, 193, 200, 201, 202, 205, 210, 213, 218, 219, 238, 240, 242, 243, 255, 203, 204, 211, 212, 214, 221, 222, 223, 241, 244, 245, 246, 247, 248, 250, 251, 252, 253, 254, 2, 3, 4, 5, 6, 7, 8, 11, 12, 14, 15, 16, 17, 18, 19, 20, 21, 23, 24, 25, 26, 27, 28, 29, 30, 31, 127, 220, 249, 10, 13, 22, 256]
def ord (i : Nat) : Nat := ords.getD i 0
theorem ord_all : ∀ s, s < 257 → ord (pos s) = s := by decide +kernel
theorem ord_back : ∀ i, i < 257 → ord i < 257 ∧ pos (ord i) = i := by decide +kernel
theorem pos_inj {s s' : Nat} (h : s < 257) (h' : s' < 257) (e : pos s = pos s') : s = s' := by rw [← ord_all s h, ← ord_all s' h', e]
/-- The symbol whose code these n bits are. -/
def sym (bits n : Nat) : Option Nat := if fst n ≤ bits ∧ bits < fst n + num n then some (ord (ahd n + (bits - fst n))) else none
theorem sym_code : ∀ s, s < 257 → sym (code s) (sz s) = some s := by decide +kernel
end Hf
end Go.Proofs.YtgoglfahlfkbiaaDoor.Hu
