/-
  THE MAP OF LAYOUTS: the walk of layouts. Written by gen_la.py.
-/
import Derived.Test.YtefdkbdblocikaaDoorL
import Derived.Deep.CutBlock
namespace Go.Proofs.YtefdkbdblocikaaDoor
open Go.RowKit Hu

/-- The five flags in their boxes. -/
structure Bx (w : World) (p : Nat) : Prop where
  a0 : w.cell? ⟨p, 0, none⟩ = some (.int .i64 1)
  a1 : w.cell? ⟨p, 1, none⟩ = some (fnV 74)
  b0 : w.cell? ⟨p + 1, 0, none⟩ = some (.int .i64 1)
  b1 : w.cell? ⟨p + 1, 1, none⟩ = some (fnV 75)
  c0 : w.cell? ⟨p + 1 + 1, 0, none⟩ = some (.int .i64 4)
  c1 : w.cell? ⟨p + 1 + 1, 1, none⟩ = some (fnV 76)
  d0 : w.cell? ⟨p + 1 + 1 + 1, 0, none⟩ = some (.int .i64 8)
  d1 : w.cell? ⟨p + 1 + 1 + 1, 1, none⟩ = some (fnV 77)
  e0 : w.cell? ⟨p + 1 + 1 + 1 + 1, 0, none⟩ = some (.int .i64 32)
  e1 : w.cell? ⟨p + 1 + 1 + 1 + 1, 1, none⟩ = some (fnV 78)
theorem Bx.grown {w w' : World} {p mb : Nat} (h : Bx w p) (hm : p + 5 ≤ mb) (g : w.grownBy w' (some mb)) : Bx w' p := by
  have n : ∀ i, i < p + 5 → some i ≠ some mb := fun i hi e => by have := Option.some.inj e; omega
  exact ⟨g.cell h.a0 (n _ (by simp only; omega)), g.cell h.a1 (n _ (by simp only; omega)), g.cell h.b0 (n _ (by simp only; omega)), g.cell h.b1 (n _ (by simp only; omega)), g.cell h.c0 (n _ (by simp only; omega)), g.cell h.c1 (n _ (by simp only; omega)), g.cell h.d0 (n _ (by simp only; omega)), g.cell h.d1 (n _ (by simp only; omega)), g.cell h.e0 (n _ (by simp only; omega)), g.cell h.e1 (n _ (by simp only; omega))⟩
theorem Bx.alloc {w : World} {p : Nat} (h : Bx w p) (o : Obj) : Bx (w.alloc o) p := by
  have hb : Below w.heap.size w (w.alloc o) := (Below.refl _ w).alloc (Nat.le_refl _) o
  exact ⟨(hb.cell (Hu.cell_lt h.a0)).trans h.a0, (hb.cell (Hu.cell_lt h.a1)).trans h.a1, (hb.cell (Hu.cell_lt h.b0)).trans h.b0, (hb.cell (Hu.cell_lt h.b1)).trans h.b1, (hb.cell (Hu.cell_lt h.c0)).trans h.c0, (hb.cell (Hu.cell_lt h.c1)).trans h.c1, (hb.cell (Hu.cell_lt h.d0)).trans h.d0, (hb.cell (Hu.cell_lt h.d1)).trans h.d1, (hb.cell (Hu.cell_lt h.e0)).trans h.e0, (hb.cell (Hu.cell_lt h.e1)).trans h.e1⟩
theorem fls_grown {w w' : World} {mb s : Nat} {F : List Flg} (h : Fls w (flV s F.length) F) (g : w.grownBy w' (some mb)) (hs : mb < s) (hl : 0 < F.length) : Fls w' (flV s F.length) F := by
  obtain ⟨a, e, hr⟩ := h.form
  have e' : some (⟨s, 0, none⟩ : Addr) = a := by injection e
  subst e'
  refine ⟨_, rfl, fun i hi => ?_⟩
  obtain ⟨b, e, h0, h1⟩ := hr i hi
  cases e
  have n : some s ≠ some mb := fun e => by have := Option.some.inj e; omega
  exact ⟨s, rfl, g.cell h0 n, g.cell h1 n⟩
theorem fls_alloc {w : World} {s : Value} {F : List Flg} (h : Fls w s F) (o : Obj) : Fls (w.alloc o) s F := h.kept ((Below.refl _ w).alloc (Nat.le_refl _) o)
/-- A slice of flags, as it is laid. -/
theorem fls_new {w : World} {cs : Array Value} {F : List Flg} (hc : ∀ i (h : i < F.length), cs[i * 2]? = some (.int .i64 ((F[i]).bit : Int)) ∧ cs[i * 2 + 1]? = some (fnV (F[i]).fn)) : Fls (w.alloc (.cells cs 105)) (flV w.heap.size F.length) F :=
  fls_of (cs := cs) (t := 105) (MapKept.heap_alloc w _).1 hc
theorem two_new (w : World) (v0 v1 : Value) (t : TypeId) : (w.alloc (.cells #[v0, v1] t)).cell? ⟨w.heap.size, 0, none⟩ = some v0 ∧ (w.alloc (.cells #[v0, v1] t)).cell? ⟨w.heap.size, 1, none⟩ = some v1 := ⟨by simp, by simp⟩
theorem bx_new (w w1 w2 w3 w4 w5 : World) (e1 : w1 = w.alloc (.cells #[.int .i64 1, fnV 74] 105)) (e2 : w2 = w1.alloc (.cells #[.int .i64 1, fnV 75] 105)) (e3 : w3 = w2.alloc (.cells #[.int .i64 4, fnV 76] 105))
    (e4 : w4 = w3.alloc (.cells #[.int .i64 8, fnV 77] 105)) (e5 : w5 = w4.alloc (.cells #[.int .i64 32, fnV 78] 105)) : Bx w5 w.heap.size ∧ Below w.heap.size w w5 ∧ w5.heap.size = w.heap.size + 1 + 1 + 1 + 1 + 1 := by
  have z1 : w1.heap.size = w.heap.size + 1 := by rw [e1]; simp
  have z2 : w2.heap.size = w.heap.size + 1 + 1 := by rw [e2, World.size_alloc, z1]
  have z3 : w3.heap.size = w.heap.size + 1 + 1 + 1 := by rw [e3, World.size_alloc, z2]
  have z4 : w4.heap.size = w.heap.size + 1 + 1 + 1 + 1 := by rw [e4, World.size_alloc, z3]
  have z5 : w5.heap.size = w.heap.size + 1 + 1 + 1 + 1 + 1 := by rw [e5, World.size_alloc, z4]
  have b1 : Below w.heap.size w w1 := by rw [e1]; exact (Below.refl _ _).alloc (Nat.le_refl _) _
  have b2 : Below w1.heap.size w1 w2 := by rw [e2]; exact (Below.refl _ _).alloc (Nat.le_refl _) _
  have b3 : Below w2.heap.size w2 w3 := by rw [e3]; exact (Below.refl _ _).alloc (Nat.le_refl _) _
  have b4 : Below w3.heap.size w3 w4 := by rw [e4]; exact (Below.refl _ _).alloc (Nat.le_refl _) _
  have b5 : Below w4.heap.size w4 w5 := by rw [e5]; exact (Below.refl _ _).alloc (Nat.le_refl _) _
  have b45 : Below w3.heap.size w3 w5 := b4.trans (b5.mono (by omega))
  have b35 : Below w2.heap.size w2 w5 := b3.trans (b45.mono (by omega))
  have b25 : Below w1.heap.size w1 w5 := b2.trans (b35.mono (by omega))
  have n1 := two_new w (.int .i64 1) (fnV 74) 105
  have n2 := two_new w1 (.int .i64 1) (fnV 75) 105
  have n3 := two_new w2 (.int .i64 4) (fnV 76) 105
  have n4 := two_new w3 (.int .i64 8) (fnV 77) 105
  have n5 := two_new w4 (.int .i64 32) (fnV 78) 105
  rw [← e1] at n1
  rw [← e2, z1] at n2
  rw [← e3, z2] at n3
  rw [← e4, z3] at n4
  rw [← e5, z4] at n5
  exact ⟨⟨(b25.cell (Hu.cell_lt n1.1)).trans n1.1, (b25.cell (Hu.cell_lt n1.2)).trans n1.2, (b35.cell (Hu.cell_lt n2.1)).trans n2.1, (b35.cell (Hu.cell_lt n2.2)).trans n2.2, (b45.cell (Hu.cell_lt n3.1)).trans n3.1, (b45.cell (Hu.cell_lt n3.2)).trans n3.2, (b5.cell (Hu.cell_lt n4.1)).trans n4.1, (b5.cell (Hu.cell_lt n4.2)).trans n4.2, n5.1, n5.2⟩, b1.trans (b25.mono (by omega)), z5⟩
def LaysPost (w : World) (e : Ending) (w' : World) : Prop := ∃ mb s0 s1 s4 s5 s6 s9, e = .returned (.map (some mb)) ∧ Lays w' mb s0 s1 s4 s5 s6 s9 ∧ Below w.heap.size w w' ∧ (w.heap.size ≤ s0 ∧ w.heap.size ≤ s1 ∧ w.heap.size ≤ s4 ∧ w.heap.size ≤ s5 ∧ w.heap.size ≤ s6 ∧ w.heap.size ≤ s9)

set_option maxRecDepth 100000 in
set_option maxHeartbeats 8000000 in
theorem layouts_any (w : World) : Calls Tryd.prog 56 #[] w (LaysPost w) := by
  have hmm := @run_makeMap Tryd.prog
  go_enter Tryd.func56, Tryd.ntmps56
  go_upto_region 6 with fail
  obtain ⟨hx, hb, hz⟩ := bx_new w _ _ _ _ _ rfl rfl rfl rfl rfl
  generalize (((((w.alloc (.cells #[.int .i64 1, fnV 74] 105)).alloc (.cells #[.int .i64 1, fnV 75] 105)).alloc (.cells #[.int .i64 4, fnV 76] 105)).alloc (.cells #[.int .i64 8, fnV 77] 105)).alloc (.cells #[.int .i64 32, fnV 78] 105)) = wv at hx hb hz ⊢
  have HM := Lib.hid (World.ownsMap_made wv Tryd.prog 3 fnR)
  have XM := Lib.hid (hx.alloc (.map #[] 0))
  have BM := Lib.hid (hb.alloc hb.size (.map #[] 0))
  generalize hp : w.heap.size = p at hx hz XM
  have hmb : p + 5 ≤ wv.heap.size := by omega
  have hpm : w.heap.size ≤ wv.heap.size := by omega
  have HZ := Lib.hid hz
  have HP := Lib.hid hp
  obtain ⟨a0, a1, b0, b1, c0, c1, d0, d1, e0, e1⟩ := XM.out
  generalize hwm : wv.alloc (.map #[] 0) = wm at *
  have PM : Hid (wv.heap.size < wm.heap.size) := Lib.hid (by rw [← hwm]; simp)
  clear hx hb hz hp
  go_wp2_with (first | (refine wp_insert rfl _ _ _ rfl _ _ _ rfl (HM.out.alloc _) (by decide) 0 _ rfl rfl (by decide) ?_; intro w0 h0 g0; (have H0 := Lib.hid h0); (have X0 := Lib.hid (Bx.grown (XM.out.alloc _) hmb g0)); (have B0 := Lib.hid (Below.grown (BM.out.alloc (by have := BM.out.size; omega) _) g0 (by have := BM.out.size; simp; omega) (fun k hk => by cases hk; exact hpm))); (have Z0 : Hid (wm.heap.size ≤ w0.heap.size) := Lib.hid (by have := g0.size; (try simp at this); omega)); (have P0 : Hid (wv.heap.size < wm.heap.size) := Lib.hid (by have h1 := PM.out; exact h1)); (have L0 := Lib.hid (fls_grown (F := [flEnd, flPad]) (fls_new (w := wm) (fun i hi => by rcases (show i = 0 ∨ i = 1 by simp at hi; omega) with rfl | rfl <;> exact ⟨rfl, rfl⟩)) g0 P0.out (by decide))); clear h0 g0 a0 a1 b0 b1 c0 c1 d0 d1 e0 e1; (obtain ⟨a0, a1, b0, b1, c0, c1, d0, d1, e0, e1⟩ := X0.out)) | (refine wp_insert rfl _ _ _ rfl _ _ _ rfl (H0.out.alloc _) (by decide) 1 _ rfl rfl (by decide) ?_; intro w1 h1 g1; (have H1 := Lib.hid h1); (have X1 := Lib.hid (Bx.grown (X0.out.alloc _) hmb g1)); (have B1 := Lib.hid (Below.grown (B0.out.alloc (by have := B0.out.size; omega) _) g1 (by have := B0.out.size; simp; omega) (fun k hk => by cases hk; exact hpm))); (have Z1 : Hid (w0.heap.size ≤ w1.heap.size) := Lib.hid (by have := g1.size; (try simp at this); omega)); (have L0 := Lib.hid (fls_grown (fls_alloc L0.out _) g1 P0.out (by decide))); (have P1 : Hid (wv.heap.size < w0.heap.size) := Lib.hid (by have h1 := PM.out; have h10 := Z0.out; omega)); (have L1 := Lib.hid (fls_grown (F := [flEnd, flHeads, flPad, flPrio]) (fls_new (w := w0) (fun i hi => by rcases (show i = 0 ∨ i = 1 ∨ i = 2 ∨ i = 3 by simp at hi; omega) with rfl | rfl | rfl | rfl <;> exact ⟨rfl, rfl⟩)) g1 P1.out (by decide))); clear h1 g1 a0 a1 b0 b1 c0 c1 d0 d1 e0 e1; (obtain ⟨a0, a1, b0, b1, c0, c1, d0, d1, e0, e1⟩ := X1.out)) | (refine wp_insert rfl _ _ _ rfl _ _ _ rfl H1.out (by decide) 2 _ rfl rfl (by decide) ?_; intro w2 h2 g2; (have H2 := Lib.hid h2); (have X2 := Lib.hid (Bx.grown X1.out hmb g2)); (have B2 := Lib.hid (Below.grown B1.out g2 (by have := B1.out.size; omega) (fun k hk => by cases hk; exact hpm))); (have Z2 : Hid (w1.heap.size ≤ w2.heap.size) := Lib.hid (by have := g2.size; (try simp at this); omega)); (have L0 := Lib.hid (fls_grown L0.out g2 P0.out (by decide))); (have L1 := Lib.hid (fls_grown L1.out g2 P1.out (by decide))); clear h2 g2 a0 a1 b0 b1 c0 c1 d0 d1 e0 e1; (obtain ⟨a0, a1, b0, b1, c0, c1, d0, d1, e0, e1⟩ := X2.out)) | (refine wp_insert rfl _ _ _ rfl _ _ _ rfl H2.out (by decide) 3 _ rfl rfl (by decide) ?_; intro w3 h3 g3; (have H3 := Lib.hid h3); (have X3 := Lib.hid (Bx.grown X2.out hmb g3)); (have B3 := Lib.hid (Below.grown B2.out g3 (by have := B2.out.size; omega) (fun k hk => by cases hk; exact hpm))); (have Z3 : Hid (w2.heap.size ≤ w3.heap.size) := Lib.hid (by have := g3.size; (try simp at this); omega)); (have L0 := Lib.hid (fls_grown L0.out g3 P0.out (by decide))); (have L1 := Lib.hid (fls_grown L1.out g3 P1.out (by decide))); clear h3 g3 a0 a1 b0 b1 c0 c1 d0 d1 e0 e1; (obtain ⟨a0, a1, b0, b1, c0, c1, d0, d1, e0, e1⟩ := X3.out)) | (refine wp_insert rfl _ _ _ rfl _ _ _ rfl (H3.out.alloc _) (by decide) 4 _ rfl rfl (by decide) ?_; intro w4 h4 g4; (have H4 := Lib.hid h4); (have X4 := Lib.hid (Bx.grown (X3.out.alloc _) hmb g4)); (have B4 := Lib.hid (Below.grown (B3.out.alloc (by have := B3.out.size; omega) _) g4 (by have := B3.out.size; simp; omega) (fun k hk => by cases hk; exact hpm))); (have Z4 : Hid (w3.heap.size ≤ w4.heap.size) := Lib.hid (by have := g4.size; (try simp at this); omega)); (have L0 := Lib.hid (fls_grown (fls_alloc L0.out _) g4 P0.out (by decide))); (have L1 := Lib.hid (fls_grown (fls_alloc L1.out _) g4 P1.out (by decide))); (have P4 : Hid (wv.heap.size < w3.heap.size) := Lib.hid (by have h1 := PM.out; have h10 := Z0.out; have h11 := Z1.out; have h12 := Z2.out; have h13 := Z3.out; omega)); (have L4 := Lib.hid (fls_grown (F := [flAck]) (fls_new (w := w3) (fun i hi => by obtain rfl : i = 0 := (by simpa using hi); exact ⟨rfl, rfl⟩)) g4 P4.out (by decide))); clear h4 g4 a0 a1 b0 b1 c0 c1 d0 d1 e0 e1; (obtain ⟨a0, a1, b0, b1, c0, c1, d0, d1, e0, e1⟩ := X4.out)) | (refine wp_insert rfl _ _ _ rfl _ _ _ rfl (H4.out.alloc _) (by decide) 5 _ rfl rfl (by decide) ?_; intro w5 h5 g5; (have H5 := Lib.hid h5); (have X5 := Lib.hid (Bx.grown (X4.out.alloc _) hmb g5)); (have B5 := Lib.hid (Below.grown (B4.out.alloc (by have := B4.out.size; omega) _) g5 (by have := B4.out.size; simp; omega) (fun k hk => by cases hk; exact hpm))); (have Z5 : Hid (w4.heap.size ≤ w5.heap.size) := Lib.hid (by have := g5.size; (try simp at this); omega)); (have L0 := Lib.hid (fls_grown (fls_alloc L0.out _) g5 P0.out (by decide))); (have L1 := Lib.hid (fls_grown (fls_alloc L1.out _) g5 P1.out (by decide))); (have L4 := Lib.hid (fls_grown (fls_alloc L4.out _) g5 P4.out (by decide))); (have P5 : Hid (wv.heap.size < w4.heap.size) := Lib.hid (by have h1 := PM.out; have h10 := Z0.out; have h11 := Z1.out; have h12 := Z2.out; have h13 := Z3.out; have h14 := Z4.out; omega)); (have L5 := Lib.hid (fls_grown (F := [flHeads, flPad]) (fls_new (w := w4) (fun i hi => by rcases (show i = 0 ∨ i = 1 by simp at hi; omega) with rfl | rfl <;> exact ⟨rfl, rfl⟩)) g5 P5.out (by decide))); clear h5 g5 a0 a1 b0 b1 c0 c1 d0 d1 e0 e1; (obtain ⟨a0, a1, b0, b1, c0, c1, d0, d1, e0, e1⟩ := X5.out)) | (refine wp_insert rfl _ _ _ rfl _ _ _ rfl (H5.out.alloc _) (by decide) 6 _ rfl rfl (by decide) ?_; intro w6 h6 g6; (have H6 := Lib.hid h6); (have X6 := Lib.hid (Bx.grown (X5.out.alloc _) hmb g6)); (have B6 := Lib.hid (Below.grown (B5.out.alloc (by have := B5.out.size; omega) _) g6 (by have := B5.out.size; simp; omega) (fun k hk => by cases hk; exact hpm))); (have Z6 : Hid (w5.heap.size ≤ w6.heap.size) := Lib.hid (by have := g6.size; (try simp at this); omega)); (have L0 := Lib.hid (fls_grown (fls_alloc L0.out _) g6 P0.out (by decide))); (have L1 := Lib.hid (fls_grown (fls_alloc L1.out _) g6 P1.out (by decide))); (have L4 := Lib.hid (fls_grown (fls_alloc L4.out _) g6 P4.out (by decide))); (have L5 := Lib.hid (fls_grown (fls_alloc L5.out _) g6 P5.out (by decide))); (have P6 : Hid (wv.heap.size < w5.heap.size) := Lib.hid (by have h1 := PM.out; have h10 := Z0.out; have h11 := Z1.out; have h12 := Z2.out; have h13 := Z3.out; have h14 := Z4.out; have h15 := Z5.out; omega)); (have L6 := Lib.hid (fls_grown (F := [flAck]) (fls_new (w := w5) (fun i hi => by obtain rfl : i = 0 := (by simpa using hi); exact ⟨rfl, rfl⟩)) g6 P6.out (by decide))); clear h6 g6 a0 a1 b0 b1 c0 c1 d0 d1 e0 e1; (obtain ⟨a0, a1, b0, b1, c0, c1, d0, d1, e0, e1⟩ := X6.out)) | (refine wp_insert rfl _ _ _ rfl _ _ _ rfl H6.out (by decide) 7 _ rfl rfl (by decide) ?_; intro w7 h7 g7; (have H7 := Lib.hid h7); (have X7 := Lib.hid (Bx.grown X6.out hmb g7)); (have B7 := Lib.hid (Below.grown B6.out g7 (by have := B6.out.size; omega) (fun k hk => by cases hk; exact hpm))); (have Z7 : Hid (w6.heap.size ≤ w7.heap.size) := Lib.hid (by have := g7.size; (try simp at this); omega)); (have L0 := Lib.hid (fls_grown L0.out g7 P0.out (by decide))); (have L1 := Lib.hid (fls_grown L1.out g7 P1.out (by decide))); (have L4 := Lib.hid (fls_grown L4.out g7 P4.out (by decide))); (have L5 := Lib.hid (fls_grown L5.out g7 P5.out (by decide))); (have L6 := Lib.hid (fls_grown L6.out g7 P6.out (by decide))); clear h7 g7 a0 a1 b0 b1 c0 c1 d0 d1 e0 e1; (obtain ⟨a0, a1, b0, b1, c0, c1, d0, d1, e0, e1⟩ := X7.out)) | (refine wp_insert rfl _ _ _ rfl _ _ _ rfl H7.out (by decide) 8 _ rfl rfl (by decide) ?_; intro w8 h8 g8; (have H8 := Lib.hid h8); (have X8 := Lib.hid (Bx.grown X7.out hmb g8)); (have B8 := Lib.hid (Below.grown B7.out g8 (by have := B7.out.size; omega) (fun k hk => by cases hk; exact hpm))); (have Z8 : Hid (w7.heap.size ≤ w8.heap.size) := Lib.hid (by have := g8.size; (try simp at this); omega)); (have L0 := Lib.hid (fls_grown L0.out g8 P0.out (by decide))); (have L1 := Lib.hid (fls_grown L1.out g8 P1.out (by decide))); (have L4 := Lib.hid (fls_grown L4.out g8 P4.out (by decide))); (have L5 := Lib.hid (fls_grown L5.out g8 P5.out (by decide))); (have L6 := Lib.hid (fls_grown L6.out g8 P6.out (by decide))); clear h8 g8 a0 a1 b0 b1 c0 c1 d0 d1 e0 e1; (obtain ⟨a0, a1, b0, b1, c0, c1, d0, d1, e0, e1⟩ := X8.out)) | (refine wp_insert rfl _ _ _ rfl _ _ _ rfl (H8.out.alloc _) (by decide) 9 _ rfl rfl (by decide) ?_; intro w9 h9 g9; (have H9 := Lib.hid h9); (have X9 := Lib.hid (Bx.grown (X8.out.alloc _) hmb g9)); (have B9 := Lib.hid (Below.grown (B8.out.alloc (by have := B8.out.size; omega) _) g9 (by have := B8.out.size; simp; omega) (fun k hk => by cases hk; exact hpm))); (have Z9 : Hid (w8.heap.size ≤ w9.heap.size) := Lib.hid (by have := g9.size; (try simp at this); omega)); (have L0 := Lib.hid (fls_grown (fls_alloc L0.out _) g9 P0.out (by decide))); (have L1 := Lib.hid (fls_grown (fls_alloc L1.out _) g9 P1.out (by decide))); (have L4 := Lib.hid (fls_grown (fls_alloc L4.out _) g9 P4.out (by decide))); (have L5 := Lib.hid (fls_grown (fls_alloc L5.out _) g9 P5.out (by decide))); (have L6 := Lib.hid (fls_grown (fls_alloc L6.out _) g9 P6.out (by decide))); (have P9 : Hid (wv.heap.size < w8.heap.size) := Lib.hid (by have h1 := PM.out; have h10 := Z0.out; have h11 := Z1.out; have h12 := Z2.out; have h13 := Z3.out; have h14 := Z4.out; have h15 := Z5.out; have h16 := Z6.out; have h17 := Z7.out; have h18 := Z8.out; omega)); (have L9 := Lib.hid (fls_grown (F := [flHeads]) (fls_new (w := w8) (fun i hi => by obtain rfl : i = 0 := (by simpa using hi); exact ⟨rfl, rfl⟩)) g9 P9.out (by decide))); clear h9 g9 a0 a1 b0 b1 c0 c1 d0 d1 e0 e1; (obtain ⟨a0, a1, b0, b1, c0, c1, d0, d1, e0, e1⟩ := X9.out)))
  go_ret
  exact ⟨_, _, _, _, _, _, _, rfl, ⟨H9.out, L0.out, L1.out, L4.out, L5.out, L6.out, L9.out⟩, B9.out, by have h0 := P0.out; have h1 := P1.out; have h4 := P4.out; have h5 := P5.out; have h6 := P6.out; have h9 := P9.out; omega⟩
end Go.Proofs.YtefdkbdblocikaaDoor
