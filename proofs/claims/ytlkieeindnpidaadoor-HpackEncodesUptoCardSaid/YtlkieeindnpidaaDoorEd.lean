/-
  THE DOCUMENT's ENCODER: it in memory; NewEncoder, Resize.
-/
import Derived.Test.YtlkieeindnpidaaDoorTtDt
import Derived.Test.YtlkieeindnpidaaDoorG
namespace Go.Proofs.YtlkieeindnpidaaDoor
open Go.RowKit Tt Hu Hu.Hf

/-- The document's encoder at block x, its table at block t. -/
structure Ed (w : World) (x t : Nat) (s : ES) : Prop where
  blk : ∃ n2 n3 : Int, w.heap[x]? = some (.cells #[.pointer (some ⟨t, 0, none⟩), .bool s.asked.isSome, .int .i64 n2, .int .i64 n3] 102 (0, 0)) ∧ ∀ y, s.asked = some y → n2 = (y : Int) ∧ n3 = (s.m : Int)
  dt : Tt.Dt w t s.M.reverse s.m
  tot : total s.M ≤ s.m
  m : s.m ≤ 4096
  least : s.asked.getD 0 ≤ 4096
  ne : x ≠ t
theorem Ed.lt {w : World} {x t : Nat} {s : ES} (h : Ed w x t s) : x < w.heap.size := by
  obtain ⟨n2, n3, hb, _⟩ := h.blk
  exact (Array.getElem?_eq_some_iff.1 hb).1
theorem blk_cell {w : World} {x i : Nat} {cs : Array Value} {ty : TypeId} (h : w.heap[x]? = some (.cells cs ty (0, 0))) : w.cell? ⟨x, i, none⟩ = cs[i]? := by simp [World.cell?, h]
theorem blk_frozen {w : World} {x i : Nat} {cs : Array Value} {ty : TypeId} (h : w.heap[x]? = some (.cells cs ty (0, 0))) : w.frozen? ⟨x, i, none⟩ = false := by simp [World.frozen?, h]
theorem blk_set {w : World} {x i : Nat} {cs : Array Value} {ty : TypeId} {v : Value} (h : w.heap[x]? = some (.cells cs ty (0, 0))) : (w.setCell ⟨x, i, none⟩ v).heap[x]? = some (.cells (cs.setIfInBounds i v) ty (0, 0)) := by
  show (w.heap.modify x _)[x]? = _
  rw [Array.getElem?_modify, if_pos rfl, h]
  rfl
/-- The document's table, where its block and the rows of headers stay. -/
theorem Dt.rows {w w' : World} {t m : Nat} {l : List Hd} (h : Tt.Dt w t l m) (ht : w'.heap[t]? = w.heap[t]?) (hb : ∀ g cs fr, t < g → w.heap[g]? = some (.cells cs 77 fr) → w'.heap[g]? = w.heap[g]?) : Tt.Dt w' t l m := by
  obtain ⟨a, c, h1, h2⟩ := h.row
  refine ⟨⟨a, c, (World.cell?_of_block ht).trans h1, ?_⟩, (World.cell?_of_block ht).trans h.most, fun i => (World.frozen?_of_block ht).trans (h.z i)⟩
  obtain ⟨k1, k2⟩ := h2
  refine ⟨k1, ?_⟩
  rcases k2 with k2 | ⟨g, cap, cur, hv, hg, hh, r⟩
  · exact Or.inl k2
  · exact Or.inr ⟨g, cap, cur, hv, hg, (hb g cur _ (by omega) hh).trans hh, r⟩
theorem Dt.setX {w : World} {x t m i : Nat} {l : List Hd} {cs : Array Value} {v : Value} (h : Tt.Dt w t l m) (hx : w.heap[x]? = some (.cells cs 102 (0, 0))) (hne : x ≠ t) : Tt.Dt (w.setCell ⟨x, i, none⟩ v) t l m :=
  Dt.rows h (Below.heap_setCell _ _ _ _ (fun e => hne e.symm)) (fun g cs' fr _ hg => Below.heap_setCell _ _ _ _ (fun e => by
    have e : g = x := e
    subst e
    rw [hx] at hg
    injection hg with hg
    injection hg with _ ht
    exact absurd ht (by decide)))
theorem Ed.below {w w' : World} {x t : Nat} {s : ES} (h : Ed w x t s) (hb : Below w.heap.size w w') : Ed w' x t s := by
  obtain ⟨n2, n3, hk, hn⟩ := h.blk
  exact ⟨⟨n2, n3, (hb.block x h.lt).trans hk, hn⟩, h.dt.below hb, h.tot, h.m, h.least, h.ne⟩
/-- What writes below both blocks alone keeps it. -/
theorem Ed.old {w w' : World} {x t B : Nat} {s : ES} (h : Ed w x t s) (hb : ∀ k, B ≤ k → k < w.heap.size → w'.heap[k]? = w.heap[k]?) (hx : B ≤ x) (ht : B ≤ t) : Ed w' x t s := by
  obtain ⟨n2, n3, hk, hn⟩ := h.blk
  exact ⟨⟨n2, n3, (hb x hx h.lt).trans hk, hn⟩, Dt.rows h.dt (hb t ht h.dt.lt) (fun g cs fr hg hh => hb g (by omega) (Array.getElem?_eq_some_iff.1 hh).1), h.tot, h.m, h.least, h.ne⟩
/-- What writes at a row of bytes of the call's own alone keeps it. -/
theorem Ed.keep {w w' : World} {x t B : Nat} {s : ES} {v v' : Value} {l : List UInt8} (h : Ed w x t s) (ho : Hu.Own w B v l) (ha : Apart v w v' w') (hx : x < B) (ht : t < B) : Ed w' x t s := by
  obtain ⟨n2, n3, hk, hn⟩ := h.blk
  have hold : ∀ k, k < B → v.ownBlock ≠ some k := fun k hkB e => by
    have := (World.ownsRow.lt ho k e).1
    omega
  have hty : ∀ g cs fr, w.heap[g]? = some (.cells cs 77 fr) → v.ownBlock ≠ some g := fun g cs fr hg e => by
    obtain ⟨_, h2⟩ := ho
    rcases h2 with ⟨h2, _⟩ | ⟨g', cap, cur, hv, _, hh, _⟩
    · subst h2
      cases e
    · subst hv
      have e : g' = g := by simpa [Value.ownBlock] using e
      subst e
      rw [hh] at hg
      injection hg with hg
      injection hg with _ ht
      exact absurd ht (by decide)
  exact ⟨⟨n2, n3, (ha x h.lt (hold x hx)).1.trans hk, hn⟩, Dt.rows h.dt (ha t h.dt.lt (hold t ht)).1 (fun g cs fr _ hh => (ha g (Array.getElem?_eq_some_iff.1 hh).1 (hty g cs fr hh)).1), h.tot, h.m, h.least, h.ne⟩
/-- The table has turned. -/
theorem Ed.tab {w w' : World} {x t m : Nat} {s : ES} {M : List Hd} (h : Ed w x t s) (hk : Kp t w w') (hd : Tt.Dt w' t M.reverse m) (e : s.asked ≠ none → m = s.m) (hT : total M ≤ m) (hm : m ≤ 4096) : Ed w' x t ⟨m, M, s.asked⟩ := by
  obtain ⟨n2, n3, hb, hn⟩ := h.blk
  exact ⟨⟨n2, n3, (hk.block x h.lt h.ne).trans hb, fun y hy => ⟨(hn y hy).1, by rw [(hn y hy).2, e (by rw [hy]; simp)]⟩⟩, hd, hT, hm, h.least, h.ne⟩

set_option maxRecDepth 100000 in
theorem newD_any (m : Nat) (hm : m ≤ 4096) (w : World) : Calls Tryd.prog 25 #[.int .i64 (m : Int)] w fun e w' => ∃ x t, e = .returned (.pointer (some ⟨x, 0, none⟩)) ∧ Ed w' x t ⟨m, [], none⟩ ∧ w.heap.size ≤ x ∧ w.heap.size ≤ t ∧ Below w.heap.size w w' := by
  have HN := Lib.hid (fun W => Tt.dnew_any m W hm)
  go_enter Tryd.func25, Tryd.ntmps25
  go_wp2_with fail
  refine (HN.out _).mono ?_
  rintro e w1 ⟨rfl, hd, hb⟩
  have hlt := hd.lt
  go_wp2
  go_ret
  refine ⟨w1.heap.size, w.heap.size, rfl, ⟨⟨0, 0, (by show (w1.heap.push _)[w1.heap.size]? = _; exact Array.getElem?_push_size), fun y hy => by cases hy⟩, hd.below ((Below.refl _ _).alloc (Nat.le_refl _) _), by simp [total], hm, by simp, by omega⟩, hb.size, Nat.le_refl _, hb.alloc hb.size _⟩
set_option maxRecDepth 100000 in
set_option maxHeartbeats 2000000 in
theorem resizeD_any (x t : Nat) (s : ES) (q : Nat) (hq : q ≤ 4096) (w : World) (h : Ed w x t s) :
    Calls Tryd.prog 27 #[.pointer (some ⟨x, 0, none⟩), .int .i64 (q : Int)] w fun e w' => e = .returned (.tuple #[]) ∧ Ed w' x t (resizeE s q) ∧ Kq w.heap.size t x w w' := by
  obtain ⟨m, M, o⟩ := s
  obtain ⟨n2, n3, hb, hn⟩ := h.blk
  have hne := h.ne
  have hl := h.lt
  have c0 := blk_cell (i := 0) hb
  have c1 := blk_cell (i := 1) hb
  have c2 := blk_cell (i := 2) hb
  have c3 := blk_cell (i := 3) hb
  have z1 := blk_frozen (i := 1) hb
  have z2 := blk_frozen (i := 2) hb
  have z3 := blk_frozen (i := 3) hb
  simp at c0 c1 c2 c3
  have HH := Lib.hid h
  have HB := Lib.hid hb
  have HR : Hid (∀ W, Tt.Dt W t M.reverse m → Calls Tryd.prog 54 #[.pointer (some ⟨t, 0, none⟩), .int .i64 (q : Int)] W fun e w' => e = .returned (.tuple #[]) ∧ Tt.Dt w' t (shr q M).reverse q ∧ Kp t W w') :=
    Lib.hid (fun W hd => Tt.dresize_any t m q M W hd (by have := h.tot; have := h.m; simp only at *; omega) hq)
  have HFIN : Hid (∀ (W1 w' : World) (b : Bool) (k2 : Int) (y : Nat), W1.heap[x]? = some (.cells #[.pointer (some ⟨t, 0, none⟩), .bool true, .int .i64 k2, .int .i64 (q : Int)] 102 (0, 0)) → k2 = (y : Int) → y ≤ 4096 → Kp x w W1 → Tt.Dt w' t (shr q M).reverse q → Kp t W1 w' → Ed w' x t ⟨q, shr q M, some y⟩ ∧ Kq w.heap.size t x w w') := Lib.hid (fun W1 w' b k2 y h1 h2 h3 h4 h5 h6 => by
    refine ⟨⟨⟨k2, q, (h6.block x (by have := h4.size; omega) hne).trans h1, fun y' e => by cases e; exact ⟨h2, rfl⟩⟩, h5, (shr_le q M).1, hq, h3, hne⟩, (Kq.of_kp' h4 (Nat.le_refl _)).trans (Kq.of_kp h6 h4.size)⟩)
  have hdt := h.dt
  simp only at hdt
  clear h
  cases o with
  | none =>
    simp only [Option.isSome_none] at c1
    go_enter Tryd.func27, Tryd.ntmps27
    go_upto_region 4 with fail
    have b3 : (((w.setCell ⟨x, 2, none⟩ (.int .i64 (q : Int))).setCell ⟨x, 1, none⟩ (.bool true)).setCell ⟨x, 3, none⟩ (.int .i64 (q : Int))).heap[x]? = some (.cells #[.pointer (some ⟨t, 0, none⟩), .bool true, .int .i64 (q : Int), .int .i64 (q : Int)] 102 (0, 0)) := (blk_set (blk_set (blk_set hb))).trans (by simp)
    have d3 := Dt.setX (i := 3) (v := .int .i64 (q : Int)) (Dt.setX (i := 1) (v := .bool true) (Dt.setX (i := 2) (v := .int .i64 (q : Int)) hdt hb hne) (blk_set hb) hne) (blk_set (blk_set hb)) hne
    have hk3 : Kp x w (((w.setCell ⟨x, 2, none⟩ (.int .i64 (q : Int))).setCell ⟨x, 1, none⟩ (.bool true)).setCell ⟨x, 3, none⟩ (.int .i64 (q : Int))) := (((Kp.refl x w).set 2 _).set 1 _).set 3 _
    generalize ((w.setCell ⟨x, 2, none⟩ (.int .i64 (q : Int))).setCell ⟨x, 1, none⟩ (.bool true)).setCell ⟨x, 3, none⟩ (.int .i64 (q : Int)) = W3 at b3 d3 hk3 ⊢
    have e0 : W3.cell? ⟨x, 0, none⟩ = some (.pointer (some ⟨t, 0, none⟩)) := by rw [blk_cell b3]; rfl
    clear c0 c1 c2 c3 z1 z2 z3 hb HB hdt
    go_wp2_with fail
    refine (HR.out W3 d3).mono ?_
    rintro e w4 ⟨rfl, hd4, hk4⟩
    go_wp2
    go_end0
    obtain ⟨f1, f2⟩ := HFIN.out W3 w4 true (q : Int) q b3 rfl hq hk3 hd4 hk4
    exact ⟨rfl, f1, f2⟩
  | some y =>
    obtain ⟨rfl, rfl⟩ := hn y rfl
    have hy4 : y ≤ 4096 := HH.out.least
    simp only [Option.isSome_some] at c1
    by_cases hqy : q < y
    · have hdc : decide (q < y) = true := decide_eq_true hqy
      have hmin : resizeE ⟨m, M, some y⟩ q = ⟨q, shr q M, some q⟩ := by unfold resizeE; simp only [show min q y = q by omega]
      rw [hmin]
      go_enter Tryd.func27, Tryd.ntmps27
      go_upto_region 4 with fail
      have b3 : (((w.setCell ⟨x, 2, none⟩ (.int .i64 (q : Int))).setCell ⟨x, 1, none⟩ (.bool true)).setCell ⟨x, 3, none⟩ (.int .i64 (q : Int))).heap[x]? = some (.cells #[.pointer (some ⟨t, 0, none⟩), .bool true, .int .i64 (q : Int), .int .i64 (q : Int)] 102 (0, 0)) := (blk_set (blk_set (blk_set hb))).trans (by simp)
      have d3 := Dt.setX (i := 3) (v := .int .i64 (q : Int)) (Dt.setX (i := 1) (v := .bool true) (Dt.setX (i := 2) (v := .int .i64 (q : Int)) hdt hb hne) (blk_set hb) hne) (blk_set (blk_set hb)) hne
      have hk3 : Kp x w (((w.setCell ⟨x, 2, none⟩ (.int .i64 (q : Int))).setCell ⟨x, 1, none⟩ (.bool true)).setCell ⟨x, 3, none⟩ (.int .i64 (q : Int))) := (((Kp.refl x w).set 2 _).set 1 _).set 3 _
      generalize ((w.setCell ⟨x, 2, none⟩ (.int .i64 (q : Int))).setCell ⟨x, 1, none⟩ (.bool true)).setCell ⟨x, 3, none⟩ (.int .i64 (q : Int)) = W3 at b3 d3 hk3 ⊢
      have e0 : W3.cell? ⟨x, 0, none⟩ = some (.pointer (some ⟨t, 0, none⟩)) := by rw [blk_cell b3]; rfl
      clear c0 c1 c2 c3 z1 z2 z3 hb HB hdt
      go_wp2_with fail
      refine (HR.out W3 d3).mono ?_
      rintro e w4 ⟨rfl, hd4, hk4⟩
      go_wp2
      go_end0
      obtain ⟨f1, f2⟩ := HFIN.out W3 w4 true (q : Int) q b3 rfl hq hk3 hd4 hk4
      exact ⟨rfl, f1, f2⟩
    · have hdc : decide (q < y) = false := decide_eq_false hqy
      have hmin : resizeE ⟨m, M, some y⟩ q = ⟨q, shr q M, some y⟩ := by unfold resizeE; simp only [show min q y = y by omega]
      rw [hmin]
      go_enter Tryd.func27, Tryd.ntmps27
      go_upto_region 4 with fail
      have b3 : ((w.setCell ⟨x, 1, none⟩ (.bool true)).setCell ⟨x, 3, none⟩ (.int .i64 (q : Int))).heap[x]? = some (.cells #[.pointer (some ⟨t, 0, none⟩), .bool true, .int .i64 (y : Int), .int .i64 (q : Int)] 102 (0, 0)) := (blk_set (blk_set hb)).trans (by simp)
      have d3 := Dt.setX (i := 3) (v := .int .i64 (q : Int)) (Dt.setX (i := 1) (v := .bool true) hdt hb hne) (blk_set hb) hne
      have hk3 : Kp x w ((w.setCell ⟨x, 1, none⟩ (.bool true)).setCell ⟨x, 3, none⟩ (.int .i64 (q : Int))) := ((Kp.refl x w).set 1 _).set 3 _
      generalize (w.setCell ⟨x, 1, none⟩ (.bool true)).setCell ⟨x, 3, none⟩ (.int .i64 (q : Int)) = W3 at b3 d3 hk3 ⊢
      have e0 : W3.cell? ⟨x, 0, none⟩ = some (.pointer (some ⟨t, 0, none⟩)) := by rw [blk_cell b3]; rfl
      clear c0 c1 c2 c3 z1 z2 z3 hb HB hdt
      go_wp2_with fail
      refine (HR.out W3 d3).mono ?_
      rintro e w4 ⟨rfl, hd4, hk4⟩
      go_wp2
      go_end0
      obtain ⟨f1, f2⟩ := HFIN.out W3 w4 true (y : Int) y b3 rfl hy4 hk3 hd4 hk4
      exact ⟨rfl, f1, f2⟩
end Go.Proofs.YtlkieeindnpidaaDoor
