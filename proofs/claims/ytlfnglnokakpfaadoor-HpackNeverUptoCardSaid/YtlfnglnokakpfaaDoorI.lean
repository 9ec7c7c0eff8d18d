/-
  CONTRACTS: a reading: giveUp, number, text.
-/
import Derived.Test.YtlfnglnokakpfaaDoorD
import Derived.Test.YtlfnglnokakpfaaDoorE
namespace Go.Proofs.YtlfnglnokakpfaaDoor
open Go.RowKit Tt Hu Hu.Hf

/-- What a reading holds: what was not read yet, the table, what was read, its Size. -/
structure RS where
  left : List UInt8
  m : Nat
  M : List Hd
  out : List Hn
  size : Nat
/-- The blocks of the errors. -/
def globs : List Nat := [3, 2, 4, 6, 0, 5, 1]
theorem Env.lt {w : World} {E : Nat → Value} (h : Env w E) : ∀ g ∈ globs, g < w.heap.size := by
  intro g hg
  simp only [globs, List.mem_cons, List.not_mem_nil, or_false] at hg
  rcases hg with rfl | rfl | rfl | rfl | rfl | rfl | rfl
  · exact Hu.cell_lt h.c101
  · exact Hu.cell_lt h.c102
  · exact Hu.cell_lt h.c107
  · exact Hu.cell_lt h.c108
  · exact Hu.cell_lt h.c109
  · exact Hu.cell_lt h.c110
  · exact Hu.cell_lt h.c115
theorem Env.of_blocks {w w' : World} {E : Nat → Value} (h : Env w E) (hb : ∀ g ∈ globs, w'.heap[g]? = w.heap[g]?) : Env w' E := by
  have hk : ∀ g v, g ∈ globs → w.cell? ⟨g, 0, none⟩ = some v → w'.cell? ⟨g, 0, none⟩ = some v := fun g v hg hc => (World.cell?_of_block (a := ⟨g, 0, none⟩) (hb g hg)).trans hc
  exact ⟨hk _ _ (by simp [globs]) h.c101, hk _ _ (by simp [globs]) h.c102, hk _ _ (by simp [globs]) h.c107, hk _ _ (by simp [globs]) h.c108, hk _ _ (by simp [globs]) h.c109, hk _ _ (by simp [globs]) h.c110, hk _ _ (by simp [globs]) h.c115⟩
theorem Env.kq {w w' : World} {E : Nat → Value} {A r b : Nat} (h : Env w E) (hg : ∀ g ∈ globs, g < A) (hA : A < r) (hb : A < b) (hk : Kq r A b w w') : Env w' E :=
  h.of_blocks fun g hm => by
    have := hg g hm
    exact hk.block g (by omega) (by omega) (by omega)
/-- A reading at block r, its table at block A. -/
structure Rg' (w : World) (r A limit : Nat) (s : RS) : Prop where
  c0 : ∃ la ln lc, w.cell? ⟨r, 0, none⟩ = some (.slice la ln lc) ∧ Sl w la ln lc s.left ∧ ∀ p, la = some p → 0 < ln → p.block < r ∧ p.block ≠ A
  c1 : w.cell? ⟨r, 1, none⟩ = some (.pointer (some ⟨A, 0, none⟩))
  c2 : w.cell? ⟨r, 2, none⟩ = some (.int .i64 (limit : Int))
  c3 : ∃ v, w.cell? ⟨r, 3, none⟩ = some v ∧ NOwn w (r + 1) v s.out
  c4 : w.cell? ⟨r, 4, none⟩ = some (.int .i64 (s.size : Int))
  z : ∀ i, w.frozen? ⟨r, i, none⟩ = false
  has : Has w A s.m s.M
  ne : A < r
  m : s.m ≤ 4096
  lim : limit ≤ 4096
  len : s.left.length ≤ 1000000
  sz : s.size ≤ 16384
  ol : s.out.length * 32 ≤ s.size
  glob : ∀ g ∈ globs, g < A
/-- It has given up with that fault. -/
def Gave (E : Nat → Value) (c : Nat) (e : Ending) : Prop := e = .panicked [{ v := .iface 110 (.agg #[E c]), recovered := false }]
theorem giveUp_any (ty : TypeId) (p : Value) (w : World) : Calls Tryd.prog 103 #[.iface ty p] w fun e w' => e = .panicked [{ v := .iface 110 (.agg #[.iface ty p]), recovered := false }] ∧ w = w' := by
  go_enter Tryd.func103, Tryd.ntmps103
  go_wp2
  exact ⟨rfl, rfl, rfl⟩
/-- Of what stood below the reading only its table may have turned. -/
theorem Rg'.below {w w' : World} {r A limit : Nat} {s : RS} (h : Rg' w r A limit s) (hb : Below w.heap.size w w') : Rg' w' r A limit s := by
  obtain ⟨la, ln, lc, a0, a1, a2⟩ := h.c0
  obtain ⟨v, a3, a4⟩ := h.c3
  exact ⟨⟨la, ln, lc, (hb.cell (Hu.cell_lt a0)).trans a0, a1.kept hb, a2⟩, (hb.cell (Hu.cell_lt h.c1)).trans h.c1, (hb.cell (Hu.cell_lt h.c2)).trans h.c2, ⟨v, (hb.cell (Hu.cell_lt a3)).trans a3, a4.kept hb⟩, (hb.cell (Hu.cell_lt h.c4)).trans h.c4,
    fun i => (hb.frozen (p := ⟨r, i, none⟩) (show r < w.heap.size from Hu.cell_lt h.c1)).trans (h.z i), h.has.below hb, h.ne, h.m, h.lim, h.len, h.sz, h.ol, h.glob⟩
theorem Rg'.lt {w : World} {r A limit : Nat} {s : RS} (h : Rg' w r A limit s) : r < w.heap.size := Hu.cell_lt h.c1
theorem sl_kp {w w' : World} {b : Nat} {a : Option Addr} {n c : Nat} {l : List UInt8} (h : Sl w a n c l) (hk : Kp b w w') (hne : ∀ p, a = some p → 0 < n → p.block ≠ b) : Sl w' a n c l :=
  ⟨h.len, h.le, h.max, h.nil, fun i hi => by
    obtain ⟨b', o, e, hc⟩ := h.row i hi
    have hn := hne _ e (by have := h.len; omega)
    exact ⟨b', o, e, (World.cell?_of_block (a := ⟨b', o + i, none⟩) (hk.block b' (Hu.cell_lt hc) hn)).trans hc⟩⟩
/-- What is left, stored. -/
theorem Rg'.setLeft {w : World} {r A limit : Nat} {s : RS} (h : Rg' w r A limit s) (la : Option Addr) (ln lc : Nat) (l : List UInt8) (hs : Sl w la ln lc l) (hne : ∀ p, la = some p → 0 < ln → p.block < r ∧ p.block ≠ A) (hl : l.length ≤ 1000000) :
    Rg' (w.setCell ⟨r, 0, none⟩ (.slice la ln lc)) r A limit { s with left := l } := by
  obtain ⟨la0, ln0, lc0, a0, _, _⟩ := h.c0
  obtain ⟨v, a3, a4⟩ := h.c3
  have hne' := h.ne
  refine ⟨⟨la, ln, lc, cell_setS _ _ _ _ _ a0, sl_kp hs ((Kp.refl r w).set 0 _) (fun p hp h0 => by have := hne p hp h0; omega), hne⟩, ?_, ?_, ⟨v, ?_, a4.kp ((Kp.refl r w).set 0 _) (by omega)⟩, ?_, fun i => by rw [World.frozen?_setCell]; exact h.z i, h.has.kp ((Kp.refl r w).set 0 _) (by omega), h.ne, h.m, h.lim, hl, h.sz, h.ol, h.glob⟩
  · rw [cell_setN _ _ _ _ _ (by omega)]; exact h.c1
  · rw [cell_setN _ _ _ _ _ (by omega)]; exact h.c2
  · rw [cell_setN _ _ _ _ _ (by omega)]; exact a3
  · rw [cell_setN _ _ _ _ _ (by omega)]; exact h.c4
theorem part_ne {la : Option Addr} {ln lc k r A : Nat} (h : ∀ p, la = some p → 0 < ln → p.block < r ∧ p.block ≠ A) : ∀ p, Hu.partAt la lc k = some p → 0 < ln - k → p.block < r ∧ p.block ≠ A := by
  intro p hp h0
  unfold Hu.partAt at hp
  split at hp
  · exact h p hp (by omega)
  · cases la with
    | none => simp at hp
    | some q =>
      simp at hp
      have h2 := h q rfl (by omega)
      have e : (q.add k).block = q.block := by unfold Addr.add; split <;> rfl
      rw [← hp, e]
      exact h2
/-- The list's slice. -/
def lv (r : Nat) (w : World) : Value := (w.cell? ⟨r, 3, none⟩).getD undef
/-- Of what was there only blocks A and r and the list's row may have turned. -/
structure Kr (r A : Nat) (w w' : World) : Prop where
  os : w'.os = w.os
  tape : w'.tape = w.tape
  output : w'.output = w.output
  size : w.heap.size ≤ w'.heap.size
  block : ∀ k, k < w.heap.size → k ≠ A → k ≠ r → (lv r w).ownBlock ≠ some k → w'.heap[k]? = w.heap[k]? ∧ (lv r w').ownBlock ≠ some k
theorem Kr.trans {r A : Nat} {x y z : World} (h : Kr r A x y) (k : Kr r A y z) : Kr r A x z :=
  ⟨k.os.trans h.os, k.tape.trans h.tape, k.output.trans h.output, Nat.le_trans h.size k.size, fun i hi h1 h2 h3 => by
    obtain ⟨e1, e2⟩ := h.block i hi h1 h2 h3
    obtain ⟨e3, e4⟩ := k.block i (Nat.lt_of_lt_of_le hi h.size) h1 h2 e2
    exact ⟨e3.trans e1, e4⟩⟩
theorem Kr.of_below {r A : Nat} {w w' : World} (h : Below w.heap.size w w') (hr : r < w.heap.size) : Kr r A w w' :=
  ⟨h.os, h.tape, h.output, h.size, fun k hk _ _ hv => ⟨h.block k hk, by
    have e : lv r w' = lv r w := by unfold lv; rw [h.cell (p := ⟨r, 3, none⟩) hr]
    rw [e]; exact hv⟩⟩
theorem Kr.set {r A : Nat} (w : World) (i : Nat) (v : Value) (hi : i ≠ 3) : Kr r A w (w.setCell ⟨r, i, none⟩ v) :=
  ⟨rfl, rfl, rfl, by simp [World.setCell], fun k _ _ h2 hv => ⟨Below.heap_setCell _ _ _ _ h2, by
    have e : lv r (w.setCell ⟨r, i, none⟩ v) = lv r w := by unfold lv; rw [cell_setN _ _ _ _ _ hi]
    rw [e]; exact hv⟩⟩
theorem Kr.of_kp {r A : Nat} {w w' : World} (h : Kp A w w') (hne : A ≠ r) (hr : r < w.heap.size) : Kr r A w w' :=
  ⟨h.os, h.tape, h.output, h.size, fun k hk h1 _ hv => ⟨h.block k hk h1, by
    have e : lv r w' = lv r w := by unfold lv; rw [World.cell?_of_block (a := ⟨r, 3, none⟩) (h.block r hr (Ne.symm hne))]
    rw [e]; exact hv⟩⟩
theorem Rg'.own_ne {w : World} {r A limit : Nat} {s : RS} (h : Rg' w r A limit s) {k : Nat} (hk : k ≤ r ∨ w.heap.size ≤ k) : (lv r w).ownBlock ≠ some k := by
  obtain ⟨v, a3, a4⟩ := h.c3
  unfold lv
  rw [a3]
  intro e
  have := World.ownsRow.lt a4 k e
  omega
theorem Kr.kq {r A limit : Nat} {w w' : World} {s : RS} (h : Kr r A w w') (hg : Rg' w r A limit s) : Kq r A r w w' :=
  ⟨h.os, h.tape, h.output, h.size, fun k hk h1 h2 => (h.block k (by have := hg.lt; omega) h1 h2 (hg.own_ne (Or.inl (by omega)))).1⟩
/-- A block that stands above the reading, but not the list's, stays. -/
theorem Kr.box {r A : Nat} {w w' : World} (h : Kr r A w w') {k : Nat} (hk : k < w.heap.size) (h1 : A < k) (h2 : r < k) (hv : (lv r w).ownBlock ≠ some k) : w'.heap[k]? = w.heap[k]? ∧ (lv r w').ownBlock ≠ some k := h.block k hk (by omega) (by omega) hv
/-- What a reading's method answers: a value, and what it holds then; or it gives up. -/
def Step (E : Nat → Value) (r A limit : Nat) {α : Type} (val : α → Value) (x : Res (α × RS)) (w : World) (e : Ending) (w' : World) : Prop := Kr r A w w' ∧ match x with
  | .ok (y, s') => e = .returned (val y) ∧ Rg' w' r A limit s'
  | .er c => Gave E c e
/-- A number's step. -/
def numS (bits : Nat) (s : RS) : Res (Nat × RS) := match getInt bits s.left with
  | .er c => .er c
  | .ok (n, k) => .ok (n, { s with left := s.left.drop k })
def textS (s : RS) : Res (ByteArray × RS) := match getText s.left with
  | .er c => .er c
  | .ok (t, k) => .ok (t, { s with left := s.left.drop k })

set_option maxRecDepth 100000 in
set_option maxHeartbeats 2000000 in
theorem number_any (E : Nat → Value) (r A limit : Nat) (s : RS) (bits : Nat) (hb1 : 1 ≤ bits) (hb8 : bits ≤ 8) (w : World) (h : Rg' w r A limit s) (hE : Env w E) (hX : Errs E) :
    Calls Tryd.prog 85 #[.pointer (some ⟨r, 0, none⟩), .int .i64 (bits : Int)] w (Step E r A limit (fun n : Nat => .int .i64 (n : Int)) (numS bits s) w) := by
  obtain ⟨la, ln, lc, a0, a1, a2⟩ := h.c0
  have hlen := a1.len
  have hcn := a1.le
  have hcm := a1.max
  unfold maxLen at hcm
  have hl6 := h.len
  have hlt := h.lt
  have HI := Lib.hid (int_any E bits la ln lc s.left w hb1 hb8 a1 hE)
  have HR := Lib.hid h
  have HS := Lib.hid a1
  have HN := Lib.hid a2
  cases hi : getInt bits s.left with
  | er d =>
    have HU : Hid (numS bits s = .er d) := Lib.hid (by unfold numS; rw [hi])
    rw [hi] at HI
    obtain ⟨ty, p, hx⟩ := hX d
    have HX := Lib.hid hx
    clear hX hi hx h a1 a2 hE
    go_enter Tryd.func85, Tryd.ntmps85
    go_wp2_with fail
    refine HI.out.mono ?_
    rintro e w1 ⟨rfl, hb1⟩
    simp only [intV, HX.out]
    go_wp2_with fail
    refine (giveUp_any ty p _).mono ?_
    rintro e w' ⟨rfl, rfl⟩
    go_wp2_with fail
    exact ⟨rfl, Kr.of_below hb1 hlt, by rw [HU.out]; show _ = _; rw [HX.out]⟩
  | ok q =>
    obtain ⟨n, k⟩ := q
    rw [hi] at HI
    have HU : Hid (numS bits s = .ok (n, { s with left := s.left.drop k })) := Lib.hid (by unfold numS; rw [hi])
    have hk := getInt_ok hb8 hi
    obtain ⟨hk1, hk2, hk3, hk4⟩ := hk
    have hkn : k ≤ ln := by omega
    have hsl := fun W => slice_l la ln lc (k : Int) (by omega) (by omega) (ln - k) (lc - k) (by omega) (by omega) k (by omega) W
    have hz := fun W (hW : Below w.heap.size w W) => (HR.out.below hW).z 0
    have HZ := Lib.hid hz
    clear hX hi h a1 a2 hE hz
    go_enter Tryd.func85, Tryd.ntmps85
    go_wp2_with fail
    refine HI.out.mono ?_
    rintro e w1 ⟨rfl, hb1⟩
    simp only [intV]
    have b0 := (hb1.cell (p := ⟨r, 0, none⟩) hlt).trans a0
    have hz1 := HZ.out w1 hb1
    have HR1 := Lib.hid (HR.out.below hb1)
    have HS1 := Lib.hid (HS.out.kept hb1)
    clear HI a0
    go_wp2
    go_ret
    refine ⟨(Kr.of_below hb1 hlt).trans (Kr.set w1 0 _ (by omega)), ?_⟩
    rw [HU.out]
    refine ⟨rfl, HR1.out.setLeft _ _ _ _ (sl_part HS1.out k (ln - k) (by omega) _ ?_) (part_ne HN.out) (by simp; omega)⟩
    rw [List.take_of_length_le (by simp; omega)]
set_option maxRecDepth 100000 in
set_option maxHeartbeats 2000000 in
theorem rtext_any (E : Nat → Value) (r A limit : Nat) (s : RS) (w : World) (h : Rg' w r A limit s) (hE : Env w E) (hX : Errs E) :
    Calls Tryd.prog 119 #[.pointer (some ⟨r, 0, none⟩)] w (Step E r A limit (fun t : ByteArray => .string t) (textS s) w) := by
  obtain ⟨la, ln, lc, a0, a1, a2⟩ := h.c0
  have hlen := a1.len
  have hcn := a1.le
  have hcm := a1.max
  unfold maxLen at hcm
  have hl6 := h.len
  have hlt := h.lt
  have HI := Lib.hid (text_any E la ln lc s.left w a1 (by omega) hE hX)
  have HR := Lib.hid h
  have HS := Lib.hid a1
  have HN := Lib.hid a2
  cases hi : getText s.left with
  | er d =>
    have HU : Hid (textS s = .er d) := Lib.hid (by unfold textS; rw [hi])
    rw [hi] at HI
    obtain ⟨ty, p, hx⟩ := hX d
    have HX := Lib.hid hx
    clear hX hi hx h a1 a2 hE
    go_enter Tryd.func119, Tryd.ntmps119
    go_wp2_with fail
    refine HI.out.mono ?_
    rintro e w1 ⟨rfl, hb1⟩
    simp only [textV, HX.out]
    go_wp2_with fail
    refine (giveUp_any ty p _).mono ?_
    rintro e w' ⟨rfl, rfl⟩
    go_wp2_with fail
    exact ⟨rfl, Kr.of_below hb1 hlt, by rw [HU.out]; show _ = _; rw [HX.out]⟩
  | ok q =>
    obtain ⟨n, k⟩ := q
    rw [hi] at HI
    have HU : Hid (textS s = .ok (n, { s with left := s.left.drop k })) := Lib.hid (by unfold textS; rw [hi])
    have hk := getText_ok hi
    obtain ⟨hk1, hk2⟩ := hk
    have hkn : k ≤ ln := by omega
    have hsl := fun W => slice_l la ln lc (k : Int) (by omega) (by omega) (ln - k) (lc - k) (by omega) (by omega) k (by omega) W
    have hz := fun W (hW : Below w.heap.size w W) => (HR.out.below hW).z 0
    have HZ := Lib.hid hz
    clear hX hi h a1 a2 hE hz
    go_enter Tryd.func119, Tryd.ntmps119
    go_wp2_with fail
    refine HI.out.mono ?_
    rintro e w1 ⟨rfl, hb1⟩
    simp only [textV]
    have b0 := (hb1.cell (p := ⟨r, 0, none⟩) hlt).trans a0
    have hz1 := HZ.out w1 hb1
    have HR1 := Lib.hid (HR.out.below hb1)
    have HS1 := Lib.hid (HS.out.kept hb1)
    clear HI a0
    go_wp2
    go_ret
    refine ⟨(Kr.of_below hb1 hlt).trans (Kr.set w1 0 _ (by omega)), ?_⟩
    rw [HU.out]
    refine ⟨rfl, HR1.out.setLeft _ _ _ _ (sl_part HS1.out k (ln - k) (by omega) _ ?_) (part_ne HN.out) (by simp; omega)⟩
    rw [List.take_of_length_le (by simp; omega)]
end Go.Proofs.YtlfnglnokakpfaaDoor
